/-
  Contracts: what the wires of a river come to together: their lengths, their bends; of the model and of the program.
-/
import Derived.Test.YtdpamieheefhdaaRivWire
import Derived.Test.YtdpamieheefhdaaCorMath
namespace Go.Proofs.Ytdpamieheefhdaa
set_option linter.unusedSimpArgs false
set_option linter.unusedVariables false
open Go.ChangeShapes Go.WideShapes Go.ChangeAt Go.RowKit

theorem wireI_any (T B : List Int) (n i k c c' : Nat) (A A' : Option Addr) (w : World) (HT : T.length = n) (HB : B.length = n) (h20 : n ≤ 20) (hk : k ≤ 20) (hi : i < n) (hT : Places T) (hB : Places B) (ha : AscB B n) (hp : IntsAt w w.heap.size A T) (hq : IntsAt w w.heap.size A' B) :
    Calls Try.prog 39 #[.agg #[.slice A n c, .slice A' n c'], .int .i64 k, .int .i64 i] w (OwnPost (wireP T B n i k) w) := by
  obtain ⟨bT, oT, rfl, hbT, hcT⟩ := hp (by omega)
  obtain ⟨bB, oB, rfl, hbB, hcB⟩ := hq (by omega)
  rw [HT] at hcT
  rw [HB] at hcB
  by_cases hle : B.getD i 0 ≤ T.getD i 0
  · exact wireR_any T B n i k bT oT bB oB c c' w h20 hk hi hT hB ⟨hbT, hcT⟩ ⟨hbB, hcB⟩ ha hle
  · exact wireL_any T B n i k bT oT bB oB c c' w (Lib.hid HT) (Lib.hid HB) h20 hk hi hT hB hp hq ⟨hbT, hcT⟩ ⟨hbB, hcB⟩ ha hle

/-- The sum over the first wires. -/
def sumW (f : List Pt → Int) (T B : List Int) (n t : Nat) : Nat → Int
  | 0 => 0
  | k + 1 => sumW f T B n t k + f (wireP T B n k t)
theorem sumW_succ (f : List Pt → Int) (T B : List Int) (n t k : Nat) : sumW f T B n t (k + 1) = sumW f T B n t k + f (wireP T B n k t) := rfl
theorem sumW_in {f : List Pt → Int} {T B : List Int} {n t : Nat} (ht : t ≤ 20) (hf : ∀ L : List Pt, 1 ≤ L.length → L.length ≤ 4096 → 0 ≤ f L ∧ f L ≤ 4096) : ∀ k : Nat, 0 ≤ sumW f T B n t k ∧ sumW f T B n t k ≤ 4096 * (k : Int)
  | 0 => by simp [sumW]
  | k + 1 => by
    have h1 := sumW_in (T := T) (B := B) (n := n) ht hf k
    have h2 := hf (wireP T B n k t) (by unfold wireP; simp) (wireP_len T B n k t ht)
    rw [sumW_succ]
    omega
/-- The sum and true, or none and false. -/
def swV (f : List Pt → Int) (T B : List Int) (t : Int) : Value := bif fitsB T B t then .tuple #[.int .i64 (sumW f T B T.length t.toNat T.length), .bool true] else .tuple #[.int .i64 0, .bool false]
theorem swV_f {f : List Pt → Int} {T B : List Int} {t : Int} (h : fitsB T B t = false) : swV f T B t = .tuple #[.int .i64 0, .bool false] := by unfold swV; rw [h]; rfl
theorem swV_t {f : List Pt → Int} {T B : List Int} {t : Nat} (h : fitsB T B t = true) : swV f T B t = .tuple #[.int .i64 (sumW f T B T.length t T.length), .bool true] := by unfold swV; rw [h]; rfl
def lenF (L : List Pt) : Int := (L.length : Int) - 1
def benF (L : List Pt) : Int := cntB L L.length
theorem lenF_in (L : List Pt) (h1 : 1 ≤ L.length) (h : L.length ≤ 4096) : 0 ≤ lenF L ∧ lenF L ≤ 4096 := by unfold lenF; omega
theorem benF_in (L : List Pt) (_ : 1 ≤ L.length) (h : L.length ≤ 4096) : 0 ≤ benF L ∧ benF L ≤ 4096 := by
  have := cntB_bd L L.length
  unfold benF; omega
theorem wireP_two (T B : List Int) (n i t : Nat) : 2 ≤ (wireP T B n i t).length := by
  have : ∀ k, 1 ≤ (wirL T B n i k).length := fun k => by
    cases k with
    | zero => simp [wirL]
    | succ k => unfold wirL; simp; omega
  unfold wireP
  simp
  have := this t
  omega

set_option maxRecDepth 100000 in
set_option maxHeartbeats 1600000 in
theorem sumOfWires_any (F : Nat) (f : List Pt → Int) (eg : ∀ args w, (callFunc F args).run Try.prog w = .ok (.enter F args) w)
    (hF : ∀ (w : World) (A : Option Addr) (L : List Pt) (c : Nat), PtsAt w w.heap.size A L → L.length ≤ 4096 → Calls Try.prog F #[.slice A L.length c] w fun e w' => e = .returned (.int .i64 (f L)) ∧ Below w.heap.size w w')
    (hf : ∀ L : List Pt, 1 ≤ L.length → L.length ≤ 4096 → 0 ≤ f L ∧ f L ≤ 4096)
    (A A' : Option Addr) (T B : List Int) (c c' : Nat) (t : Int) (w : World) (hp : IntsAt w w.heap.size A T) (hq : IntsAt w w.heap.size A' B) (hl : T.length ≤ 1048576) (hl' : B.length ≤ 1048576) (hlc : T.length ≤ c) (hlc' : B.length ≤ c') :
    Calls Try.prog 45 #[.slice A T.length c, .slice A' B.length c', .int .i64 t, .func (.func F) #[] #[]] w fun e w' => e = .returned (swV f T B t) ∧ Below w.heap.size w w' := by
  cases hfit : fitsB T B t
  · have H := Lib.hid hfit
    have R := Lib.hid (swV_f (f := f) hfit)
    clear hfit
    go_enter Try.func45, Try.ntmps45
    go_wp2_with fail
    refine (FitsRiverI_any _ _ _ _ _ _ _ _ hp hq hl hl' hlc hlc').mono ?_
    rintro e w1 ⟨rfl, hb1⟩
    rw [H.out]
    go_wp2
    go_ret2
    exact ⟨by rw [R.out]; rfl, hb1⟩
  · have hf' := hfit
    unfold fitsB at hf'
    simp only [Bool.and_eq_true] at hf'
    obtain ⟨hr, ht, _⟩ := hf'
    obtain ⟨k0, rfl, hk⟩ := tracks_nat ht
    obtain ⟨hL, h1, h20, hT, hB⟩ := riverB_of hr
    have ha := ascB_of hr
    have R := Lib.hid (swV_t (f := f) hfit)
    have cg := FitsRiverI_any A A' T B c c' k0 w hp hq hl hl' hlc hlc'
    obtain ⟨n, hn⟩ : ∃ n, T.length = n := ⟨_, rfl⟩
    have hn' : B.length = n := by omega
    rw [hn] at ha h20 R
    have cw := fun (w1 : World) (hb1 : Below w.heap.size w w1) (i : Nat) (hi : i < n) => wireI_any T B n i k0 c c' A A' w1 hn hn' h20 hk hi hT hB ha (hp.to hb1) (hq.to hb1)
    have hS := fun k => sumW_in (f := f) (T := T) (B := B) (n := n) hk hf k
    have hWl := fun i => wireP_len T B n i k0 hk
    have hW1 := fun i => wireP_two T B n i k0
    rw [hn] at cg ⊢
    rw [hn'] at cg ⊢
    have H := Lib.hid hfit
    have CW := Lib.hid cw
    have CF := Lib.hid hF
    have HS := Lib.hid hS
    have HWl := Lib.hid hWl
    have HW1 := Lib.hid hW1
    have HF := Lib.hid hf
    have hnI : (n : Int) ≤ 20 := by omega
    have hn0 : (0 : Int) ≤ (n : Int) := by omega
    clear hfit hr ht hL h1 hT hB ha hn hn' cw hF hS hWl hW1 hf hlc hlc' hl hl'
    go_enter Try.func45, Try.ntmps45
    go_wp2_with fail
    refine cg.mono ?_
    rintro e w1 ⟨rfl, hb1⟩
    rw [H.out]
    go_wp2
    have hb2 : Below w.heap.size w (w1.alloc (.cells #[.slice A n c, .slice A' n c'] 60)) := hb1.alloc hb1.size _
    have c0 : (w1.alloc (.cells #[.slice A n c, .slice A' n c'] 60)).cell? ⟨w1.heap.size, 0, none⟩ = some (.slice A n c) := by go_simp
    have c1 : (w1.alloc (.cells #[.slice A n c, .slice A' n c'] 60)).cell? ⟨w1.heap.size, 1, none⟩ = some (.slice A' n c') := by go_simp
    have hz2 : w1.heap.size < (w1.alloc (.cells #[.slice A n c, .slice A' n c'] 60)).heap.size := by simp
    generalize (w1.alloc (.cells #[.slice A n c, .slice A' n c'] 60)) = w2 at *
    go_loopw [11, 23] (fun s i wr => ∃ k : Nat, k ≤ n ∧ i = .int .i64 k ∧ s = .int .i64 (sumW f T B n k0 k) ∧ Below w2.heap.size w2 wr) (fun _ i _ => n - (intOf i).toNat)
    case atStart => exact ⟨0, Nat.zero_le _, rfl, rfl, Below.refl _ _⟩
    case round =>
      obtain ⟨k, hkn, rfl, rfl, hb⟩ := hrel
      by_cases hlt : k < n
      · have d0 := (hb.cell (p := ⟨w1.heap.size, 0, none⟩) hz2).trans c0
        have d1 := (hb.cell (p := ⟨w1.heap.size, 1, none⟩) hz2).trans c1
        have hbw : Below w.heap.size w wr := bl_trans hb2 hb
        have hltI : (k : Int) < (n : Int) := by omega
        have hk0 : (0 : Int) ≤ (k : Int) := by omega
        have s1 := HS.out k
        have HSk := Lib.hid (sumW_succ f T B n k0 k)
        have hl4 := HWl.out k
        have fb := HF.out (wireP T B n k k0) (by have := HW1.out k; omega) hl4
        have CWk := Lib.hid (CW.out wr hbw k hlt)
        obtain ⟨L, hLw⟩ : ∃ L, wireP T B n k k0 = L := ⟨_, rfl⟩
        rw [hLw] at HSk hl4 fb CWk
        obtain ⟨v1, hv1⟩ : ∃ v1, f L = v1 := ⟨_, rfl⟩
        have CFL := Lib.hid (fun w A c h => CF.out w A L c h hl4)
        rw [hv1] at HSk fb CFL
        have hE : IntKind.i64.wrap (sumW f T B n k0 k + v1) = sumW f T B n k0 (k + 1) := by rw [HSk.out]; exact IntWalk.i64_in _ (by omega)
        obtain ⟨s2, hs2⟩ : ∃ s2, sumW f T B n k0 (k + 1) = s2 := ⟨_, rfl⟩
        rw [hs2] at hE
        have HS2 := Lib.hid hs2
        generalize sumW f T B n k0 k = s0 at *
        clear hLw hv1 HSk s1 fb hs2 c0 c1
        go_wp2_with fail
        refine CWk.out.mono ?_
        rintro e w3 ⟨v, rfl, ho, hb3⟩
        obtain ⟨A3, c3, rfl, ho3⟩ := own3_of ho
        clear ho
        go_wp2_with fail
        refine (CFL.out _ _ _ ho3.pts).mono ?_
        rintro e w4 ⟨rfl, hb4⟩
        have bb := bl_trans hb (bl_trans hb3 hb4)
        clear ho3 hb3 hb4
        go_wp2
        go_roundw
        case rel => exact ⟨k + 1, by omega, by go_num, by rw [HS2.out], bb⟩
        case measure => simp [intOf]; omega
      · obtain rfl : k = n := by omega
        go_wp2
        go_ret2
        exact ⟨by rw [R.out]; rfl, bl_trans hb2 hb⟩
end Go.Proofs.Ytdpamieheefhdaa
