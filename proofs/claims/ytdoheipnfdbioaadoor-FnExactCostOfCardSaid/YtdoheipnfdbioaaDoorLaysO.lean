/-
  Contracts: the layers that a group can have: the whole; is a set among some.
-/
import Derived.Test.YtdoheipnfdbioaaDoorLaysD
namespace Go.Proofs.YtdoheipnfdbioaaDoor
set_option linter.unusedSimpArgs false
set_option linter.unusedVariables false
open Go.ChangeShapes Go.WideShapes Go.ChangeAt Go.RowKit

/-- The layers that a group with the sides a and b can have. -/
noncomputable def laysL (n : Nat) (p0 p1 a b : Nat → Bool) : List Int := if (∀ j, j < n → (a j && b j) = false) then kept2 (maskTo b n) (maskTo a n) (delB n p0 p1 a b b) (delB n p0 p1 a b a) else []
def LaysRes (L : List Int) (w : World) (e : Ending) (w' : World) : Prop := ∃ A c, e = .returned (.slice A L.length c) ∧ NumsAt .u64 w' w'.heap.size A L ∧ Below w.heap.size w w'
set_option maxRecDepth 100000 in
set_option maxHeartbeats 3200000 in
theorem layersOf_any (n gX : Nat) (AJ : Option Addr) (j cJ : Nat) (p0 p1 a b : Nat → Bool) (w : World) (hn : n ≤ 14) :
    Calls Tryd.prog 70 #[.agg #[.int .i64 (n : Int), .slice (some ⟨gX, 0, none⟩) n n, .slice AJ j cJ, .int .u64 (maskTo p0 n : Int), .int .u64 (maskTo p1 n : Int)], .agg #[.int .u64 (maskTo a n : Int), .int .u64 (maskTo b n : Int)]] w (LaysRes (laysL n p0 p1 a b) w) := by
  have hb0 : Below w.heap.size w ((w.alloc (.cells #[.int .i64 (n : Int), .slice (some ⟨gX, 0, none⟩) n n, .slice AJ j cJ, .int .u64 (maskTo p0 n : Int), .int .u64 (maskTo p1 n : Int)] 62)).alloc (.cells #[.int .u64 (maskTo a n : Int), .int .u64 (maskTo b n : Int)] 74)) := by (repeat (first | assumption | exact Below.refl _ _ | (refine bl_alloc ?_ _) | (refine Below.drew ?_) | (refine bl_drewN ?_ _) | (refine bl_set ?_ (by first | (simp; done) | omega | (simp; omega)) _) | (refine bl_trans ?_ (by assumption)) | (refine bl_step ?_ (by assumption) (by first | omega | exact Below.size (by assumption) | (simp; omega) | (simp; exact Below.size (by assumption))))))
  have k0 : Blk ((w.alloc (.cells #[.int .i64 (n : Int), .slice (some ⟨gX, 0, none⟩) n n, .slice AJ j cJ, .int .u64 (maskTo p0 n : Int), .int .u64 (maskTo p1 n : Int)] 62)).alloc (.cells #[.int .u64 (maskTo a n : Int), .int .u64 (maskTo b n : Int)] 74)) w.heap.size #[.int .i64 (n : Int), .slice (some ⟨gX, 0, none⟩) n n, .slice AJ j cJ, .int .u64 (maskTo p0 n : Int), .int .u64 (maskTo p1 n : Int)] 62 := (Blk.new _ _ _).alloc _
  have k1 : Blk ((w.alloc (.cells #[.int .i64 (n : Int), .slice (some ⟨gX, 0, none⟩) n n, .slice AJ j cJ, .int .u64 (maskTo p0 n : Int), .int .u64 (maskTo p1 n : Int)] 62)).alloc (.cells #[.int .u64 (maskTo a n : Int), .int .u64 (maskTo b n : Int)] 74)) (w.heap.size + 1) #[.int .u64 (maskTo a n : Int), .int .u64 (maskTo b n : Int)] 74 := by
    have := Blk.new (w.alloc (.cells #[.int .i64 (n : Int), .slice (some ⟨gX, 0, none⟩) n n, .slice AJ j cJ, .int .u64 (maskTo p0 n : Int), .int .u64 (maskTo p1 n : Int)] 62)) #[.int .u64 (maskTo a n : Int), .int .u64 (maskTo b n : Int)] 74
    rwa [World.size_alloc] at this
  have hz0 : ((w.alloc (.cells #[.int .i64 (n : Int), .slice (some ⟨gX, 0, none⟩) n n, .slice AJ j cJ, .int .u64 (maskTo p0 n : Int), .int .u64 (maskTo p1 n : Int)] 62)).alloc (.cells #[.int .u64 (maskTo a n : Int), .int .u64 (maskTo b n : Int)] 74)).heap.size = w.heap.size + 1 + 1 := by simp
  have r1 := mask_and a b (k := n) (by omega)
  have z1 := mask_zero_eq (p := fun j => a j && b j) (k := n)
  by_cases hd : ∀ j, j < n → (a j && b j) = false
  · have HL : Hid (laysL n p0 p1 a b = kept2 (maskTo b n) (maskTo a n) (delB n p0 p1 a b b) (delB n p0 p1 a b a)) := by show _ = _; unfold laysL; rw [if_pos hd]
    have y0 : maskTo (fun j => a j && b j) n = 0 := mask_zero hd
    rw [y0] at r1
    have kg := Blk.new ((w.alloc (.cells #[.int .i64 (n : Int), .slice (some ⟨gX, 0, none⟩) n n, .slice AJ j cJ, .int .u64 (maskTo p0 n : Int), .int .u64 (maskTo p1 n : Int)] 62)).alloc (.cells #[.int .u64 (maskTo a n : Int), .int .u64 (maskTo b n : Int)] 74)) #[.int .u64 (maskTo b n : Int), .int .u64 (maskTo a n : Int)] 54
    rw [hz0] at kg
    have kk0 := k0.alloc (.cells #[.int .u64 (maskTo b n : Int), .int .u64 (maskTo a n : Int)] 54)
    have kk1 := k1.alloc (.cells #[.int .u64 (maskTo b n : Int), .int .u64 (maskTo a n : Int)] 54)
    have bb := bl_alloc hb0 (.cells #[.int .u64 (maskTo b n : Int), .int .u64 (maskTo a n : Int)] 54)
    have CD := deleteDel_any (w.heap.size + 1 + 1) (w.heap.size + 1) w.heap.size (maskTo b n) (maskTo a n) (delB n p0 p1 a b b) (delB n p0 p1 a b a) _ kg
      (fun wx hx => del_any n gX AJ j cJ p0 p1 a b b (w.heap.size + 1) w.heap.size wx hn (kk1.to hx) (kk0.to hx)) (fun wx hx => del_any n gX AJ j cJ p0 p1 a b a (w.heap.size + 1) w.heap.size wx hn (kk1.to hx) (kk0.to hx))
    clear hd z1 k0 k1 kk0 kk1 kg y0
    generalize kept2 (maskTo b n) (maskTo a n) (delB n p0 p1 a b b) (delB n p0 p1 a b a) = L at *
    generalize maskTo a n = ma at *
    generalize maskTo b n = mb at *
    generalize maskTo p0 n = q0 at *
    generalize maskTo p1 n = q1 at *
    go_enter Tryd.func70, Tryd.ntmps70
    go_wp2_with fail
    refine CD.mono ?_
    rintro e w1 ⟨rfl, hN, hb1⟩
    go_wp2
    go_ret
    exact ⟨some ⟨w.heap.size + 1 + 1, 0, none⟩, 2, by rw [HL.out]; rfl, by rw [HL.out]; exact hN, bb.trans (hb1.mono (by omega))⟩
  · have HL : Hid (laysL n p0 p1 a b = []) := by show _ = _; unfold laysL; rw [if_neg hd]
    have y0 : ¬ maskTo (fun j => a j && b j) n = 0 := fun h => hd (mask_zero_iff h)
    have y1 : ¬ (maskTo (fun j => a j && b j) n : Int) = 0 := by omega
    clear hd z1 k0 k1
    generalize maskTo (fun j => a j && b j) n = m at *
    generalize maskTo a n = ma at *
    generalize maskTo b n = mb at *
    generalize maskTo p0 n = q0 at *
    generalize maskTo p1 n = q1 at *
    go_enter Tryd.func70, Tryd.ntmps70
    go_wp2
    go_ret
    exact ⟨none, 0, by rw [HL.out]; rfl, by rw [HL.out]; exact nums_nil, hb0⟩
set_option maxHeartbeats 800000 in
theorem indexBits_any (A : Option Addr) (L : List Int) (c : Nat) (x : Int) (w : World) (hp : NumsAt .u64 w w.heap.size A L) (hl : L.length ≤ 2) :
    Calls Tryd.prog 92 #[.slice A L.length c, .int .u64 x] w fun e w' => (∃ r : Int, e = .returned (.int .i64 r) ∧ (0 ≤ r ↔ x ∈ L)) ∧ w = w' := by
  have hlI : (L.length : Int) ≤ 2 := by omega
  go_enter Tryd.func92, Tryd.ntmps92
  go_wp2
  go_loop [5, 8] (fun _ i => ∃ k : Nat, k ≤ L.length ∧ i = .int .i64 k ∧ Hid (∀ i, i < k → L.getD i 0 ≠ x)) (fun _ i => L.length - (intOf i).toNat)
  case atStart => exact ⟨0, Nat.zero_le _, rfl, fun i hi => by omega⟩
  case round =>
    obtain ⟨k, hk, rfl, HX⟩ := hrel
    have hk0 : (0 : Int) ≤ (k : Int) := by omega
    by_cases hlt : k < L.length
    · obtain ⟨b, off, rfl, hbB, hc⟩ := hp (by omega)
      have d0 := hc k hlt
      have hltI : (k : Int) < (L.length : Int) := by omega
      have HM : Hid (L.getD k 0 ∈ L) := by
        show _ ∈ _
        rw [List.getD_eq_getElem?_getD, List.getElem?_eq_getElem hlt]
        exact List.getElem_mem hlt
      obtain ⟨v, hv⟩ : ∃ v, L.getD k 0 = v := ⟨_, rfl⟩
      rw [hv] at d0 HM
      have HV := Lib.hid hv
      clear hc hp hv
      by_cases h : x = v
      · subst h
        go_wp2
        go_ret
        exact ⟨⟨k, rfl, ⟨fun _ => HM.out, fun _ => by omega⟩⟩, rfl⟩
      · have hne : (x == v) = false := by simpa using h
        have HX2 : Hid (∀ i, i < k + 1 → L.getD i 0 ≠ x) := fun i hi => by
          by_cases e : i = k
          · subst e; rw [HV.out]; exact fun e => h e.symm
          · exact HX.out i (by omega)
        clear h
        go_wp2
        go_round
        case rel => exact ⟨k + 1, by omega, by go_num, HX2⟩
        case measure => simp [intOf]; omega
    · obtain rfl : k = L.length := by omega
      have HF : Hid (¬ x ∈ L) := fun hm => by
        obtain ⟨i, hi, e⟩ := List.getElem_of_mem hm
        exact HX.out i hi (by rw [List.getD_eq_getElem?_getD, List.getElem?_eq_getElem hi]; exact e)
      go_wp2
      go_ret
      exact ⟨⟨-1, rfl, ⟨fun h => by omega, fun h => (HF.out h).elim⟩⟩, rfl⟩
theorem containsBits_any (A : Option Addr) (L : List Int) (c : Nat) (x : Int) (w : World) (hp : NumsAt .u64 w w.heap.size A L) (hl : L.length ≤ 2) :
    Calls Tryd.prog 69 #[.slice A L.length c, .int .u64 x] w fun e w' => e = .returned (.bool (decide (x ∈ L))) ∧ w = w' := by
  go_enter Tryd.func69, Tryd.ntmps69
  go_wp2_with fail
  refine (indexBits_any _ _ _ _ _ hp hl).mono ?_
  rintro e w' ⟨⟨r, rfl, hr⟩, rfl⟩
  have HR := Lib.hid hr
  clear hr
  go_wp2
  go_ret
  exact ⟨retB (decide_eq_decide.2 HR.out), rfl⟩
end Go.Proofs.YtdoheipnfdbioaaDoor
