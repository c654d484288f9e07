/-
  Proved: for every channel, the program's DensityOf answers as the model's and leaves the channel alone (math/bits' table laid). No condition beyond the row's laid variable.
-/
import Derived.Test.YtiadoekhhmcokaaDoorChanE
import Derived.Test.YtiadoekhhmcokaaDoorDens
namespace Go.Proofs.YtiadoekhhmcokaaDoor
set_option linter.unusedSimpArgs false
set_option linter.unusedVariables false
open Go.ChangeShapes Go.WideShapes Go.ChangeAt Go.RowKit

/-- The greatest density of the first k columns. -/
def densMx (T B : List Int) : Nat → Nat
  | 0 => 0
  | k + 1 => max (densMx T B k) (densN T B T.length (k : Int) (netsL T B T.length))
theorem densMx_le (T B : List Int) (k : Nat) : densMx T B k ≤ 13 := by
  induction k with
  | zero => exact Nat.zero_le _
  | succ k ih =>
    have h1 := densN_le T B T.length (k : Int) (netsL T B T.length)
    have h2 := netsL_len T B T.length
    unfold densMx
    omega
theorem densMx_int (T B : List Int) (k : Nat) : max (densMx T B k : Int) (densN T B T.length (k : Int) (netsL T B T.length) : Int) = (densMx T B (k + 1) : Int) := by
  show _ = ((max _ _ : Nat) : Int)
  omega
def densOfV (T B : List Int) : Value := if chanB T B = true then .tuple #[.int .i64 (densMx T B T.length), .bool true] else .tuple #[.int .i64 0, .bool false]
theorem densOfV_f {T B : List Int} (h : chanB T B = false) : densOfV T B = .tuple #[.int .i64 0, .bool false] := by unfold densOfV; rw [h]; rfl
theorem densOfV_t {T B : List Int} (h : chanB T B = true) : densOfV T B = .tuple #[.int .i64 (densMx T B T.length), .bool true] := by unfold densOfV; rw [h]; rfl
theorem densOfV_parts (T B : List Int) : ∃ lo b, densOfV T B = .tuple #[.int .i64 lo, .bool b] := by
  cases h : chanB T B
  · exact ⟨_, _, densOfV_f h⟩
  · exact ⟨_, _, densOfV_t h⟩

set_option maxRecDepth 100000 in
set_option maxHeartbeats 800000 in
theorem l03Densest_any (b : Nat) (A A' : Option Addr) (T B : List Int) (n n' c c' : Nat) (w : World) (hb : ChAt w b A A' n n' c c') (hp : IntsAt w w.heap.size A T) (hq : IntsAt w w.heap.size A' B) (HT : Hid (T.length = n)) (HB : Hid (B.length = n')) (hn : n ≤ 24) (HN : Hid (n' = n)) :
    Calls Tryd.prog 70 #[.pointer (some ⟨b, 0, none⟩)] w fun e w' => e = .returned (.int .i64 (densMx T B n)) ∧ Below w.heap.size w w' := by
  have hnI : (n : Int) ≤ 24 := by omega
  go_enter Tryd.func70, Tryd.ntmps70
  go_wp2
  go_loopw [3, 4] (fun m i wr => ∃ k : Nat, k ≤ n ∧ i = .int .i64 k ∧ m = .int .i64 (densMx T B k) ∧ Below w.heap.size w wr) (fun _ i _ => n - (intOf i).toNat)
  case atStart => exact ⟨0, Nat.zero_le _, rfl, rfl, Below.refl _ _⟩
  case round =>
    obtain ⟨k, hk, rfl, rfl, hbb⟩ := hrel
    have hbk := hb.to hbb
    obtain ⟨_, e0, e1⟩ := hb.to hbb
    by_cases hlt : k < n
    · have hltI : (k : Int) < n := by omega
      have hk0 : (0 : Int) ≤ k := by omega
      have hds := l03Density_any b A A' T B n n' c c' (k : Int) wr hbk (hp.to hbb) (hq.to hbb) HT HB hn HN
      have HMx := Lib.hid (densMx_int T B k)
      have HTN := HT.out
      rw [HTN] at HMx
      have hmx := fun w1 => l00Max_any (densMx T B k : Int) (densN T B n (k : Int) (netsL T B n) : Int) w1
      rw [HMx.out] at hmx
      clear hbk HTN
      go_wp2_with (first
        | (go_at_call 68; refine hds.mono ?_; rintro e w1 ⟨rfl, hb1⟩)
        | (go_at_call 76; refine (hmx _).mono ?_; rintro e w2 ⟨rfl, rfl⟩))
      go_roundw
      case rel => exact ⟨k + 1, by omega, by go_num, rfl, bl_step hbb hb1 hbb.size⟩
      case measure => simp [intOf]; omega
    · obtain rfl : k = n := by omega
      clear hbk
      go_wp2
      go_ret
      exact ⟨rfl, hbb⟩

set_option maxHeartbeats 800000 in
theorem DensityOfS_any (A A' : Option Addr) (T B : List Int) (c c' : Nat) (w : World) (hp : IntsAt w w.heap.size A T) (hq : IntsAt w w.heap.size A' B) :
    Calls Tryd.prog 32 #[.agg #[.slice A T.length c, .slice A' B.length c']] w fun e w' => e = .returned (densOfV T B) ∧ Below w.heap.size w w' := by
  have hb0 : Below w.heap.size w (w.alloc (.cells #[.slice A T.length c, .slice A' B.length c'] 34)) := by (repeat (first | assumption | exact Below.refl _ _ | (refine bl_alloc ?_ _) | (refine Below.drew ?_) | (refine bl_drewN ?_ _) | (refine bl_set ?_ (by first | (simp; done) | omega | (simp; omega)) _) | (refine bl_trans ?_ (by assumption)) | (refine bl_step ?_ (by assumption) (by first | omega | exact Below.size (by assumption) | (simp; omega) | (simp; exact Below.size (by assumption))))))
  have hca := ChAt.new w A A' T.length B.length c c' 34
  have hc := l03Is_any w.heap.size A A' T B c c' _ hca (hp.to hb0) (hq.to hb0)
  cases hv : chanB T B
  · have R := Lib.hid (densOfV_f hv)
    rw [hv] at hc
    clear hv
    go_enter Tryd.func32, Tryd.ntmps32
    go_wp2_with (go_at_call 58; refine hc.mono ?_; rintro e w1 ⟨rfl, hb1⟩)
    go_ret2
    exact ⟨by rw [R.out]; rfl, by (repeat (first | assumption | exact Below.refl _ _ | (refine bl_alloc ?_ _) | (refine Below.drew ?_) | (refine bl_drewN ?_ _) | (refine bl_set ?_ (by first | (simp; done) | omega | (simp; omega)) _) | (refine bl_trans ?_ (by assumption)) | (refine bl_step ?_ (by assumption) (by first | omega | exact Below.size (by assumption) | (simp; omega) | (simp; exact Below.size (by assumption))))))⟩
  · have R := Lib.hid (densOfV_t hv)
    obtain ⟨h1, h24, hBT⟩ := chanB_form hv
    have HBT := Lib.hid hBT
    rw [hv] at hc
    clear hv hBT
    go_enter Tryd.func32, Tryd.ntmps32
    go_wp2_with fail
    refine hc.mono ?_
    rintro e w1 ⟨rfl, hb1⟩
    have b1 := bl_step hb0 hb1 hb0.size
    have hca1 := hca.to hb1
    go_wp2_with fail
    refine (l03Densest_any w.heap.size A A' T B T.length B.length c c' _ hca1 (hp.to b1) (hq.to b1) rfl rfl h24 HBT).mono ?_
    rintro e w2 ⟨rfl, hb2⟩
    go_wp2
    go_ret2
    exact ⟨by rw [R.out]; rfl, by (repeat (first | assumption | exact Below.refl _ _ | (refine bl_alloc ?_ _) | (refine Below.drew ?_) | (refine bl_drewN ?_ _) | (refine bl_set ?_ (by first | (simp; done) | omega | (simp; omega)) _) | (refine bl_trans ?_ (by assumption)) | (refine bl_step ?_ (by assumption) (by first | omega | exact Below.size (by assumption) | (simp; omega) | (simp; exact Below.size (by assumption))))))⟩

set_option maxRecDepth 100000 in
set_option maxHeartbeats 800000 in
theorem DensityOfI_any (A A' : Option Addr) (T B : List Int) (c c' : Nat) (w : World) (hp : IntsAt w w.heap.size A T) (hq : IntsAt w w.heap.size A' B) (hL : BruAt w) :
    Calls Tryd.prog 33 #[.agg #[.slice A T.length c, .slice A' B.length c']] w fun e w' => e = .returned (densOfV T B) ∧ Below w.heap.size w w' := by
  have hb0 : Below w.heap.size w (w.alloc (.cells #[.slice A T.length c, .slice A' B.length c'] 34)) := by (repeat (first | assumption | exact Below.refl _ _ | (refine bl_alloc ?_ _) | (refine Below.drew ?_) | (refine bl_drewN ?_ _) | (refine bl_set ?_ (by first | (simp; done) | omega | (simp; omega)) _) | (refine bl_trans ?_ (by assumption)) | (refine bl_step ?_ (by assumption) (by first | omega | exact Below.size (by assumption) | (simp; omega) | (simp; exact Below.size (by assumption))))))
  have hc := columnsOf_any A A' T B c c' (w.alloc (.cells #[.slice A T.length c, .slice A' B.length c'] 34)) (hp.to hb0) (hq.to hb0)
  go_enter Tryd.func33, Tryd.ntmps33
  go_wp2_with fail
  refine hc.mono ?_
  rintro e w1 ⟨hb1, ⟨hv, g, rfl, hG, hg⟩ | ⟨hv, v, rfl⟩⟩
  · have R := Lib.hid (densOfV_t hv)
    obtain ⟨h1, h24, hBT⟩ := chanB_form hv
    have b1 := bl_step hb0 hb1 hb0.size
    obtain ⟨n, hn⟩ : ∃ n, T.length = n := ⟨_, rfl⟩
    have HN := Lib.hid hn
    rw [hn] at hG h24
    rw [hn]
    clear hv hBT hn
    have hnI : (n : Int) ≤ 24 := by omega
    go_wp2
    go_loopw [6, 7, 17] (fun m _ i wr => ∃ k : Nat, k ≤ n ∧ i = .int .i64 k ∧ m = .int .i64 (densMx T B k) ∧ Below w1.heap.size w1 wr) (fun _ _ i _ => n - (intOf i).toNat)
    case atStart => exact ⟨0, Nat.zero_le _, rfl, rfl, Below.refl _ _⟩
    case round =>
      obtain ⟨k, hk, rfl, rfl, hbb⟩ := hrel
      by_cases hlt : k < n
      · have hltI : (k : Int) < n := by omega
        have hk0 : (0 : Int) ≤ k := by omega
        have hds := densityAt_any g T B n (k : Int) wr (hG.to hbb) h24 ((hL.to b1).to hbb)
        have HMx := Lib.hid (densMx_int T B k)
        have HTN := HN.out
        rw [HTN] at HMx
        clear HTN
        go_wp2_with fail
        refine hds.mono ?_
        rintro e w2 ⟨rfl, hb2⟩
        have hmax : ∀ x y : Int, (if y < x then x else y) = max x y := fun x y => by split <;> omega
        have hmax2 : ∀ x y : Int, (if x < y then y else x) = max x y := fun x y => by split <;> omega
        have HM2 := HMx.out
        go_wp2
        go_roundw
        case rel => exact ⟨k + 1, by omega, by go_num, by first | rfl | rw [HM2], bl_step hbb hb2 hbb.size⟩
        case measure => simp [intOf]; omega
      · obtain rfl : k = n := by omega
        go_wp2
        go_ret2
        exact ⟨by rw [R.out, HN.out]; rfl, bl_step b1 hbb b1.size⟩
  · have R := Lib.hid (densOfV_f hv)
    clear hv
    go_wp2
    go_ret2
    exact ⟨by rw [R.out]; rfl, by (repeat (first | assumption | exact Below.refl _ _ | (refine bl_alloc ?_ _) | (refine Below.drew ?_) | (refine bl_drewN ?_ _) | (refine bl_set ?_ (by first | (simp; done) | omega | (simp; omega)) _) | (refine bl_trans ?_ (by assumption)) | (refine bl_step ?_ (by assumption) (by first | omega | exact Below.size (by assumption) | (simp; omega) | (simp; exact Below.size (by assumption))))))⟩
end Go.Proofs.YtiadoekhhmcokaaDoor
namespace Go.Proofs.YtiadoekhhmcokaaDoor.fnExactDensityOf
open Go.ChangeShapes Go.WideShapes Go.ChangeAt Go.RowKit

set_option maxRecDepth 100000 in
set_option maxHeartbeats 800000 in
theorem walk (A : Option Addr) (T : List Int) (c : Nat) (A' : Option Addr) (B : List Int) (c' : Nat) (w : World) (h : RowIn w A T c) (h' : RowIn w A' B c') (hL : BruAt w) :
    Calls Tryd.prog 7 #[.agg #[.slice A T.length c, .slice A' B.length c']] w fun e w' => e = .returned (.bool true) ∧ Below w.heap.size w w' := by
  obtain ⟨hp, _, hlc, hc⟩ := h
  obtain ⟨hq, _, hlc', hc'⟩ := h'
  have hb0 : Below w.heap.size w (w.alloc (.cells #[.slice A T.length c, .slice A' B.length c'] 30)) := by (repeat (first | assumption | exact Below.refl _ _ | (refine bl_alloc ?_ _) | (refine Below.drew ?_) | (refine bl_drewN ?_ _) | (refine bl_set ?_ (by first | (simp; done) | omega | (simp; omega)) _) | (refine bl_trans ?_ (by assumption)) | (refine bl_step ?_ (by assumption) (by first | omega | exact Below.size (by assumption) | (simp; omega) | (simp; exact Below.size (by assumption))))))
  by_cases hs : T.length + B.length ≤ 1048576
  · obtain ⟨lo, b, hv⟩ : ∃ lo b, densOfV T B = .tuple #[.int .i64 lo, .bool b] := densOfV_parts _ _
    have H := Lib.hid hv
    have hl : T.length ≤ 1048576 := by omega
    have hl' : B.length ≤ 1048576 := by omega
    clear hv
    go_enter Tryd.func7, Tryd.ntmps7
    go_wp2_with fail
    refine (szChannel_fits _ _ _ _ _ _ _ hs).mono ?_
    rintro e w1 ⟨⟨k, hk, rfl⟩, hb1⟩
    have hkI : ¬ k < 0 := by omega
    have hca := (ChAt.new w A A' T.length B.length c c' 30).to hb1
    have b1 : Below w.heap.size w w1 := bl_step hb0 hb1 (by simp)
    have hca1 := hca
    obtain ⟨_, e0, e1⟩ := hca1
    clear hb1 hb0
    go_wp2_with fail
    refine (toChannel_new _ _ _ _ _ _ _ (hp.to b1) (hq.to b1) hl hl').mono ?_
    rintro e w2 ⟨g1, g2, rfl, hB1, hB2, hb2, hg1, hg2⟩
    have b2 := bl_step b1 hb2 b1.size
    go_wp2_with fail
    refine (DensityOfS_any _ _ _ _ _ _ _ hB1.nums hB2.nums).mono ?_
    rintro e w3 ⟨rfl, hb3⟩
    rw [H.out]
    have hca3 := (hca.to hb2).to hb3
    have b3 := bl_step b2 hb3 b2.size
    clear e0 e1 hca b1 hB1 hB2 hb2 hb3 b2 hg1 hg2
    have hca3' := hca3
    obtain ⟨_, e0, e1⟩ := hca3'
    go_wp2_with fail
    refine (toChannel_new _ _ _ _ _ _ _ (hp.to b3) (hq.to b3) hl hl').mono ?_
    rintro e w4 ⟨g3, g4, rfl, hB3, hB4, hb4, hg3, hg4⟩
    have b4 := bl_step b3 hb4 b3.size
    have hca4 := hca3.to hb4
    clear e0 e1 b3 hca3 hb4
    have hx4 : Below w4.heap.size w4 (w4.alloc (.cells #[.slice (some ⟨g3, 0, none⟩) T.length T.length, .slice (some ⟨g4, 0, none⟩) B.length B.length] 34)) := (Below.refl _ _).alloc (Nat.le_refl _) _
    have b4' := bl_step b4 hx4 b4.size
    have hcx := ChAt.new w4 (some ⟨g3, 0, none⟩) (some ⟨g4, 0, none⟩) T.length B.length T.length B.length 34
    have hB3' := hB3.to hx4
    have hB4' := hB4.to hx4
    have hca4' := hca4.to hx4
    clear hB3 hB4 hca4 hx4
    go_wp2_with fail
    refine (DensityOfI_any _ _ _ _ _ _ _ hB3'.nums hB4'.nums (hL.to b4')).mono ?_
    rintro e w5 ⟨rfl, hb5⟩
    rw [H.out]
    have b5 := bl_step b4' hb5 b4'.size
    have hB3 := hB3'.to hb5
    have hB4 := hB4'.to hb5
    have hca5 := hca4'.to hb5
    have hcx5 := hcx.to hb5
    clear hB3' hB4' hca4' hcx hb5 b4 b4' hg3 hg4
    obtain ⟨_, e0, e1⟩ := hca5
    obtain ⟨_, e2, e3⟩ := hcx5
    generalize w4.heap.size = X at *
    go_wp2
    go_region_held3 (fun wx => wx.cell? ⟨X, 0, none⟩ = some (.slice (some ⟨g3, 0, none⟩) T.length T.length) ∧ wx.cell? ⟨X, 1, none⟩ = some (.slice (some ⟨g4, 0, none⟩) B.length B.length) ∧ wx.cell? ⟨w.heap.size, 0, none⟩ = some (.slice A T.length c) ∧ wx.cell? ⟨w.heap.size, 1, none⟩ = some (.slice A' B.length c') ∧ Below w5.heap.size w5 wx ∧ w5.heap.size ≤ wx.heap.size)
      (first | exact drewE (by assumption) | exact keepE (by assumption) (by assumption) | exact ⟨e2, e3, e0, e1, (Below.refl _ _).drew, Nat.le_refl _⟩ | exact ⟨e2, e3, e0, e1, Below.refl _ _, Nat.le_refl _⟩)
      (first
        | (go_at_call 21; refine (toChannel_new _ _ _ _ _ _ _ (hp.to (bl_step b5 (fifthE (by assumption)) b5.size)) (hq.to (bl_step b5 (fifthE (by assumption)) b5.size)) hl hl').mono ?_; rintro e w6 ⟨g5, g6, rfl, hB5, hB6, hb6, _, _⟩)
        | (go_at_call 24; refine (eqChannel_same _ _ _ _ _ _ _ _ _ _ _ (hB3.nums.to (fifthE (by assumption))) (hB4.nums.to (fifthE (by assumption))) hB5.nums hB6.nums hl hl').mono ?_; rintro e w7 ⟨rfl, hb7⟩))
    go_wp2
    go_ret
    exact ⟨rfl, bl_step b5 (fifthE (by assumption)) b5.size⟩
  · have hbig : 1048576 < T.length + B.length := by omega
    go_enter Tryd.func7, Tryd.ntmps7
    go_wp2_with fail
    refine (szChannel_big _ _ _ _ _ _ _ hbig (by omega) (by omega)).mono ?_
    rintro e w1 ⟨rfl, hb1⟩
    go_wp2
    go_ret
    exact ⟨rfl, by (repeat (first | assumption | exact Below.refl _ _ | (refine bl_alloc ?_ _) | (refine Below.drew ?_) | (refine bl_drewN ?_ _) | (refine bl_set ?_ (by first | (simp; done) | omega | (simp; omega)) _) | (refine bl_trans ?_ (by assumption)) | (refine bl_step ?_ (by assumption) (by first | omega | exact Below.size (by assumption) | (simp; omega) | (simp; exact Below.size (by assumption))))))⟩
end Go.Proofs.YtiadoekhhmcokaaDoor.fnExactDensityOf
