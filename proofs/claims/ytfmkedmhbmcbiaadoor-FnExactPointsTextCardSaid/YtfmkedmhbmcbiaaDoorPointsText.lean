/-
  Proved: for every list of points, the program's PointsText answers as the model's and leaves the list alone. No condition beyond the row's laid tables.
-/
import Derived.Test.YtfmkedmhbmcbiaaDoorPText
namespace Go.Proofs.YtfmkedmhbmcbiaaDoor.fnExactPointsText
set_option linter.unusedSimpArgs false
set_option linter.unusedVariables false
open Go.ChangeShapes Go.WideShapes Go.ChangeAt Go.RowKit

/-- What PointsText answers. -/
def ltT (ps : List (Int × Int)) : ByteArray := if arePts ps = true then ptsT ps else ⟨#[]⟩
def ltV (ps : List (Int × Int)) : Value := .tuple #[.string (ltT ps), .bool (arePts ps)]
theorem ltV_f {ps : List (Int × Int)} (h : arePts ps = false) : ltV ps = .tuple #[.string ⟨#[]⟩, .bool false] := by unfold ltV ltT; rw [h]; rfl
theorem ltV_t {ps : List (Int × Int)} (h : arePts ps = true) : ltV ps = .tuple #[.string (ptsT ps), .bool true] := by unfold ltV ltT; rw [h]; rfl
theorem pts_split {ps : List (Int × Int)} (h : arePts ps = true) : ps.length ≤ 24 ∧ allPt ps = true := by
  unfold arePts at h
  rw [Bool.and_eq_true, decide_eq_true_eq] at h
  exact ⟨h.2, h.1⟩

theorem PointsTextS_any (A : Option Addr) (ps : List (Int × Int)) (c : Nat) (w : World) (hp : PtsAt w w.heap.size A ps) (hl : ps.length ≤ 1048576) :
    Calls Tryd.prog 14 #[.slice A ps.length c] w fun e w' => e = .returned (ltV ps) ∧ Below w.heap.size w w' := by
  cases hv : arePts ps
  · have H := Lib.hid hv
    have R := Lib.hid (ltV_f hv)
    clear hv
    go_enter Tryd.func14, Tryd.ntmps14
    go_wp2_with (go_at_call 35; refine (l01Points_any _ _ _ _ hp hl).mono ?_; rintro e w' ⟨rfl, hb'⟩; rw [H.out])
    go_ret2
    exact ⟨by rw [R.out]; rfl, hb'⟩
  · have H := Lib.hid hv
    have R := Lib.hid (ltV_t hv)
    obtain ⟨h60, hi⟩ := pts_split hv
    clear hv
    go_enter Tryd.func14, Tryd.ntmps14
    go_wp2_with fail
    refine (l01Points_any _ _ _ _ hp hl).mono ?_
    rintro e w1 ⟨rfl, hb1⟩
    rw [H.out]
    go_wp2_with fail
    refine (l01PText_any _ _ _ _ (hp.to hb1) h60 hi).mono ?_
    rintro e w2 ⟨rfl, hb2⟩
    have b2 := bl_trans hb1 hb2
    go_wp2
    go_ret2
    exact ⟨by rw [R.out]; rfl, b2⟩
theorem PointsTextI_any (A : Option Addr) (ps : List (Int × Int)) (c : Nat) (w : World) (hp : PtsAt w w.heap.size A ps) (hl : ps.length ≤ 1048576) (htab : Lib.TabIs Tryd.prog w "internal/strconv.uint64pow10" .u64 Lib.pow10Tab) :
    Calls Tryd.prog 16 #[.slice A ps.length c] w fun e w' => e = .returned (ltV ps) ∧ Below w.heap.size w w' := by
  cases hv : arePts ps
  · have H := Lib.hid hv
    have R := Lib.hid (ltV_f hv)
    clear hv
    go_enter Tryd.func16, Tryd.ntmps16
    go_wp2_with (go_at_call 38; refine (ArePointsI_any _ _ _ _ hp hl).mono ?_; rintro e w' ⟨rfl, hb'⟩; rw [H.out])
    go_ret2
    exact ⟨by rw [R.out]; rfl, hb'⟩
  · have H := Lib.hid hv
    have R := Lib.hid (ltV_t hv)
    obtain ⟨h60, hi⟩ := pts_split hv
    clear hv
    go_enter Tryd.func16, Tryd.ntmps16
    go_wp2_with fail
    refine (ArePointsI_any _ _ _ _ hp hl).mono ?_
    rintro e w1 ⟨rfl, hb1⟩
    rw [H.out]
    have ht1 := Go.Joins.tab_stays fnExactDecimal.gPow htab hb1 (Nat.le_refl _)
    go_wp2_with fail
    refine (joinPts_any _ _ _ _ (hp.to hb1) h60 hi ht1).mono ?_
    rintro e w2 ⟨rfl, hb2⟩
    have b2 := bl_trans hb1 hb2
    go_wp2
    go_ret2
    exact ⟨by rw [R.out]; rfl, b2⟩

set_option maxRecDepth 100000 in
set_option maxHeartbeats 800000 in
theorem walk (A : Option Addr) (ps : List (Int × Int)) (c : Nat) (w : World) (h : PtsAt w w.heap.size A ps ∧ (∀ q ∈ ps, Fits q.1 ∧ Fits q.2) ∧ ps.length ≤ c ∧ c ≤ maxLen) (htab : Lib.TabIs Tryd.prog w "internal/strconv.uint64pow10" .u64 Lib.pow10Tab) :
    Calls Tryd.prog 5 #[.slice A ps.length c] w fun e w' => e = .returned (.bool true) ∧ Below w.heap.size w w' := by
  obtain ⟨hp, _, hlc, hc⟩ := h
  by_cases hl : ps.length ≤ 1048576
  · obtain ⟨s, b, hv⟩ : ∃ s b, ltV ps = .tuple #[.string s, .bool b] := ⟨_, _, rfl⟩
    have H := Lib.hid hv
    clear hv
    have hl' : ¬ (1048576 - (ps.length : Int)) < 0 := by omega
    go_enter Tryd.func5, Tryd.ntmps5
    go_wp2_with fail
    refine (szPointS_any _ _ _ _ hl).mono ?_
    rintro e w1 ⟨rfl, rfl⟩
    go_wp2_with fail
    refine (toPointS_new _ _ _ _ hp hl).mono ?_
    rintro e w1 ⟨g1, rfl, hB1, hb1, _⟩
    go_wp2_with fail
    refine (PointsTextS_any _ _ _ _ hB1.pts hl).mono ?_
    rintro e w2 ⟨rfl, hb2⟩
    rw [H.out]
    have hb2' := bl_trans hb1 hb2
    clear hB1 hb1 hb2
    go_wp2_with fail
    refine (toPointS_new _ _ _ _ (hp.to hb2') hl).mono ?_
    rintro e w3 ⟨g3, rfl, hB3, hb3, _⟩
    have hb3' := bl_trans hb2' hb3
    have ht3 := Go.Joins.tab_stays fnExactDecimal.gPow htab hb3' (Nat.le_refl _)
    clear hb3 hb2'
    go_wp2_with fail
    refine (PointsTextI_any _ _ _ _ hB3.pts hl ht3).mono ?_
    rintro e w4 ⟨rfl, hb4⟩
    rw [H.out]
    have hb4' := bl_trans hb3' hb4
    have hB4 := hB3.to hb4
    clear hB3 hb3' hb4 ht3
    go_wp2_with fail
    refine (toPointS_new _ _ _ _ (hp.to hb4') hl).mono ?_
    rintro e w5 ⟨g5, rfl, hB5, hb5, _⟩
    have hb5' := bl_trans hb4' hb5
    have hB6 := hB4.to hb5
    clear hB4 hb4' hb5
    go_wp2_with fail
    refine (eqPointS_same _ _ _ _ _ _ hB6.pts hB5.pts hl).mono ?_
    rintro e w6 ⟨rfl, hb6⟩
    have hb6' := bl_trans hb5' hb6
    go_wp2
    go_ret
    exact ⟨rfl, hb6'⟩
  · have hs : ((-1 : Int) < 0) := by omega
    go_enter Tryd.func5, Tryd.ntmps5
    go_wp2_with fail
    refine (szPointS_big _ _ _ _ (by omega) (Nat.le_trans hlc hc)).mono ?_
    rintro e w1 ⟨rfl, rfl⟩
    go_wp2
    go_ret
    exact ⟨rfl, Below.refl _ _⟩
end Go.Proofs.YtfmkedmhbmcbiaaDoor.fnExactPointsText
