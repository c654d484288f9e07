/-
  Proved: for every list of points, the program's BoxBound answers as the model's and leaves the list alone. No condition.
-/
import Derived.Test.YtepamhdopmfkfaaBoxBound
namespace Go.Proofs.Ytepamhdopmfkfaa.fnExactBoxBound
set_option linter.unusedSimpArgs false
set_option linter.unusedVariables false
open Go.ChangeShapes Go.WideShapes Go.ChangeAt Go.RowKit

set_option maxRecDepth 100000 in
set_option maxHeartbeats 400000 in
theorem walk (A : Option Addr) (ps : List (Int × Int)) (c : Nat) (w : World) (h : PtsAt w w.heap.size A ps ∧ (∀ q ∈ ps, Fits q.1 ∧ Fits q.2) ∧ ps.length ≤ c ∧ c ≤ maxLen) :
    Calls Try.prog 4 #[.slice A ps.length c] w fun e w' => e = .returned (.bool true) ∧ Below w.heap.size w w' := by
  obtain ⟨hp, _, hlc, hc⟩ := h
  by_cases hl : ps.length ≤ 1048576
  · obtain ⟨n, b, hv⟩ : ∃ n b, bbV ps = .tuple #[.int .i64 n, .bool b] := ⟨_, _, rfl⟩
    have H := Lib.hid hv
    clear hv
    have hl' : ¬ (1048576 - (ps.length : Int)) < 0 := by omega
    go_enter Try.func4, Try.ntmps4
    go_wp2_with fail
    refine (szPointS_any _ _ _ _ hl).mono ?_
    rintro e w1 ⟨rfl, rfl⟩
    go_wp2_with fail
    refine (toPointS_new _ _ _ _ hp hl).mono ?_
    rintro e w1 ⟨g1, rfl, hB1, hb1, _⟩
    go_wp2_with fail
    refine (BoxBoundS_any _ _ _ _ hB1.pts hl (Nat.le_refl _)).mono ?_
    rintro e w2 ⟨rfl, hb2⟩
    rw [H.out]
    have hb2' := bl_trans hb1 hb2
    go_wp2_with fail
    refine (toPointS_new _ _ _ _ (hp.to hb2') hl).mono ?_
    rintro e w3 ⟨g3, rfl, hB3, hb3, _⟩
    have hb3' := bl_trans hb2' hb3
    go_wp2_with fail
    refine (BoxBoundI_any _ _ _ _ hB3.pts hl (Nat.le_refl _)).mono ?_
    rintro e w4 ⟨rfl, hb4⟩
    rw [H.out]
    have hb4' := bl_trans hb3' hb4
    have hB4 := hB3.to hb4
    go_wp2_with fail
    refine (toPointS_new _ _ _ _ (hp.to hb4') hl).mono ?_
    rintro e w5 ⟨g5, rfl, hB5, hb5, _⟩
    have hb5' := bl_trans hb4' hb5
    go_wp2_with fail
    refine (eqPointS_same _ _ _ _ _ _ (hB4.to hb5).pts hB5.pts hl).mono ?_
    rintro e w6 ⟨rfl, hb6⟩
    have hb6' := bl_trans hb5' hb6
    go_wp2
    go_ret
    exact ⟨rfl, hb6'⟩
  · have hs : ((-1 : Int) < 0) := by omega
    go_enter Try.func4, Try.ntmps4
    go_wp2_with fail
    refine (szPointS_big _ _ _ _ (by omega) (Nat.le_trans hlc hc)).mono ?_
    rintro e w1 ⟨rfl, rfl⟩
    go_wp2
    go_ret
    exact ⟨rfl, Below.refl _ _⟩
end Go.Proofs.Ytepamhdopmfkfaa.fnExactBoxBound
