/-
  Proved: for every list of points, the program's ArePins answers as the model's and leaves the list alone. No condition.
-/
import Derived.Test.YtepamhdopmfkfaaPins
namespace Go.Proofs.Ytepamhdopmfkfaa.fnExactArePins
set_option linter.unusedSimpArgs false
set_option linter.unusedVariables false
open Go.ChangeShapes Go.WideShapes Go.ChangeAt Go.RowKit

theorem walk (A : Option Addr) (ps : List (Int × Int)) (c : Nat) (w : World) (h : PtsAt w w.heap.size A ps ∧ (∀ q ∈ ps, Fits q.1 ∧ Fits q.2) ∧ ps.length ≤ c ∧ c ≤ maxLen) :
    Calls Try.prog 3 #[.slice A ps.length c] w fun e w' => e = .returned (.bool true) ∧ Below w.heap.size w w' := by
  obtain ⟨hp, _, hlc, hc⟩ := h
  by_cases hl : ps.length ≤ 1048576
  · obtain ⟨b, hv⟩ : ∃ b, isPins ps = b := ⟨_, rfl⟩
    have H := Lib.hid hv
    clear hv
    have hl' : ¬ (1048576 - (ps.length : Int)) < 0 := by omega
    go_enter Try.func3, Try.ntmps3
    go_wp2_with fail
    refine (szPointS_any _ _ _ _ hl).mono ?_
    rintro e w1 ⟨rfl, rfl⟩
    go_wp2_with fail
    refine (toPointS_any _ _ _ _ hp hl).mono ?_
    rintro e w1 ⟨rfl, hB1, hb1⟩
    go_wp2_with fail
    refine (ArePinsS_any _ _ _ _ hB1.pts hl (Nat.le_refl _)).mono ?_
    rintro e w2 ⟨rfl, hb2⟩
    rw [H.out]
    have hb2' := bl_trans hb1 hb2
    go_wp2_with fail
    refine (toPointS_any _ _ _ _ (hp.to hb2') hl).mono ?_
    rintro e w3 ⟨rfl, hB3, hb3⟩
    have hb3' := bl_trans hb2' hb3
    go_wp2_with fail
    refine (ArePinsI_any _ _ _ _ hB3.pts hl (Nat.le_refl _)).mono ?_
    rintro e w4 ⟨rfl, hb4⟩
    rw [H.out]
    have hb4' := bl_trans hb3' hb4
    have hB4 := hB3.to hb4
    go_wp2_with fail
    refine (toPointS_any _ _ _ _ (hp.to hb4') hl).mono ?_
    rintro e w5 ⟨rfl, hB5, hb5⟩
    have hb5' := bl_trans hb4' hb5
    go_wp2_with fail
    refine (eqPointS_same _ _ _ _ _ _ (hB4.to hb5).pts hB5.pts hl).mono ?_
    rintro e w6 ⟨rfl, hb6⟩
    have hb6' := bl_trans hb5' hb6
    go_wp2
    go_ret
    exact ⟨rfl, hb6'⟩
  · have hs : ((-1 : Int) < 0) := by omega
    go_enter Try.func3, Try.ntmps3
    go_wp2_with fail
    refine (szPointS_big _ _ _ _ (by omega) (Nat.le_trans hlc hc)).mono ?_
    rintro e w1 ⟨rfl, rfl⟩
    go_wp2
    go_ret
    exact ⟨rfl, Below.refl _ _⟩
end Go.Proofs.Ytepamhdopmfkfaa.fnExactArePins
