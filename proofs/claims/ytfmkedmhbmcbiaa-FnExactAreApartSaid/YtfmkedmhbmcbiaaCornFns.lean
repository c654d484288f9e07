/-
  Contracts: both CornersOf.
-/
import Derived.Test.YtfmkedmhbmcbiaaHarn
namespace Go.Proofs.Ytfmkedmhbmcbiaa
set_option linter.unusedSimpArgs false
set_option linter.unusedVariables false
open Go.ChangeShapes Go.WideShapes Go.ChangeAt Go.RowKit

def cornR (ps : List (Int × Int)) : List (Int × Int) := if isPathB ps = true then cornL ps ps.length else []
theorem cornR_le (ps : List (Int × Int)) (hl : ps.length ≤ 1048576) : (cornR ps).length ≤ 1048576 := by
  unfold cornR; split
  · exact Nat.le_trans (cornL_le ps _) hl
  · simp

theorem CornersOfI_any (A : Option Addr) (ps : List (Int × Int)) (c : Nat) (w : World) (hp : PtsAt w w.heap.size A ps) (hl : ps.length ≤ 1048576) :
    Calls Try.prog 21 #[.slice A ps.length c] w (SRes (cornR ps) (isPathB ps) w) := by
  cases hv : isPathB ps
  · have H := Lib.hid hv
    have R : Hid (cornR ps = []) := by show _ = _; simp [cornR, hv]
    rw [R.out]
    clear hv
    go_enter Try.func21, Try.ntmps21
    go_wp2_with (go_at_call 25; refine (IsPathI_any _ _ _ _ hp hl).mono ?_; rintro e w' ⟨rfl, hb'⟩; rw [H.out])
    go_ret2
    exact ⟨none, 0, rfl, Own3.none_ _ _ _, hb'⟩
  · have H := Lib.hid hv
    have R : Hid (cornR ps = cornL ps ps.length) := by show _ = _; simp [cornR, hv]
    have h576 := (pathLen hv).2
    rw [R.out]
    clear hv
    go_enter Try.func21, Try.ntmps21
    go_wp2_with fail
    refine (IsPathI_any _ _ _ _ hp hl).mono ?_
    rintro e w1 ⟨rfl, hb1⟩
    rw [H.out]
    go_wp2_with fail
    refine (corners_own _ _ _ _ (hp.to hb1) h576).mono ?_
    rintro e w2 ⟨v, rfl, ho, hb2⟩
    obtain ⟨A', c', rfl, ho3⟩ := own3_of ho
    have hb12 := bl_trans hb1 hb2
    have hsz := hb1.size
    clear ho hb1 hb2
    go_wp2
    go_ret2
    exact ⟨A', c', rfl, fun h0 => by obtain ⟨g, e, hg, hP⟩ := ho3 h0; exact ⟨g, e, by omega, hP⟩, hb12⟩
end Go.Proofs.Ytfmkedmhbmcbiaa
