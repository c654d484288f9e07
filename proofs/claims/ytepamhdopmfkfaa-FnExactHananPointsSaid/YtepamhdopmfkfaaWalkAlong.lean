/-
  Contracts: walkAlong, equality of lists of points.
-/
import Derived.Test.YtepamhdopmfkfaaAlong
namespace Go.Proofs.Ytepamhdopmfkfaa
set_option linter.unusedSimpArgs false
set_option linter.unusedVariables false
open Go.ChangeShapes Go.WideShapes Go.ChangeAt Go.RowKit

theorem wlk_drop {cs : List Pt} {j : Nat} (h : j + 1 < cs.length) (p : Pt) : wlk p (cs.drop (j + 1)) = seg (cs.getD (j + 1) (0, 0)) 100 p ++ wlk (cs.getD (j + 1) (0, 0)) (cs.drop (j + 2)) := by
  have e : cs.drop (j + 1) = cs.getD (j + 1) (0, 0) :: cs.drop (j + 2) := by
    rw [List.drop_eq_getElem_cons h]; simp [List.getD_eq_getElem?_getD, h]
  rw [e]; rfl
theorem wlk_end {cs : List Pt} {j : Nat} (h : cs.length ≤ j + 1) (p : Pt) : wlk p (cs.drop (j + 1)) = [] := by
  rw [List.drop_of_length_le h]; rfl
theorem wlkL_head {cs : List Pt} (h : 0 < cs.length) : wlkL cs = [cs.getD 0 (0, 0)] ++ wlk (cs.getD 0 (0, 0)) (cs.drop 1) := by
  cases cs with
  | nil => simp at h
  | cons p r => simp [wlkL]

theorem own_base {w : World} {base base' : Nat} {v : Value} {L : List Pt} (h : OwnL w (base + base') v L) : OwnL w base v L :=
  ⟨h.1, by
    rcases h.2 with h0 | ⟨g, cap, cur, e, hB, r⟩
    · exact .inl h0
    · exact .inr ⟨g, cap, cur, e, by omega, r⟩⟩

end Go.Proofs.Ytepamhdopmfkfaa
