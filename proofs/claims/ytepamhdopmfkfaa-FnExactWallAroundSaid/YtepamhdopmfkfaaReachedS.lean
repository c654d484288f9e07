/-
  Contract: the reached cells, as the model has them.
-/
import Derived.Test.YtepamhdopmfkfaaReachM
import Derived.Test.YtepamhdopmfkfaaMazeI
namespace Go.Proofs.Ytepamhdopmfkfaa
set_option linter.unusedSimpArgs false
set_option linter.unusedVariables false
open Go.ChangeShapes Go.WideShapes Go.ChangeAt Go.RowKit

/-- The reached cells of a maze in order. -/
noncomputable def reachL (M : Mz) (p : Pt) : List Pt := colsS (reachB M p) M.length (wid M)
/-- What the reached cells come to. -/
def ReachedRes (M : Mz) (p : Pt) (w : World) (e : Ending) (w' : World) : Prop :=
  ((atB M p.1 p.2 = false ∧ e = .returned (.tuple #[.slice none 0 0, .bool false])) ∨ (atB M p.1 p.2 = true ∧ ∃ v, e = .returned (.tuple #[v, .bool true]) ∧ OwnQ w' w.heap.size v (reachL M p))) ∧ Below w.heap.size w w'
theorem atB_two {M : Mz} {x y : Int} (h : atB M x y = true) : mzB M = true ∧ openB M x y = true := by
  unfold atB at h; simpa using h
theorem OwnQ.base_le {w : World} {B B' : Nat} {v : Value} {L : List Pt} (h : OwnQ w B v L) (hB : B' ≤ B) : OwnQ w B' v L := by
  refine ⟨h.1, ?_⟩
  rcases h.2 with hn | ⟨g, cap, cur, rfl, hb, rest⟩
  · exact .inl hn
  · exact .inr ⟨g, cap, cur, rfl, Nat.le_trans hB hb, rest⟩
end Go.Proofs.Ytepamhdopmfkfaa
