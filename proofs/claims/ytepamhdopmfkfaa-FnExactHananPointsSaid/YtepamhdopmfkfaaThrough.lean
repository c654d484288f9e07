/-
  Contracts: equality of lists of points, the program's PathThrough.
-/
import Derived.Test.YtepamhdopmfkfaaWalkAlong
namespace Go.Proofs.Ytepamhdopmfkfaa
set_option linter.unusedSimpArgs false
set_option linter.unusedVariables false
open Go.ChangeShapes Go.WideShapes Go.ChangeAt Go.RowKit

theorem take_next {l m : List Pt} {k : Nat} (h : l.take k = m.take k) (hl : k < l.length) (hm : k < m.length) (e : l.getD k (0, 0) = m.getD k (0, 0)) : l.take (k + 1) = m.take (k + 1) := by
  rw [take_snocP l k hl, take_snocP m k hm, h, e]
theorem ne_at {l m : List Pt} {k : Nat} (e : l.getD k (0, 0) ≠ m.getD k (0, 0)) : l ≠ m := fun h => e (by rw [h])

def thrL (cs : List Pt) : List Pt := if okT cs = true then wlkL cs else []
theorem thrL_f {cs : List Pt} (h : okT cs = false) : thrL cs = [] := by simp [thrL, h]
theorem thrL_t {cs : List Pt} (h : okT cs = true) : thrL cs = wlkL cs := by simp [thrL, h]
theorem thrL_le (cs : List Pt) : (thrL cs).length ≤ 1048576 := by
  unfold thrL; split
  · rename_i h
    unfold okT at h
    simp only [Bool.and_eq_true] at h
    have := (pathLen h.2.2.1).2
    omega
  · simp
/-- The answer of a function that fails. -/
def Fails (w : World) (e : Ending) (w' : World) : Prop := e = .returned (.tuple #[.slice none 0 0, .bool false]) ∧ Below w.heap.size w w'
theorem Fails.sres {w : World} {cs : List Pt} {e : Ending} {w' : World} (h : Fails w e w') (hk : okT cs = false) : SRes (thrL cs) (okT cs) w e w' := by
  rw [thrL_f hk, hk]
  exact ⟨none, 0, h.1, Own3.none_ _ _ _, h.2⟩

end Go.Proofs.Ytepamhdopmfkfaa
