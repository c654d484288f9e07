/-
  Two closed facts of the whole program, once for all rows; and how a row's closed facts are put together.
-/
import Derived.Test.YtifenbamookmiaaOpen
import Derived.JoinedOf
namespace Go.Proofs.Ytifenbamookmiaa
set_option linter.unusedSimpArgs false
set_option linter.unusedVariables false
open Go.ChangeShapes Go.WideShapes Go.ChangeAt Go.RowKit

theorem andB {a b : Bool} (ha : a = true) (hb : b = true) : (a && b) = true := by rw [ha, hb]; rfl
theorem heard : Try.pinned.checked.prog.stopsHeard = true := by kernel_rfl
theorem mayEnter : Try.pinned.checked.prog.mayEnter = true := by kernel_rfl
theorem rowed : mapsRowed Try.pinned.checked.prog = true := by kernel_rfl
theorem laidP : laidOutB Try.pinned.checked.prog = true := laidOut
end Go.Proofs.Ytifenbamookmiaa
