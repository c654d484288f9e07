/-
  Contracts: impl's isFormError, parseDecimal, ReadDecimal.
-/
import Derived.Test.YtpcilpcinbamcaaDoorReadS
import Derived.Test.YtpcilpcinbamcaaDoorAs
import Derived.Test.YtpcilpcinbamcaaDoorShP
import Derived.Test.YtpcilpcinbamcaaDoorDecimal
import Derived.Shelf.Strconv.ParseIntPublic10
namespace Go.Proofs.YtpcilpcinbamcaaDoor
set_option linter.unusedSimpArgs false
set_option linter.unusedVariables false
open Go.ChangeShapes Go.WideShapes Go.ChangeAt Go.RowKit

theorem cell_lt {w : World} {a : Addr} {v : Value} (h : w.cell? a = some v) : a.block < w.heap.size := by
  rcases Nat.lt_or_ge a.block w.heap.size with h' | h'
  · exact h'
  · simp [World.cell?, Array.getElem?_eq_none h'] at h
/-- strconv.ParseInt at every text: what it answers is of three kinds. -/
def PEnd (s : ByteArray) (e : Ending) : Prop := (∃ v, Lib.parseIntB 64 s.data.toList = .ok v ∧ e = .returned (.tuple #[.int .i64 v, .nilIface])) ∨ (∃ v te N, (∀ u, Lib.parseIntB 64 s.data.toList ≠ .ok u) ∧ e = .returned (.tuple #[.int .i64 v, .iface te (.pointer (some N))]))
end Go.Proofs.YtpcilpcinbamcaaDoor
