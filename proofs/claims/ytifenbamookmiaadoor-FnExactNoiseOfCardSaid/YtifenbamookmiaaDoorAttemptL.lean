/-
  Contracts: an attempt whose result lies in 3 cells (L).
-/
import Derived.Test.YtifenbamookmiaaDoorPan
namespace Go.Proofs.YtifenbamookmiaaDoor
set_option linter.unusedSimpArgs false
set_option linter.unusedVariables false
open Go.ChangeShapes Go.WideShapes Go.ChangeAt Go.RowKit

def AttLRes (OK : Value → World → Prop) (NO : Prop) (w : World) (e : Ending) (w' : World) : Prop :=
  ((∃ A0 n0 k0 A1 n1 k1 x2 w1, e = .returned (.tuple #[.agg #[.slice A0 n0 k0, .slice A1 n1 k1, .int .u64 x2], .bool true]) ∧ OK (.agg #[.slice A0 n0 k0, .slice A1 n1 k1, .int .u64 x2]) w1 ∧ Twin w.heap.size w1 w') ∨ (e = .returned (.tuple #[.agg #[.slice none 0 0, .slice none 0 0, .int .u64 0], .bool false]) ∧ NO)) ∧ Below w.heap.size w w'
end Go.Proofs.YtifenbamookmiaaDoor
