/-
  Proved: for every 64-bit number, the program's Decimal answers as the model's (strconv's decimal text, its table laid). No condition beyond the row's laid tables.
-/
import Derived.Test.YtpcilpcinbamcaaDoorDec
import Derived.Test.YtpcilpcinbamcaaDoorSh
import Derived.Lib.LaidTab
import Derived.Lib.SmallJoins
import Derived.Lib.AppendIntMem
namespace Go.Proofs.YtpcilpcinbamcaaDoor.fnExactDecimal
set_option linter.unusedSimpArgs false
set_option linter.unusedVariables false
open Go.ChangeShapes Go.WideShapes Go.ChangeAt Go.RowKit

theorem uU64 : Tryd.prog.underlying 59 = some (.int .u64) := by kernel_rfl

end Go.Proofs.YtpcilpcinbamcaaDoor.fnExactDecimal
