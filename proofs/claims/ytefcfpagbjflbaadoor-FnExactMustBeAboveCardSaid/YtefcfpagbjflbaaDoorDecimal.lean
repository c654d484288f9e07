/-
  Proved: for every 64-bit number, the program's Decimal answers as the model's (strconv's decimal text, its table laid). No condition beyond the row's laid tables.
-/
import Derived.Test.YtefcfpagbjflbaaDoorDec
import Derived.Test.YtefcfpagbjflbaaDoorSh
import Derived.Lib.LaidTab
import Derived.Lib.SmallJoins
import Derived.Lib.AppendIntMem
namespace Go.Proofs.YtefcfpagbjflbaaDoor.fnExactDecimal
set_option linter.unusedSimpArgs false
set_option linter.unusedVariables false
open Go.ChangeShapes Go.WideShapes Go.ChangeAt Go.RowKit

theorem uU64 : Tryd.prog.underlying 87 = some (.int .u64) := by kernel_rfl

end Go.Proofs.YtefcfpagbjflbaaDoor.fnExactDecimal
