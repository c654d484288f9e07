/-
  Contract: has a set of bits a number?
-/
import Derived.Test.YtefcfpagbjflbaaDoorStackA
import Derived.Test.YtefcfpagbjflbaaDoorBits
namespace Go.Proofs.YtefcfpagbjflbaaDoor
set_option linter.unusedSimpArgs false
set_option linter.unusedVariables false
open Go.ChangeShapes Go.WideShapes Go.ChangeAt Go.RowKit

end Go.Proofs.YtefcfpagbjflbaaDoor
