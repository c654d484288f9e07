/-
  Contracts: strings.Cut at a separator of one byte.
-/
import Derived.Test.YtefcfpagbjflbaaDoorText
import Derived.Lib.CutLaws
import Derived.Laws.Strings3
import Derived.RegionTactic
namespace Go.Proofs.YtefcfpagbjflbaaDoor
set_option linter.unusedSimpArgs false
set_option linter.unusedVariables false
open Go.ChangeShapes Go.WideShapes Go.ChangeAt Go.RowKit

end Go.Proofs.YtefcfpagbjflbaaDoor
