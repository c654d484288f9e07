/-
  Contracts: strings.Cut at a separator of one byte.
-/
import Derived.Test.YtpcilpcinbamcaaDoorText
import Derived.Lib.CutLaws
import Derived.Laws.Strings3
import Derived.RegionTactic
namespace Go.Proofs.YtpcilpcinbamcaaDoor
set_option linter.unusedSimpArgs false
set_option linter.unusedVariables false
open Go.ChangeShapes Go.WideShapes Go.ChangeAt Go.RowKit

end Go.Proofs.YtpcilpcinbamcaaDoor
