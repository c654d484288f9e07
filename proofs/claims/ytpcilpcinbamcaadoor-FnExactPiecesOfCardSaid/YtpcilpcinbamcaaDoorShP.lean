/-
  The layings of library contracts at this dump that the texts here use: none.
-/
import Derived.Test.YtpcilpcinbamcaaDoorProg
namespace Go.Proofs
end Go.Proofs
