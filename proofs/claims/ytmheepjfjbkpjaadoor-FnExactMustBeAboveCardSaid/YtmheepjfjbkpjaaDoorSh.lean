/-
  No laying of this kind is needed at this dump.
-/
import Derived.Shelf.Strconv.Itoa0
import Derived.Test.YtmheepjfjbkpjaaDoorProg
namespace Go.Proofs
end Go.Proofs
