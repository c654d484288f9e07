import Derived.Test.YtefcfpagbjflbaaDoorProg
namespace Go.Proofs
end Go.Proofs
