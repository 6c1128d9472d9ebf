/-
  A guest alone: what the given FlatReadIn, FlatWriteIn do.
-/
import Derived.Test.YteelpikhijkmdaaDoorKFlatSpec0
namespace Go.Proofs.YteelpikhijkmdaaDoor
open Go.RowKit

end Go.Proofs.YteelpikhijkmdaaDoor
