/-
  What the program's own TabAt does.
-/
import Derived.Test.YteelpikhijkmdaaDoorKA
namespace Go.Proofs.YteelpikhijkmdaaDoor
open Go.RowKit

end Go.Proofs.YteelpikhijkmdaaDoor
