/-
  What the law's own comparing of two tables does where both hold the same.
-/
import Derived.Test.YtahcoklhijjenaaEnts0
namespace Go.Proofs.Ytahcoklhijjenaa
open Go.RowKit
end Go.Proofs.Ytahcoklhijjenaa
