/-
  A guest alone: what the given FlatReadIn, FlatWriteIn do.
-/
import Derived.Test.YtcdgahmfggnafasDoorFlatSpec0
namespace Go.Proofs.YtcdgahmfggnafasDoor
open Go.RowKit
end Go.Proofs.YtcdgahmfggnafasDoor
