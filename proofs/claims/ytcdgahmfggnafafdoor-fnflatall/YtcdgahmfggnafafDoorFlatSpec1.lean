/-
  A guest alone: what the given FlatReadIn, FlatWriteIn do.
-/
import Derived.Test.YtcdgahmfggnafafDoorFlatSpec0
namespace Go.Proofs.YtcdgahmfggnafafDoor
open Go.RowKit
end Go.Proofs.YtcdgahmfggnafafDoor
