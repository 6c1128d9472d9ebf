/-
  What the given copying of memory does, empty pages too.
-/
import Derived.Test.YtcdgahmfggnafafDoorMemCopy0
namespace Go.Proofs.YtcdgahmfggnafafDoor
open Go.RowKit
end Go.Proofs.YtcdgahmfggnafafDoor
