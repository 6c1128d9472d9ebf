/-
  What a host that came in as an argument is told to the walk as.
-/
import Derived.Test.YtdamdjhnhkmncaaKQ
import Derived.Test.YtdamdjhnhkmncaaKG
import Derived.Test.YtdamdjhnhkmncaaKMemIn
import Derived.Lib.SmallJoins
import Derived.ProofKit
import Derived.OpenShut
namespace Go.Proofs.Ytdamdjhnhkmncaa
open Go.ChangeShapes Go.WideShapes Go.ChangeAt Go.RowKit Go.Joins Go.Deep

end Go.Proofs.Ytdamdjhnhkmncaa
