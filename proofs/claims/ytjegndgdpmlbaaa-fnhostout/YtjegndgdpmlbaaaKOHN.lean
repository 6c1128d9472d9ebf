/-
  What memory that came in as an argument is told to the walk as.
-/
import Derived.Test.YtjegndgdpmlbaaaKOHB
import Derived.Lib.SmallJoins
import Derived.ProofKit
import Derived.OpenShut
import Derived.Test.YtjegndgdpmlbaaaKOQ
import Derived.Test.YtjegndgdpmlbaaaKOG
namespace Go.Proofs.Ytjegndgdpmlbaaa
open Go.ChangeShapes Go.WideShapes Go.ChangeAt Go.RowKit Go.Joins Go.Deep

end Go.Proofs.Ytjegndgdpmlbaaa

/-
  What a host that came in as an argument is told to the walk as.
-/
namespace Go.Proofs.Ytjegndgdpmlbaaa
open Go.ChangeShapes Go.WideShapes Go.ChangeAt Go.RowKit Go.Joins Go.Deep

end Go.Proofs.Ytjegndgdpmlbaaa
