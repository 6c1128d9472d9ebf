/-
  What the laws' own measuring of a host does.
-/
import Derived.Test.YtjegndgdpmlbaaaKQZ
import Derived.Test.YtjegndgdpmlbaaaKQHB
namespace Go.Proofs.Ytjegndgdpmlbaaa
open Go.RowKit

end Go.Proofs.Ytjegndgdpmlbaaa

/-
  What the laws' own measuring of a host does: with the count of all that is marked.
-/
namespace Go.Proofs.Ytjegndgdpmlbaaa
open Go.RowKit
end Go.Proofs.Ytjegndgdpmlbaaa
