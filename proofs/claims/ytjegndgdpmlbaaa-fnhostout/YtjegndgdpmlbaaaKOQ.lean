/-
  What the laws' own measuring of a host does.
-/
import Derived.Test.YtjegndgdpmlbaaaKOZ
import Derived.Test.YtjegndgdpmlbaaaKOHB
namespace Go.Proofs.Ytjegndgdpmlbaaa
open Go.RowKit

end Go.Proofs.Ytjegndgdpmlbaaa

/-
  What the laws' own measuring of a host does: with the count of all that is marked.
-/
namespace Go.Proofs.Ytjegndgdpmlbaaa
open Go.RowKit
end Go.Proofs.Ytjegndgdpmlbaaa
