/-
  What the laws' own copying of maps and shades does.
-/
import Derived.Test.YtjegndgdpmlbaaaKOHB
import Derived.Test.YtjegndgdpmlbaaaKOHostOut0
import Derived.Test.YtjegndgdpmlbaaaKOHostGive0
namespace Go.Proofs.Ytjegndgdpmlbaaa
open Go.RowKit

end Go.Proofs.Ytjegndgdpmlbaaa

/-
  What the laws' own copying of a guest does.
-/
namespace Go.Proofs.Ytjegndgdpmlbaaa
open Go.RowKit

theorem SameIn.then {lo hi : Nat} {w w' w'' : World} (s : SameIn lo hi w w') (t : SameIn lo hi w' w'') : SameIn lo hi w w'' := fun k a b => (t k a b).trans (s k a b)

end Go.Proofs.Ytjegndgdpmlbaaa

/-
  What the laws' own copying of a host does.
-/
namespace Go.Proofs.Ytjegndgdpmlbaaa
open Go.RowKit
end Go.Proofs.Ytjegndgdpmlbaaa
