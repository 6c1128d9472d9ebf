/-
  What the laws' own comparing of memory does where both hold the same.
-/
import Derived.Test.YtjegndgdpmlbaaaKC
import Derived.Test.YtjegndgdpmlbaaaKH
import Derived.Test.YtjegndgdpmlbaaaKM
import Derived.Test.YtjegndgdpmlbaaaKWalkFnExactHostOk
import Derived.Test.YtjegndgdpmlbaaaKHB
import Derived.BigQuiet
import Derived.Deep.RegionHeld3
namespace Go.Proofs.Ytjegndgdpmlbaaa
open Go.RowKit

end Go.Proofs.Ytjegndgdpmlbaaa

/-
  What the law's look at all that is seen answers where it is the same.
-/
set_option linter.unusedSimpArgs false
namespace Go.Proofs.Ytjegndgdpmlbaaa
open Go.RowKit

attribute [local go_sem ↓] Go.wp_at_zero Go.wp_at_succ
end Go.Proofs.Ytjegndgdpmlbaaa

/-
  What the laws' own looking at two guests does where both hold the same.
-/
set_option linter.unusedSimpArgs false
namespace Go.Proofs.Ytjegndgdpmlbaaa
open Go.RowKit

end Go.Proofs.Ytjegndgdpmlbaaa

/-
  What the laws' own looking at two hosts does where both hold the same.
-/
set_option linter.unusedSimpArgs false
namespace Go.Proofs.Ytjegndgdpmlbaaa
open Go.RowKit

end Go.Proofs.Ytjegndgdpmlbaaa
