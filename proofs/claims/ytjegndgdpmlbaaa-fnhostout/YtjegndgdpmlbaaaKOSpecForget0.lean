/-
  What the given l13Is, l14Forget and HostForget do.
-/
import Derived.Test.YtjegndgdpmlbaaaKOSpecCopy1
import Derived.Test.YtjegndgdpmlbaaaKOImplForget0
import Derived.Test.YtjegndgdpmlbaaaKOY
set_option linter.unusedSimpArgs false
namespace Go.Proofs.Ytjegndgdpmlbaaa
open Go.RowKit
attribute [local go_sem ↓] Go.wp_at_zero Go.wp_at_succ exec_app
attribute [local go_sem] bigNext_ok

end Go.Proofs.Ytjegndgdpmlbaaa
