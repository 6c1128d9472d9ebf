/-
  What the given l12Copy does at an ok host: the whole.
-/
import Derived.Test.YtjegndgdpmlbaaaKOSpecCopy0
import Derived.Deep.RegionHeld3
import Derived.Test.YtjegndgdpmlbaaaKOWalkFnExactHostOk
set_option linter.unusedSimpArgs false
namespace Go.Proofs.Ytjegndgdpmlbaaa
open Go.RowKit
attribute [local go_sem ↓] Go.wp_at_zero Go.wp_at_succ exec_app
attribute [local go_sem] bigNext_ok

end Go.Proofs.Ytjegndgdpmlbaaa
