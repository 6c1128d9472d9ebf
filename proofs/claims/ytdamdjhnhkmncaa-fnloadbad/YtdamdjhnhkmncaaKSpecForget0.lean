/-
  What the given l13Is, l14Forget and HostForget do.
-/
import Derived.Test.YtdamdjhnhkmncaaKSpecCopy1
import Derived.Test.YtdamdjhnhkmncaaKImplForget0
import Derived.Test.YtdamdjhnhkmncaaKY
set_option linter.unusedSimpArgs false
namespace Go.Proofs.Ytdamdjhnhkmncaa
open Go.RowKit
attribute [local go_sem ↓] Go.wp_at_zero Go.wp_at_succ exec_app
attribute [local go_sem] bigNext_ok

end Go.Proofs.Ytdamdjhnhkmncaa
