/-
  What the given HostCarry does.
-/
import Derived.Test.YtdamdjhnhkmncaaKW
import Derived.Test.YtdamdjhnhkmncaaKY
import Derived.Test.YtdamdjhnhkmncaaKM
set_option linter.unusedSimpArgs false
namespace Go.Proofs.Ytdamdjhnhkmncaa
open Go.RowKit
attribute [local go_sem ↓] Go.wp_at_zero Go.wp_at_succ exec_app
attribute [local go_sem] bigNext_ok

end Go.Proofs.Ytdamdjhnhkmncaa
