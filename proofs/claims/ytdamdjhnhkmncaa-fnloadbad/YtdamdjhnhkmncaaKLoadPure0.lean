/-
  What is loaded, plainly: an ok host whose guests have what was loaded.
-/
import Derived.Test.YtdamdjhnhkmncaaKPC
import Derived.Test.YtdamdjhnhkmncaaKM
set_option linter.unusedSimpArgs false
namespace Go.Proofs.Ytdamdjhnhkmncaa
open Go.RowKit

end Go.Proofs.Ytdamdjhnhkmncaa
