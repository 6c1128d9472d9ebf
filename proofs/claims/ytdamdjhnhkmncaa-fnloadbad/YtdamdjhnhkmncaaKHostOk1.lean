/-
  What the given HostOk does: the whole.
-/
import Derived.Test.YtdamdjhnhkmncaaKI
import Derived.Test.YtdamdjhnhkmncaaKHostEq0
import Derived.Deep.RegionHeld3
set_option linter.unusedSimpArgs false
namespace Go.Proofs.Ytdamdjhnhkmncaa
open Go.RowKit

end Go.Proofs.Ytdamdjhnhkmncaa
