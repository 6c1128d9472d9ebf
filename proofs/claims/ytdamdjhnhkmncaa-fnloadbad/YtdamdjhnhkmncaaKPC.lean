/-
  What is seen, plainly; a host to which all guests were carried; shades forgotten.
-/
import Derived.Test.YtdamdjhnhkmncaaKPB
import Derived.Test.YtdamdjhnhkmncaaKSpecCarry0
import Derived.Test.YtdamdjhnhkmncaaKImplForget0
namespace Go.Proofs.Ytdamdjhnhkmncaa
open Go.RowKit

end Go.Proofs.Ytdamdjhnhkmncaa

/-
  What acts do to a host, plainly: forgetting, sharing, moving, and each act by its kind.
-/
namespace Go.Proofs.Ytdamdjhnhkmncaa
open Go.RowKit

end Go.Proofs.Ytdamdjhnhkmncaa
