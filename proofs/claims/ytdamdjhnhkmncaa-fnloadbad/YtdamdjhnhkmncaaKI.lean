/-
  What the given functions that look at hosts do.
-/
import Derived.Test.YtdamdjhnhkmncaaKA
import Derived.Test.YtdamdjhnhkmncaaKB
namespace Go.Proofs.Ytdamdjhnhkmncaa
open Go.RowKit

end Go.Proofs.Ytdamdjhnhkmncaa

/-
  What the given HostOk does.
-/
namespace Go.Proofs.Ytdamdjhnhkmncaa
open Go.RowKit

end Go.Proofs.Ytdamdjhnhkmncaa

/-
  Whether memory is a guest's: the given function.
-/
namespace Go.Proofs.Ytdamdjhnhkmncaa
open Go.RowKit

end Go.Proofs.Ytdamdjhnhkmncaa
