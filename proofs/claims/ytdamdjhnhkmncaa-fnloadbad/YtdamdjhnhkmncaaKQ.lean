/-
  What the laws' own measuring of a host does.
-/
import Derived.Test.YtdamdjhnhkmncaaKZ
import Derived.Test.YtdamdjhnhkmncaaKHostMark1
namespace Go.Proofs.Ytdamdjhnhkmncaa
open Go.RowKit

end Go.Proofs.Ytdamdjhnhkmncaa

/-
  What the laws' own measuring of a host does: with the count of all that is marked.
-/
namespace Go.Proofs.Ytdamdjhnhkmncaa
open Go.RowKit

end Go.Proofs.Ytdamdjhnhkmncaa
