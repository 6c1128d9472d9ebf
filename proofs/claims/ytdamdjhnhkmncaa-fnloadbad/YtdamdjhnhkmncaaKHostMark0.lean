/-
  What the laws' own marking of hosts, and their looking for the marks, do.
-/
import Derived.Test.YtdamdjhnhkmncaaKC
import Derived.Test.YtdamdjhnhkmncaaKE
namespace Go.Proofs.Ytdamdjhnhkmncaa
open Go.RowKit

end Go.Proofs.Ytdamdjhnhkmncaa
