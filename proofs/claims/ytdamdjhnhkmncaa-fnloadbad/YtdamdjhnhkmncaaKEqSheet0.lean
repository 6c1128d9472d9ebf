/-
  Two pages as arrays, held against each other.
-/
import Derived.Test.YtdamdjhnhkmncaaKB
import Derived.ChangeKeysEq
namespace Go.Proofs.Ytdamdjhnhkmncaa
open Go.RowKit

end Go.Proofs.Ytdamdjhnhkmncaa
