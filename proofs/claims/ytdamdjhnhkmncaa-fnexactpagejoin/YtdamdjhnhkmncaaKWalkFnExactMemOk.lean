/-
  The walk of the law FnExactMemOk: whatever the memory, both functions give the same, and the memory is left as it was.
-/
import Derived.Test.YtdamdjhnhkmncaaKE
import Derived.Test.YtdamdjhnhkmncaaKC
namespace Go.Proofs.Ytdamdjhnhkmncaa
open Go.RowKit

/-- Memory that came in as an argument. -/
def ArgMem (w : World) (a : Option Addr) (len : Nat) (ms : List (List Int)) : Prop := IsMem w 0 w.heap.size a len ms ∧ len ≤ maxLen ∧ ∀ i, i < len → (ms.getD i []).length ≤ maxLen

end Go.Proofs.Ytdamdjhnhkmncaa
