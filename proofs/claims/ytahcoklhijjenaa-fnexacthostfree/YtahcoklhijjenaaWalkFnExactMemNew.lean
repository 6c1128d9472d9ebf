/-
  The walk of the law FnExactMemNew: whatever the number, both functions give the same, and the answer lies in memory of its own.
-/
import Derived.Test.YtahcoklhijjenaaWalkFnExactMemOk
namespace Go.Proofs.Ytahcoklhijjenaa
open Go.RowKit

theorem tot_four {ms : List (List Int)} (h : ∀ i, i < ms.length → (ms.getD i []).length = 4) (k : Nat) (hk : k ≤ ms.length) : tot ms k = 4 * k := by
  induction k with
  | zero => simp [tot]
  | succ k ih => rw [tot_step hk, ih (by omega), h k hk]; omega

end Go.Proofs.Ytahcoklhijjenaa
