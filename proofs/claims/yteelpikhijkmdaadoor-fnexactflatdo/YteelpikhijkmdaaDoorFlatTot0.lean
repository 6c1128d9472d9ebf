/-
  Memory of the same lengths has as many words.
-/
import Derived.Test.YteelpikhijkmdaaDoorWalkFnExactMemOk
namespace Go.Proofs.YteelpikhijkmdaaDoor
open Go.RowKit

theorem tot_lens {ns ms : List (List Int)} (hl : ns.length = ms.length) (h : ∀ i, (ns.getD i []).length = (ms.getD i []).length) (k : Nat) (hk : k ≤ ms.length) : tot ns k = tot ms k := by
  induction k with
  | zero => simp [tot]
  | succ k ih => rw [tot_step (by omega), tot_step (by omega), ih (by omega), h k]
end Go.Proofs.YteelpikhijkmdaaDoor
