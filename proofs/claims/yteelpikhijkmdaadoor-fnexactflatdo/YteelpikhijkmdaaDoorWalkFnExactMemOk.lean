/-
  The walk of the law FnExactMemOk: whatever the memory, both functions give the same, and the memory is left as it was.
-/
import Derived.Test.YteelpikhijkmdaaDoorMemMark0
import Derived.Test.YteelpikhijkmdaaDoorMemAns0
namespace Go.Proofs.YteelpikhijkmdaaDoor
open Go.RowKit

/-- Memory that came in as an argument. -/
def ArgMem (w : World) (a : Option Addr) (len : Nat) (ms : List (List Int)) : Prop := IsMem w 0 w.heap.size a len ms ∧ len ≤ maxLen ∧ ∀ i, i < len → (ms.getD i []).length ≤ maxLen
theorem IsMem.later {w w' : World} {hi : Nat} {a : Option Addr} {len : Nat} {ms : List (List Int)} (h : IsMem w 0 hi a len ms) (hB : Below hi w w') : IsMem w' 0 hi a len ms := h.same (below_sameIn hB (Nat.le_refl _))
theorem sz_facts {ms : List (List Int)} {len : Nat} (hl : ms.length = len) (h : len + tot ms len ≤ 1048576) : len ≤ 1048576 ∧ tot ms len ≤ 1048576 ∧ ∀ i, i < len → (ms.getD i []).length ≤ 1048576 := by
  refine ⟨by omega, by omega, fun i hi => ?_⟩
  have := len_le_tot (ms := ms) (k := i) (by omega)
  rw [hl] at this
  omega

end Go.Proofs.YteelpikhijkmdaaDoor
