/-
  The walk of the law FnExactMemOk: whatever the memory, both functions give the same, and the memory is left as it was.
-/
import Derived.Test.YtofiajllhffjcayMemMark0
import Derived.Test.YtofiajllhffjcayMemAns0
namespace Go.Proofs.Ytofiajllhffjcay
open Go.RowKit

/-- Memory that came in as an argument. -/
def ArgMem (w : World) (a : Option Addr) (len : Nat) (ms : List (List Int)) : Prop := IsMem w 0 w.heap.size a len ms ∧ len ≤ maxLen ∧ ∀ i, i < len → (ms.getD i []).length ≤ maxLen
theorem IsMem.later {w w' : World} {hi : Nat} {a : Option Addr} {len : Nat} {ms : List (List Int)} (h : IsMem w 0 hi a len ms) (hB : Below hi w w') : IsMem w' 0 hi a len ms := h.same (below_sameIn hB (Nat.le_refl _))
theorem sz_facts {ms : List (List Int)} {len : Nat} (hl : ms.length = len) (h : len + tot ms len ≤ 1048576) : len ≤ 1048576 ∧ tot ms len ≤ 1048576 ∧ ∀ i, i < len → (ms.getD i []).length ≤ 1048576 := by
  refine ⟨by omega, by omega, fun i hi => ?_⟩
  have := len_le_tot (ms := ms) (k := i) (by omega)
  rw [hl] at this
  omega

set_option maxHeartbeats 2000000 in
theorem walk_FnExactMemOk (a : Option Addr) (len cap : Nat) (ms : List (List Int)) (w : World) (hA : ArgMem w a len ms) :
    Calls Try.prog 4 #[.slice a len cap] w fun e w' => e = .returned (.bool true) ∧ Below w.heap.size w w' := by
  obtain ⟨hM, hm, hL⟩ := hA
  go_enter Try.func4, Try.ntmps4
  go_wp2_with (fail)
  refine (szIntSS_any 0 w.heap.size a len cap ms _ hM hm hL).mono ?_
  rintro e w1 ⟨rfl, rfl | ⟨n, rfl, hs⟩⟩
  · go_wp2
    go_ret
    exact ⟨rfl, Below.refl _ _⟩
  · obtain ⟨hn, ht, hL⟩ := sz_facts hM.1 hs
    go_wp2_with (fail)
    refine (toIntSS_any 0 _ a len cap ms _ hM (Nat.le_refl _) hn hL).mono ?_
    rintro e w2 ⟨rfl, M2, B2⟩
    go_wp2_with (fail)
    refine (specMemOk _ _ _ len len ms _ M2.mem hn hL).mono ?_
    rintro e w3 ⟨rfl, rfl⟩
    go_wp2_with (fail)
    refine (toIntSS_any 0 w1.heap.size a len cap ms _ (hM.later B2) B2.size hn hL).mono ?_
    rintro e w4 ⟨rfl, M4, B4⟩
    have B04 := B2.trans (B4.mono B2.size)
    go_wp2_with (fail)
    refine (implMemOk _ _ _ len len ms _ M4.mem (Nat.le_refl _) hn).mono ?_
    rintro e w5 ⟨rfl, B5⟩
    have B05 := B04.trans (B5.mono B04.size)
    have M5 := M4.mem.same (below_sameIn B5 (Nat.le_refl _))
    go_wp2_with (fail)
    refine (toIntSS_any 0 w1.heap.size a len cap ms _ (hM.later B05) B05.size hn hL).mono ?_
    rintro e w6 ⟨rfl, M6, B6⟩
    have B06 := B05.trans (B6.mono B05.size)
    have M5 := M5.same (below_sameIn B6 B5.size)
    go_wp2_with (fail)
    refine (eqIntSS_same _ _ _ _ _ _ len len len ms _ M5 M6.mem (Nat.le_trans B5.size B6.size) (Nat.le_refl _) hn hL).mono ?_
    rintro e w7 ⟨rfl, B7⟩
    go_wp2
    go_ret
    exact ⟨rfl, B06.trans (B7.mono B06.size)⟩
end Go.Proofs.Ytofiajllhffjcay
