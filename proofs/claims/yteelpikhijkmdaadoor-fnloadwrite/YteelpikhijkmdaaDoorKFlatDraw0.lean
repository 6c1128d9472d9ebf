/-
  A guest alone: what is drawn for the laws, and what comes of writing.
-/
import Derived.Test.YteelpikhijkmdaaDoorKFlatSpec1
import Derived.Test.YteelpikhijkmdaaDoorKMemDraw2
import Derived.Test.YteelpikhijkmdaaDoorKLkMem0
namespace Go.Proofs.YteelpikhijkmdaaDoor
open Go.RowKit

theorem okM_putF {ms : List (List Int)} {P O : Nat} {z : Int} (ho : okM ms = true) (hP : P < ms.length) (hz : okZ z = true) : okM (putM ms P O z) = true := by
  have h1 : okP ((ms.getD P []).set O z) = true := by
    have hp : okP (ms.getD P []) = true := by
      unfold okM at ho
      rw [List.all_eq_true] at ho
      rw [getD_lt hP]
      exact ho _ (List.getElem_mem hP)
    simp only [okP, Bool.and_eq_true, beq_iff_eq, List.all_eq_true, List.length_set] at hp ⊢
    refine ⟨fun x hx => ?_, hp.2⟩
    rcases List.mem_or_eq_of_mem_set hx with h | h
    · exact hp.1 x h
    · rw [h]; exact hz
  unfold okM at ho ⊢
  rw [List.all_eq_true] at ho ⊢
  intro x hx
  rcases List.mem_or_eq_of_mem_set hx with h | h
  · exact ho x h
  · rw [h]; exact h1

set_option maxHeartbeats 1000000 in
theorem drawFlatWrite (a : Option Addr) (len cap : Nat) (zs : List Int) (w : World) (h : IsRow .u8 w a len cap zs) :
    Calls Tryd.prog 6 #[.slice a len cap] w fun e w' => ∃ aM n c ms, ∃ p o z : Nat, e = .returned (.tuple #[.slice aM n c, .int .i64 p, .int .i64 o, .int .i64 z]) ∧ DrawnMem w' w.heap.size w'.heap.size aM n ms ∧ p ≤ 6 ∧ o ≤ 4 ∧ z ≤ 200 ∧ Below w.heap.size w w' := by
  go_enter Tryd.func6, Tryd.ntmps6
  go_wp2_with (fail)
  refine (drawMemWith a len cap zs _ h).mono ?_
  rintro e w1 ⟨aM, n, c, ms, p, o, z, rfl, hM, hp, ho, hz, B⟩
  have HM : Hid (DrawnMem w1 w.heap.size w1.heap.size aM n ms) := hM
  clear hM
  go_wp2
  refine bodyPost_ret (v := .tuple #[.slice aM n c, .int .i64 p, .int .i64 o, .int .i64 z]) (by simp [results, Tryd.results6, go_sem]) rfl ?_
  exact ⟨_, _, _, ms, _, _, _, rfl, HM.out, hp, ho, hz, B⟩

end Go.Proofs.YteelpikhijkmdaaDoor
