/-
  Whether memory is a guest's: the given function.
-/
import Derived.Test.YtahcoklhijjenaaMemSpec0
namespace Go.Proofs.Ytahcoklhijjenaa
open Go.RowKit

def guestB (ms : List (List Int)) : Bool := okM ms && (ms.length == 6)
set_option maxHeartbeats 1000000 in
theorem specGuestB (lo hi : Nat) (a : Option Addr) (len cap : Nat) (ms : List (List Int)) (w : World) (h : IsMem w lo hi a len ms) (hn : len ≤ 1048576) (hL : ∀ i, i < len → (ms.getD i []).length ≤ 1048576) :
    Calls Try.prog 63 #[.slice a len cap] w fun e w' => e = .returned (.bool (guestB ms)) ∧ w' = w := by
  have hl := h.1
  cases ho : okM ms
  · rw [show guestB ms = false by simp [guestB, ho]]
    go_enter Try.func63, Try.ntmps63
    go_wp2_with (fail)
    refine (specMemOk lo hi a len cap ms _ h hn hL).mono ?_
    rintro e w1 ⟨rfl, rfl⟩
    rw [ho]
    go_wp2
    go_ret
    exact ⟨rfl, rfl⟩
  · by_cases h6 : len = 6
    · subst h6
      rw [show guestB ms = true by simp [guestB, ho, hl]]
      go_enter Try.func63, Try.ntmps63
      go_wp2_with (fail)
      refine (specMemOk lo hi a 6 cap ms _ h hn hL).mono ?_
      rintro e w1 ⟨rfl, rfl⟩
      rw [ho]
      go_wp2
      go_ret
      exact ⟨rfl, rfl⟩
    · rw [show guestB ms = false by simp [guestB, hl, h6]]
      have h6' : ((len : Int) == 6) = false := by simp; omega
      go_enter Try.func63, Try.ntmps63
      go_wp2_with (fail)
      refine (specMemOk lo hi a len cap ms _ h hn hL).mono ?_
      rintro e w1 ⟨rfl, rfl⟩
      rw [ho]
      go_wp2
      go_ret
      exact ⟨rfl, rfl⟩
end Go.Proofs.Ytahcoklhijjenaa
