/-
  What the laws' own comparing of memory does where both hold the same.
-/
import Derived.Test.YtjegndgdpmlbaaaKFC
import Derived.Test.YtjegndgdpmlbaaaKFH
import Derived.Test.YtjegndgdpmlbaaaKFM
import Derived.Test.YtjegndgdpmlbaaaKFWalkFnExactHostOk
import Derived.Test.YtjegndgdpmlbaaaKFHB
import Derived.BigQuiet
import Derived.Deep.RegionHeld3
namespace Go.Proofs.Ytjegndgdpmlbaaa
open Go.RowKit

set_option maxHeartbeats 1000000 in
theorem lkInts_same (lo hi lo' hi' : Nat) (a a' : Option Addr) (len cap cap' : Nat) (zs : List Int) (w : World) (h : IsInts w lo hi a len zs) (h' : IsInts w lo' hi' a' len zs) (hn : len ≤ 1048576) :
    Calls Try.prog 25 #[.slice a len cap, .slice a' len cap'] w fun e w' => e = .returned (.bool true) ∧ ∃ m, w' = w.drewN m := by
  obtain ⟨hl, hd⟩ := h
  obtain ⟨_, hd'⟩ := h'
  go_enter Try.func25, Try.ntmps25
  go_wp2
  go_loopw [5] (fun i wr => ∃ k m : Nat, k ≤ len ∧ i = .int .i64 k ∧ wr = w.drewN m) (fun i _ => len - (intOf i).toNat)
  case atStart => exact ⟨0, 0, Nat.zero_le _, rfl, rfl⟩
  case round =>
    obtain ⟨k, m, hk, rfl, rfl⟩ := hrel
    by_cases hkl : k < len
    · rcases hd with h0 | ⟨b, o, rfl, _, _, hc⟩
      · omega
      rcases hd' with h0 | ⟨b', o', rfl, _, _, hc'⟩
      · omega
      have c := hc k (by omega)
      have c' := hc' k (by omega)
      generalize zs.getD k 0 = z at c c'
      have hki : (k : Int) < (len : Int) := by omega
      clear hc hc'
      go_wp2_with (fail)
      go_quiet (fail)
      go_wp2
      go_roundw
      case rel => exact ⟨k + 1, _, by omega, by go_num, by first | rfl | (rw [World.drewN_drewN])⟩
      case measure => simp [intOf]; omega
    · go_wp2
      go_ret
      exact ⟨rfl, m, rfl⟩

end Go.Proofs.Ytjegndgdpmlbaaa

/-
  What the law's look at all that is seen answers where it is the same.
-/
set_option linter.unusedSimpArgs false
namespace Go.Proofs.Ytjegndgdpmlbaaa
open Go.RowKit

attribute [local go_sem ↓] Go.wp_at_zero Go.wp_at_succ
end Go.Proofs.Ytjegndgdpmlbaaa

/-
  What the laws' own looking at two guests does where both hold the same.
-/
set_option linter.unusedSimpArgs false
namespace Go.Proofs.Ytjegndgdpmlbaaa
open Go.RowKit

end Go.Proofs.Ytjegndgdpmlbaaa

/-
  What the laws' own looking at two hosts does where both hold the same.
-/
set_option linter.unusedSimpArgs false
namespace Go.Proofs.Ytjegndgdpmlbaaa
open Go.RowKit

end Go.Proofs.Ytjegndgdpmlbaaa
