/-
  What the laws' own comparing of memory does where both hold the same.
-/
import Derived.Test.YtjegndgdpmlbaaaKOC
import Derived.Test.YtjegndgdpmlbaaaKOH
import Derived.Test.YtjegndgdpmlbaaaKOM
import Derived.Test.YtjegndgdpmlbaaaKOWalkFnExactHostOk
import Derived.Test.YtjegndgdpmlbaaaKOHB
import Derived.BigQuiet
import Derived.Deep.RegionHeld3
namespace Go.Proofs.Ytjegndgdpmlbaaa
open Go.RowKit

set_option maxHeartbeats 1000000 in
theorem lkInts_same (lo hi lo' hi' : Nat) (a a' : Option Addr) (len cap cap' : Nat) (zs : List Int) (w : World) (h : IsInts w lo hi a len zs) (h' : IsInts w lo' hi' a' len zs) (hn : len ≤ 1048576) :
    Calls Try.prog 25 #[.slice a len cap, .slice a' len cap'] w fun e w' => e = .returned (.bool true) ∧ ∃ m, w' = w.drewN m := by
  obtain ⟨hl, hd⟩ := h
  obtain ⟨_, hd'⟩ := h'
  go_enter Try.func25, Try.ntmps25
  go_wp2
  go_loopw [5] (fun i wr => ∃ k m : Nat, k ≤ len ∧ i = .int .i64 k ∧ wr = w.drewN m) (fun i _ => len - (intOf i).toNat)
  case atStart => exact ⟨0, 0, Nat.zero_le _, rfl, rfl⟩
  case round =>
    obtain ⟨k, m, hk, rfl, rfl⟩ := hrel
    by_cases hkl : k < len
    · rcases hd with h0 | ⟨b, o, rfl, _, _, hc⟩
      · omega
      rcases hd' with h0 | ⟨b', o', rfl, _, _, hc'⟩
      · omega
      have c := hc k (by omega)
      have c' := hc' k (by omega)
      generalize zs.getD k 0 = z at c c'
      have hki : (k : Int) < (len : Int) := by omega
      clear hc hc'
      go_wp2_with (fail)
      go_quiet (fail)
      go_wp2
      go_roundw
      case rel => exact ⟨k + 1, _, by omega, by go_num, by first | rfl | (rw [World.drewN_drewN])⟩
      case measure => simp [intOf]; omega
    · go_wp2
      go_ret
      exact ⟨rfl, m, rfl⟩

set_option maxHeartbeats 1000000 in
theorem lkMem_same (lo hi lo' hi' : Nat) (a a' : Option Addr) (len cap cap' : Nat) (ms : List (List Int)) (w : World) (h : IsMem w lo hi a len ms) (h' : IsMem w lo' hi' a' len ms) (hh : hi ≤ w.heap.size) (hh' : hi' ≤ w.heap.size) (hn : len ≤ 1048576) (hL : ∀ i, i < len → (ms.getD i []).length ≤ 1048576) :
    Calls Try.prog 23 #[.slice a len cap, .slice a' len cap'] w fun e w' => e = .returned (.bool true) ∧ Below w.heap.size w w' := by
  obtain ⟨hl, hd⟩ := h
  obtain ⟨_, hd'⟩ := h'
  go_enter Try.func23, Try.ntmps23
  go_wp2
  go_loopw [5] (fun i wr => ∃ k : Nat, k ≤ len ∧ i = .int .i64 k ∧ Below w.heap.size w wr) (fun i _ => len - (intOf i).toNat)
  case atStart => exact ⟨0, Nat.zero_le _, rfl, Below.refl _ _⟩
  case round =>
    obtain ⟨k, hk, rfl, hB⟩ := hrel
    by_cases hkl : k < len
    · rcases hd with h0 | ⟨b, o, rfl, _, hb2, hc⟩
      · omega
      rcases hd' with h0 | ⟨b', o', rfl, _, hb2', hc'⟩
      · omega
      obtain ⟨x, l, c, q, hI⟩ := hc k hkl
      obtain ⟨x', l', c', q', hI'⟩ := hc' k hkl
      have hll : l' = l := by rw [← hI.1, ← hI'.1]
      subst hll
      have c0 := (hB.cell (p := ⟨b, o + k, none⟩) (show b < w.heap.size by omega)).trans q
      have d0 := (hB.cell (p := ⟨b', o' + k, none⟩) (show b' < w.heap.size by omega)).trans q'
      have hE : ∀ W : World, W.heap = wr.heap → Calls Try.prog 25 #[.slice x l' c, .slice x' l' c'] W fun e w' => e = .returned (.bool true) ∧ ∃ m, w' = W.drewN m := fun W hW =>
        lkInts_same lo hi lo' hi' x x' l' c c' _ W (hI.same (fun i _ h2 => by rw [hW]; exact hB.block i (by omega))) (hI'.same (fun i _ h2 => by rw [hW]; exact hB.block i (by omega))) (by rw [← hI.1]; exact hL k hkl)
      have hki : (k : Int) < (len : Int) := by omega
      clear hc hc' hI hI' q q'
      go_wp2_with (fail)
      go_region_with (go_at_call 25; refine (hE _ (by rfl)).mono ?_; rintro e w' ⟨rfl, m, rfl⟩)
      all_goals
        go_wp2
        go_roundw
        case rel =>
          refine ⟨k + 1, by omega, by go_num, ?_⟩
          (repeat' (with_reducible (first | exact Below.refl _ _ | apply Below.setCell | apply Below.alloc | apply below_drewN | apply Below.drew | refine Below.trans ?_ (Below.mono (by assumption) ?_)))) <;> (first | exact Nat.le_refl _ | (simp; done) | (simp; omega) | (simp at *; omega))
        case measure => simp [intOf]; omega
    · go_wp2
      go_ret
      exact ⟨rfl, hB⟩

end Go.Proofs.Ytjegndgdpmlbaaa

/-
  What the law's look at all that is seen answers where it is the same.
-/
set_option linter.unusedSimpArgs false
namespace Go.Proofs.Ytjegndgdpmlbaaa
open Go.RowKit

theorem see_small (h : Hst) (G : Int) : (seeH h G).length ≤ 6 ∧ ∀ i, i < (seeH h G).length → ((seeH h G).getD i []).length ≤ 4 := by
  unfold seeH
  cases hb : seeB h G
  · exact ⟨by simp, fun i hi => by simp at hi⟩
  · simp only [seeB, Bool.and_eq_true, decide_eq_true_eq] at hb
    obtain ⟨ho, h0, h1⟩ := hb
    rw [cond_true]
    refine ⟨by rw [seeM_len]; exact Nat.le_refl _, fun i hi => ?_⟩
    rw [seeM_len] at hi
    rw [seeM_get _ _ hi, pageM_len ho (by omega) hi]
    exact Nat.le_refl _

attribute [local go_sem ↓] Go.wp_at_zero Go.wp_at_succ
end Go.Proofs.Ytjegndgdpmlbaaa

/-
  What the laws' own looking at two guests does where both hold the same.
-/
set_option linter.unusedSimpArgs false
namespace Go.Proofs.Ytjegndgdpmlbaaa
open Go.RowKit

end Go.Proofs.Ytjegndgdpmlbaaa

/-
  What the laws' own looking at two hosts does where both hold the same.
-/
set_option linter.unusedSimpArgs false
namespace Go.Proofs.Ytjegndgdpmlbaaa
open Go.RowKit

end Go.Proofs.Ytjegndgdpmlbaaa
