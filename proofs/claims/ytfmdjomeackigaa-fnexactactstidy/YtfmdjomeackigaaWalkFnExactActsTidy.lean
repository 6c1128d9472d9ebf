/-
  The walk of the law FnExactActsTidy: whatever the acts, both functions give the same, and they are left as they were.
-/
import Derived.Test.YtfmdjomeackigaaActs2
import Derived.Test.YtfmdjomeackigaaActsIn
namespace Go.Proofs.Ytfmdjomeackigaa
open Go.RowKit

set_option maxHeartbeats 1000000 in
theorem walk_FnExactActsTidy (a : Option Addr) (len cap : Nat) (xs : List A5) (w : World) (h : ArgActs w a len xs) :
    Calls Try.prog 3 #[.slice a len cap] w fun e w' => e = .returned (.bool true) ∧ Below w.heap.size w w' := by
  obtain ⟨h, hmax, hwf⟩ := h
  unfold maxLen at hmax
  have hwf1 : ∀ x ∈ xs, (Lit.int .i64 x.2.1).wf = true := fun x hx => (hwf x hx).2.1
  clear hwf
  by_cases hbig : (1048576 : Int) < (len : Int)
  · have hneg : (1048576 : Int) - (len : Int) < 0 := by omega
    go_enter Try.func3, Try.ntmps3
    go_wp2_with (first | (go_at_call 8; go_in) | fail)
    go_ret
    exact ⟨rfl, Below.refl _ _⟩
  · have hneg : ¬ (1048576 : Int) - (len : Int) < 0 := by omega
    have hn : len ≤ 1048576 := by omega
    have hl := h.1
    go_enter Try.func3, Try.ntmps3
    go_wp2_with (first | (go_at_call 8; go_in) | fail)
    refine (toActS_any a len cap xs _ h hn).mono ?_
    rintro e w1 ⟨rfl, E1, l1, B1⟩
    have s1 := B1.size
    go_wp2_with (fail)
    refine (specActsTidy w.heap.size 0 len len xs _ hl (by omega) l1 E1).mono ?_
    rintro e w2 ⟨rfl, B2⟩
    have s2 := B2.size
    have B2' := B1.trans (B2.mono s1)
    go_wp2_with (fail)
    refine (toActS_any a len cap xs _ (h.below B2') hn).mono ?_
    rintro e w3 ⟨rfl, E3', l3, B3⟩
    have s3 := B3.size
    have B3' := B2'.trans (B3.mono B2'.size)
    go_wp2_with (fail)
    refine (implActsTidy w2.heap.size 0 len len xs _ hl (by omega) l3 E3' hwf1).mono ?_
    rintro e w4 ⟨rfl, B4⟩
    have B4' := B3'.trans (B4.mono B3'.size)
    go_wp2_with (fail)
    refine (toActS_any a len cap xs _ (h.below B4') hn).mono ?_
    rintro e w5 ⟨rfl, E5, l5, B5⟩
    have B5' := B4'.trans (B5.mono B4'.size)
    go_wp2_with (fail)
    refine (eqActS_same w2.heap.size 0 w4.heap.size 0 len len len xs _ hl hn (Nat.lt_of_lt_of_le l3 (Nat.le_trans B4.size B5.size)) l5 ((E3'.below B4 l3).below B5 (Nat.lt_of_lt_of_le l3 B4.size)) E5).mono ?_
    rintro e w6 ⟨rfl, B6⟩
    have B6' := B5'.trans (B6.mono B5'.size)
    go_wp2
    go_ret
    exact ⟨rfl, B6'⟩
end Go.Proofs.Ytfmdjomeackigaa
