/-
  The walk of the law FnExactTabAt: whatever the table and the page, both functions give the same, and the table is left as it was.
-/
import Derived.Test.YtfiailnlkhonnawEqEnts
import Derived.Test.YtfiailnlkhonnawTabAt
namespace Go.Proofs.Ytfiailnlkhonnaw
open Go.RowKit

set_option maxHeartbeats 1000000 in
theorem walk_FnExactTabAt (a : Option Addr) (len cap : Nat) (es : List E3) (page : Int) (w : World) (h : IsEnts w a len es ∧ len ≤ maxLen) (_wf : (Lit.int .i64 page).wf = true) :
    Calls Try.prog 5 #[.slice a len cap, .int .i64 page] w fun e w' => e = .returned (.bool true) ∧ Below w.heap.size w w' := by
  obtain ⟨h, hmax⟩ := h
  unfold maxLen at hmax
  by_cases hbig : (1048576 : Int) < (len : Int)
  · have hneg : (1048576 : Int) - (len : Int) < 0 := by omega
    go_enter Try.func5, Try.ntmps5
    go_wp2
    go_ret
    exact ⟨rfl, Below.refl _ _⟩
  · have hneg : ¬ (1048576 : Int) - (len : Int) < 0 := by omega
    have hn : len ≤ 1048576 := by omega
    have hl := h.1
    go_enter Try.func5, Try.ntmps5
    go_wp2_with (first | (go_at_call 11; go_in) | fail)
    refine (toEntryS_any a len cap es _ h hn).mono ?_
    rintro e w1 ⟨rfl, E1, l1, B1⟩
    have s1 := B1.size
    go_wp2_with (fail)
    refine (specTabAt w.heap.size 0 len len es page _ hl hn l1 E1).mono ?_
    rintro e w2 ⟨rfl, B2⟩
    have B2' := B1.trans (B2.mono s1)
    have s2 := B2'.size
    have A2 := B2'.alloc s2 (.cells #[.bool (atE es page).1, .int .i64 (atE es page).2.1, .bool (atE es page).2.2] 23)
    generalize hX : atE es page = X
    obtain ⟨xh, xp, xb⟩ := X
    rw [hX] at A2
    unfold entV
    go_wp2_with (fail)
    refine (toEntryS_any a len cap es _ (h.below A2) hn).mono ?_
    rintro e w3 ⟨rfl, E3', l3, B3⟩
    have B3' := A2.trans (B3.mono A2.size)
    obtain ⟨⟨c0, c1, c2⟩, ⟨_, _, _⟩, hlt3⟩ := keep6 B3 w2.heap.size (by simp) (by simp)
    have hsz : ∀ o, (w2.alloc o).heap.size = w2.heap.size + 1 := fun o => by simp
    rw [hsz] at E3' l3
    go_wp2_with (fail)
    refine (implTabAt (w2.heap.size + 1) 0 len len es page _ hl l3 E3').mono ?_
    rintro e w4 ⟨rfl, B4⟩
    have B4' := B3'.trans (B4.mono B3'.size)
    obtain ⟨⟨d0, d1, d2⟩, ⟨_, _, _⟩, hlt4⟩ := keep6 B4 w2.heap.size hlt3 hlt3
    have hlt4' : w2.heap.size < w4.heap.size + 1 := by omega
    rw [hX]
    unfold entV
    have s4 := B4'.size
    go_wp2_with (fail)
    refine (eqE_same _ _ _ _).mono ?_
    rintro e w5 ⟨rfl, o1, o2, rfl⟩
    have A5 : Below w.heap.size w ((((w4.alloc (.cells #[.bool xh, .int .i64 xp, .bool xb] 23)).alloc o1).alloc o2)) := by
      (repeat' (with_reducible (first | exact Below.refl _ _ | apply Below.setCell | apply Below.alloc | apply below_drewN | apply Below.drew | refine Below.trans ?_ (Below.mono (by assumption) ?_)))) <;> (first | exact Nat.le_refl _ | (simp; done) | (simp; omega) | (simp at *; omega))
    have C5 : Below w4.heap.size w4 ((((w4.alloc (.cells #[.bool xh, .int .i64 xp, .bool xb] 23)).alloc o1).alloc o2)) := by
      (repeat' (with_reducible (first | exact Below.refl _ _ | apply Below.setCell | apply Below.alloc | apply below_drewN | apply Below.drew))) <;> (first | exact Nat.le_refl _ | (simp; done) | (simp; omega))
    go_wp2_with (fail)
    refine (toEntryS_any a len cap es _ (h.below A5) hn).mono ?_
    rintro e w6 ⟨rfl, E6, l6, B6⟩
    have B6' := A5.trans (B6.mono A5.size)
    go_wp2_with (fail)
    have hsz6 : ((((w4.alloc (.cells #[.bool xh, .int .i64 xp, .bool xb] 23)).alloc o1).alloc o2)).heap.size = w4.heap.size + 1 + 1 + 1 := by simp
    rw [hsz6] at E6 l6
    refine (eqEntryS_same (w2.heap.size + 1) 0 (w4.heap.size + 1 + 1 + 1) 0 len len len es _ hl hn ?x1 l6 ?x2 E6).mono ?_
    case x1 => exact Nat.lt_of_lt_of_le (Nat.lt_of_lt_of_le (Nat.lt_of_lt_of_le l3 B4.size) C5.size) B6.size
    case x2 => exact ((E3'.below B4 l3).below C5 (Nat.lt_of_lt_of_le l3 B4.size)).below B6 (Nat.lt_of_lt_of_le (Nat.lt_of_lt_of_le l3 B4.size) C5.size)
    rintro e w7 ⟨rfl, B7⟩
    have B7' := B6'.trans (B7.mono B6'.size)
    go_wp2
    go_ret
    exact ⟨rfl, B7'⟩
end Go.Proofs.Ytfiailnlkhonnaw
