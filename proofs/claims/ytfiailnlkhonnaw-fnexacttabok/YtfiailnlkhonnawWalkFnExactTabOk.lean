/-
  The walk of the law FnExactTabOk: whatever the table, both functions give the same, and it is left as it was.
-/
import Derived.Test.YtfiailnlkhonnawEqEnts
namespace Go.Proofs.Ytfiailnlkhonnaw
open Go.RowKit

set_option maxHeartbeats 1000000 in
theorem walk_FnExactTabOk (a : Option Addr) (len cap : Nat) (es : List E3) (w : World) (h : IsEnts w a len es ∧ len ≤ maxLen) :
    Calls Try.prog 4 #[.slice a len cap] w fun e w' => e = .returned (.bool true) ∧ Below w.heap.size w w' := by
  obtain ⟨h, hmax⟩ := h
  unfold maxLen at hmax
  by_cases hbig : (1048576 : Int) < (len : Int)
  · have hneg : (1048576 : Int) - (len : Int) < 0 := by omega
    go_enter Try.func4, Try.ntmps4
    go_wp2
    go_ret
    exact ⟨rfl, Below.refl _ _⟩
  · have hneg : ¬ (1048576 : Int) - (len : Int) < 0 := by omega
    have hn : len ≤ 1048576 := by omega
    have hl := h.1
    go_enter Try.func4, Try.ntmps4
    go_wp2_with (first | (go_at_call 11; go_in) | fail)
    refine (toEntryS_any a len cap es _ h hn).mono ?_
    rintro e w1 ⟨rfl, E1, l1, B1⟩
    have s1 := B1.size
    go_wp2_with (fail)
    refine (specTabOk w.heap.size 0 len len es _ hl (by omega) l1 E1).mono ?_
    rintro e w2 ⟨rfl, B2⟩
    have s2 := B2.size
    have B2' := B1.trans (B2.mono s1)
    go_wp2_with (fail)
    refine (toEntryS_any a len cap es _ (h.below B2') hn).mono ?_
    rintro e w3 ⟨rfl, E3', l3, B3⟩
    have s3 := B3.size
    have B3' := B2'.trans (B3.mono B2'.size)
    go_wp2_with (fail)
    have hI : Calls Try.prog 14 #[.slice (some ⟨w2.heap.size, 0, none⟩) len len] w3 fun e w' => e = .returned (.bool (es.all okE && ((len : Int) == 6))) ∧ Below w3.heap.size w3 w' := by
      cases h6 : ((len : Int) == 6)
      · refine (implTabOk_len _ len len w3 h6).mono ?_
        rintro e w' ⟨rfl, rfl⟩
        exact ⟨by simp, Below.refl _ _⟩
      · have h6' : len = 6 := by simp at h6; omega
        subst h6'
        refine (implTabOk_six w2.heap.size 0 6 es w3 hl l3 E3').mono ?_
        rintro e w' ⟨rfl, hb⟩
        exact ⟨by simp, hb⟩
    refine hI.mono ?_
    rintro e w4 ⟨rfl, B4⟩
    have B4' := B3'.trans (B4.mono B3'.size)
    go_wp2_with (fail)
    refine (toEntryS_any a len cap es _ (h.below B4') hn).mono ?_
    rintro e w5 ⟨rfl, E5, l5, B5⟩
    have B5' := B4'.trans (B5.mono B4'.size)
    go_wp2_with (fail)
    refine (eqEntryS_same w2.heap.size 0 w4.heap.size 0 len len len es _ hl hn (Nat.lt_of_lt_of_le l3 (Nat.le_trans B4.size B5.size)) l5 ((E3'.below B4 l3).below B5 (Nat.lt_of_lt_of_le l3 B4.size)) E5).mono ?_
    rintro e w6 ⟨rfl, B6⟩
    have B6' := B5'.trans (B6.mono B5'.size)
    go_wp2
    go_ret
    exact ⟨rfl, B6'⟩
end Go.Proofs.Ytfiailnlkhonnaw
