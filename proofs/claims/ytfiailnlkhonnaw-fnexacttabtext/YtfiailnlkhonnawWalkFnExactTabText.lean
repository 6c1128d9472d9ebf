/-
  The walk of the law FnExactTabText: whatever the table, both functions give the same text, and the table is left as it was.
-/
import Derived.Test.YtfiailnlkhonnawEqEnts
import Derived.Test.YtfiailnlkhonnawTextImpl
namespace Go.Proofs.Ytfiailnlkhonnaw
open Go.RowKit

/-- One text that both functions give, wherever the table lies. -/
theorem both_text (len : Nat) (es : List E3) (hl : es.length = len) (hm : len ≤ 1048576) :
    ∃ S : ByteArray, (∀ (b o cap : Nat) (w : World), b < w.heap.size → Ents w b o es → Calls Try.prog 22 #[.slice (some ⟨b, o, none⟩) len cap] w fun e w' => e = .returned (.string S) ∧ Below w.heap.size w w') ∧
      (∀ (b o cap : Nat) (w : World), b < w.heap.size → Ents w b o es → Calls Try.prog 23 #[.slice (some ⟨b, o, none⟩) len cap] w fun e w' => e = .returned (.string S) ∧ Below w.heap.size w w') := by
  cases hT : (es.all okE && ((len : Int) == 6))
  · exact ⟨⟨#[]⟩, fun b o cap w hb hc => specTabText_not b o len cap es w hl hm hb hc hT, fun b o cap w hb hc => implTabText_not b o len cap es w hl hb hc hT⟩
  · rw [Bool.and_eq_true] at hT
    obtain ⟨hA, h6⟩ := hT
    obtain rfl : len = 6 := by simp at h6; omega
    refine ⟨preS es 6 ++ ⟨#[10]⟩, fun b o cap w hb hc => specTabText_ok b o cap es w hl hb hc hA, fun b o cap w hb hc => ?_⟩
    rw [pre_join es hl hA]
    exact implTabText_ok b o cap es w hl hb hc hA

set_option maxHeartbeats 1000000 in
theorem walk_FnExactTabText (a : Option Addr) (len cap : Nat) (es : List E3) (w : World) (h : IsEnts w a len es ∧ len ≤ maxLen) :
    Calls Try.prog 7 #[.slice a len cap] w fun e w' => e = .returned (.bool true) ∧ Below w.heap.size w w' := by
  obtain ⟨h, hmax⟩ := h
  unfold maxLen at hmax
  by_cases hbig : (1048576 : Int) < (len : Int)
  · have hneg : (1048576 : Int) - (len : Int) < 0 := by omega
    go_enter Try.func7, Try.ntmps7
    go_wp2
    go_ret
    exact ⟨rfl, Below.refl _ _⟩
  · have hneg : ¬ (1048576 : Int) - (len : Int) < 0 := by omega
    have hn : len ≤ 1048576 := by omega
    have hl := h.1
    obtain ⟨S, hS, hI⟩ := both_text len es hl hn
    go_enter Try.func7, Try.ntmps7
    go_wp2_with (first | (go_at_call 11; go_in) | fail)
    refine (toEntryS_any a len cap es _ h hn).mono ?_
    rintro e w1 ⟨rfl, E1, l1, B1⟩
    go_wp2_with (fail)
    refine (hS w.heap.size 0 len _ l1 E1).mono ?_
    rintro e w2 ⟨rfl, B2⟩
    have B2' := B1.trans (B2.mono B1.size)
    go_wp2_with (fail)
    refine (toEntryS_any a len cap es _ (h.below B2') hn).mono ?_
    rintro e w3 ⟨rfl, E3', l3, B3⟩
    have B3' := B2'.trans (B3.mono B2'.size)
    go_wp2_with (fail)
    refine (hI w2.heap.size 0 len _ l3 E3').mono ?_
    rintro e w4 ⟨rfl, B4⟩
    have B4' := B3'.trans (B4.mono B3'.size)
    go_wp2_with (fail)
    refine (toEntryS_any a len cap es _ (h.below B4') hn).mono ?_
    rintro e w5 ⟨rfl, E5, l5, B5⟩
    have B5' := B4'.trans (B5.mono B4'.size)
    go_wp2_with (fail)
    refine (eqEntryS_same w2.heap.size 0 w4.heap.size 0 len len len es _ hl hn (Nat.lt_of_lt_of_le l3 (Nat.le_trans B4.size B5.size)) l5 ((E3'.below B4 l3).below B5 (Nat.lt_of_lt_of_le l3 B4.size)) E5).mono ?_
    rintro e w6 ⟨rfl, B6⟩
    have B6' := B5'.trans (B6.mono B5'.size)
    go_wp2
    go_ret
    exact ⟨rfl, B6'⟩
end Go.Proofs.Ytfiailnlkhonnaw
