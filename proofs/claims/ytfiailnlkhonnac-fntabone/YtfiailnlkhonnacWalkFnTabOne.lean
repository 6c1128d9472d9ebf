/-
  The walk of the law FnTabOne.
-/
import Derived.Test.YtfiailnlkhonnacDrawTab1
import Derived.Test.YtfiailnlkhonnacLkAny0
import Derived.Test.YtfiailnlkhonnacTextOne0
import Derived.Deep.DeepCutAuto
namespace Go.Proofs.Ytfiailnlkhonnac
open Go.RowKit

set_option maxHeartbeats 1000000 in
theorem drawTabText (a : Option Addr) (len cap : Nat) (zs : List Int) (w : World) (h : IsRow .u8 w a len cap zs) :
    Calls Try.prog 4 #[.slice a len cap] w fun e w' => ∃ (ba oa la ca : Nat) (ea : List E3),
      e = .returned (.slice (some ⟨ba, oa, none⟩) la ca) ∧ ea.length = la ∧ la ≤ 6 ∧ ba < w'.heap.size ∧ Ents w' ba oa ea ∧ Below w.heap.size w w' := by
  go_enter Try.func4, Try.ntmps4
  go_wp2_with (fail)
  refine (open_any a len cap zs _ h).mono ?_
  rintro e w' ⟨rfl, len', hl, rfl⟩
  go_wp2_with (fail)
  have hr := rd_new h hl 0 44
  refine (drawTab w.heap.size 0 _ hr (by omega)).mono ?_
  rintro e w1 ⟨ba, oa, la, ca, ea, k1, rfl, hla, ma, t1, t2, E1, hr1, hk1, ha1⟩
  have hB1 : Below w.heap.size w w1 := ((Below.refl w.heap.size w).alloc (Nat.le_refl _) _).trans (ha1.below (Nat.le_refl _) (by simp))
  go_wp2
  go_ret
  exact ⟨ba, oa, la, ca, ea, rfl, hla, ma, t2, E1, hB1⟩

theorem list_ne {S T : ByteArray} (h : S ≠ T) : ¬ S.toList = T.toList := fun e => by
  rw [ByteArray.toList_eq, ByteArray.toList_eq] at e
  exact h (ByteArray.ext (Array.toList_inj.mp e))
theorem list_some {S : ByteArray} (h : S ≠ ⟨#[]⟩) : S.toList.isEmpty = false := by
  cases hl : S.toList with
  | nil => exact absurd (by rw [hl, ByteArray.toList_eq]) (list_ne h)
  | cons _ _ => rfl

set_option maxHeartbeats 4000000 in
theorem walk_FnTabOne (a0 : Option Addr) (len0 cap0 : Nat) (z0 : List Int) (a1 : Option Addr) (len1 cap1 : Nat) (z1 : List Int) (w : World) (w0 : IsRow .u8 w a0 len0 cap0 z0) (w1 : IsRow .u8 w a1 len1 cap1 z1) :
    Calls Try.prog 3 #[.slice a0 len0 cap0, .slice a1 len1 cap1] w fun e w' => e = .returned (.bool true) ∧ Below w.heap.size w w' := by
  by_cases hbig : (1048576 : Int) < (len0 : Int)
  · go_enter Try.func3, Try.ntmps3
    go_wp2
    go_ret
    exact ⟨rfl, Below.refl _ _⟩
  by_cases hbig1 : (1048576 : Int) < (len1 : Int)
  · go_enter Try.func3, Try.ntmps3
    go_wp2
    go_ret
    exact ⟨rfl, Below.refl _ _⟩
  go_enter Try.func3, Try.ntmps3
  go_wp2_with (fail)
  refine (drawTabText a0 len0 cap0 z0 _ w0).mono ?_
  rintro e v1 ⟨ba, oa, la, ca, ea, rfl, hla, ma, ta, Ea, B1⟩
  have w1' := w1.below B1
  go_wp2_with (fail)
  refine (drawTabText a1 len1 cap1 z1 _ w1').mono ?_
  rintro e v2 ⟨bb, ob, lb, cb, eb, rfl, hlb, mb, tb, Eb, B2⟩
  clear w0 w1 w1'
  have Ea2 := Ea.below B2 ta
  have ta2 := Nat.lt_of_lt_of_le ta B2.size
  have B12 := B1.trans (B2.mono B1.size)
  clear Ea ta B1 B2
  obtain ⟨S, sS, sI, hS⟩ := both_text la ea hla (by omega)
  obtain ⟨T, tS, tI, hT⟩ := both_text lb eb hlb (by omega)
  have cS : ∀ W, Below v2.heap.size v2 W → Calls Try.prog 6 #[.slice (some ⟨ba, oa, none⟩) la ca] W fun e w' => e = .returned (.string S) ∧ Below W.heap.size W w' := fun W hW =>
    sS ba oa ca W (Nat.lt_of_lt_of_le ta2 hW.size) (Ea2.below hW ta2)
  have cT : ∀ W, Below v2.heap.size v2 W → Calls Try.prog 6 #[.slice (some ⟨bb, ob, none⟩) lb cb] W fun e w' => e = .returned (.string T) ∧ Below W.heap.size W w' := fun W hW =>
    tS bb ob cb W (Nat.lt_of_lt_of_le tb hW.size) (Eb.below hW tb)
  clear sS tS
  go_wp2_with (fail)
  refine (sI ba oa ca _ ta2 Ea2).mono ?_
  rintro e v3 ⟨rfl, B3⟩
  go_wp2_with (fail)
  refine (tI bb ob cb _ (Nat.lt_of_lt_of_le tb B3.size) (Eb.below B3 tb)).mono ?_
  rintro e v4 ⟨rfl, B4⟩
  have hB := B3.trans (B4.mono B3.size)
  clear sI tI B3 B4
  by_cases hN : S = ⟨#[]⟩ ∨ T = ⟨#[]⟩
  · have hcs : S = ⟨#[]⟩ ∨ (S ≠ ⟨#[]⟩ ∧ T = ⟨#[]⟩) := by
      by_cases h : S = ⟨#[]⟩
      · exact Or.inl h
      · exact Or.inr ⟨h, hN.resolve_left h⟩
    clear hS hT hN
    have hcs : S = ⟨#[]⟩ ∨ (S.toList.isEmpty = false ∧ T = ⟨#[]⟩) := hcs.imp id fun h => ⟨list_some h.1, h.2⟩
    rcases hcs with rfl | ⟨hne, rfl⟩
    all_goals
      go_wp2_with (fail)
      refine (cS _ hB).mono ?_
      rintro e v5 ⟨rfl, b5⟩
      have hB5 := hB.trans (b5.mono hB.size)
      go_wp2_with (fail)
      refine (cT _ hB5).mono ?_
      rintro e v6 ⟨rfl, b6⟩
      have hB6 := hB5.trans (b6.mono hB5.size)
      clear b5 b6 hB5 hB
      go_wp2_with (fail)
      refine (cS _ hB6).mono ?_
      rintro e v7 ⟨rfl, b7⟩
      have hB7 := hB6.trans (b7.mono hB6.size)
      go_wp2_with (fail)
      refine (cT _ hB7).mono ?_
      rintro e v8 ⟨rfl, b8⟩
      have hB8 := hB7.trans (b8.mono hB7.size)
      clear b7 b8 hB7 hB6
      go_wp2
      go_ret
      exact ⟨rfl, B12.trans (hB8.mono B12.size)⟩
  · have nS : S ≠ ⟨#[]⟩ := fun h => hN (Or.inl h)
    have nT : T ≠ ⟨#[]⟩ := fun h => hN (Or.inr h)
    clear hN
    obtain ⟨rfl, okA, eS⟩ := hS.resolve_left nS
    obtain ⟨rfl, okB, eT⟩ := hT.resolve_left nT
    have HST : Hid (ea = eb ∧ S = T ∨ ea ≠ eb ∧ S ≠ T) := by
      by_cases h : ea = eb
      · exact Or.inl ⟨h, by rw [eS, eT, h]⟩
      · exact Or.inr ⟨h, fun e => h (text_one hla hlb okA okB (by rw [← eS, ← eT, e]))⟩
    have HL : ∀ W, Below v2.heap.size v2 W → Calls Try.prog 7 #[.slice (some ⟨ba, oa, none⟩) 6 ca, .slice (some ⟨bb, ob, none⟩) 6 cb] W fun e w' => e = .returned (.bool (decide (ea = eb))) ∧ ∃ m, w' = W.drewN m := fun W hW =>
      lkTab_any ba oa bb ob 6 ca cb ea eb W hla hlb (by omega) (Ea2.below hW ta2) (Eb.below hW tb)
    clear hS hT eS eT okA okB
    have nS := list_some nS
    have nT := list_some nT
    rcases HST.out with ⟨rfl, rfl⟩ | ⟨hab, hst⟩
    · simp only [decide_true] at HL
      go_wp2_with (fail)
      refine (cS _ hB).mono ?_
      rintro e v5 ⟨rfl, b5⟩
      have hB5 := hB.trans (b5.mono hB.size)
      go_wp2_with (fail)
      refine (cT _ hB5).mono ?_
      rintro e v6 ⟨rfl, b6⟩
      have hB6 := hB5.trans (b6.mono hB5.size)
      clear b5 b6 hB5 hB
      go_wp2_with (fail)
      refine (HL _ hB6).mono ?_
      rintro e v6 ⟨rfl, m6, rfl⟩
      go_wp2
      go_ret
      exact ⟨rfl, B12.trans ((below_drewN hB6 _).mono B12.size)⟩
    · have hd : decide (ea = eb) = false := by rw [decide_eq_false_iff_not]; exact hab
      rw [hd] at HL
      have hst : (S.toList == T.toList) = false := by simpa using list_ne hst
      go_wp2_with (fail)
      refine (cS _ hB).mono ?_
      rintro e v5 ⟨rfl, b5⟩
      have hB5 := hB.trans (b5.mono hB.size)
      go_wp2_with (fail)
      refine (cT _ hB5).mono ?_
      rintro e v6 ⟨rfl, b6⟩
      have hB6 := hB5.trans (b6.mono hB5.size)
      clear b5 b6 hB5 hB
      go_wp2_with (fail)
      refine (HL _ hB6).mono ?_
      rintro e v6 ⟨rfl, m6, rfl⟩
      go_wp2
      go_ret
      exact ⟨rfl, B12.trans ((below_drewN hB6 _).mono B12.size)⟩
end Go.Proofs.Ytfiailnlkhonnac
