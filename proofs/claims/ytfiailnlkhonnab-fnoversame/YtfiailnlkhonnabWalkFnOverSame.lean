/-
  The walk of the law FnOverSame.
-/
import Derived.Test.YtfiailnlkhonnabWalkFnOverThree
namespace Go.Proofs.Ytfiailnlkhonnab
open Go.RowKit

theorem same_get (k : Nat) (hk : k < 6) : sameT.getD k (false, 0, false) = (true, (k : Int), true) := by
  have := sameT_get k (by omega) (by omega)
  simpa using this

set_option maxHeartbeats 1000000 in
theorem lkSame_any (w : World) :
    Calls Try.prog 16 #[] w fun e w' => ∃ T cap, e = .returned (.slice (some ⟨T, 0, none⟩) 6 cap) ∧ T < w'.heap.size ∧ Ents w' T 0 sameT ∧ Below w.heap.size w w' := by
  obtain ⟨i0, hi, hz0, hz1, hz2⟩ := info_parts infoE
  go_enter Try.func16, Try.ntmps16
  go_wp2
  go_loopw [1, 2] (fun v i wr => ∃ k : Nat, k ≤ 6 ∧ i = .int .i64 k ∧ Hid (wr.ownsRow w.heap.size 29 3 v k (flat (sameT.take k))) ∧ Below w.heap.size w wr) (fun _ i _ => 6 - (intOf i).toNat)
  case atStart => exact ⟨0, Nat.zero_le _, rfl, World.ownsRow_made w #[] 0 (Nat.le_refl _) (by simp [maxLen]) rfl, (Below.refl _ _).alloc (Nat.le_refl _) _⟩
  case round =>
    obtain ⟨k, hk, rfl, hownH, hW⟩ := hrel
    have hown := hownH.out
    have sW := hW.size
    by_cases hkl : k < 6
    · have hki : (k : Int) < 6 := by omega
      have HC1 := cell_three_new wr (.bool true) (.int .i64 k) (.bool true) 29
      have HC2 : ∀ u ∈ [Value.bool true, .int .i64 (k : Int), .bool true], u.oneCell' = true := fun u hu => by simp at hu; rcases hu with rfl | rfl | rfl <;> rfl
      go_wp2_with (at_builtin; refine wpList_append_own _ rfl _ _ 23 rfl w.heap.size 29 i0 (.agg #[.bool false, .int .i64 0, .bool false]) 3 24 Try.underlying23 hi hz0 hz1 hz2 rfl (by decide) _ _ _ rfl (hown.alloc _) ⟨wr.heap.size, 0, none⟩ 1 1 [.bool true, .int .i64 k, .bool true] rfl rfl HC1 HC2 (by unfold maxLen; omega) (by omega) (by simp; omega) ?_; intro v' w3 hown' hgrow hnil)
      have hB3 : Below w.heap.size w w3 := Below.grown (hW.alloc sW (.cells #[.bool true, .int .i64 k, .bool true] 29)) hgrow (by simp; omega) (fun j hj => (hown.lt _ hj).1)
      have hown3 : Hid (w3.ownsRow w.heap.size 29 3 v' (k + 1) (flat (sameT.take (k + 1)))) := by
        rw [flat_snoc (by simpa [sameT] using hkl) (same_get k hkl)]; exact hown'
      clear hown' hgrow hown hnil HC1 HC2
      go_wp2
      go_roundw
      case rel => exact ⟨k + 1, by omega, by go_num, hown3, hB3⟩
      case measure => simp [intOf]; omega
    · obtain rfl : k = 6 := by omega
      rw [List.take_of_length_le (by simp [sameT])] at hown
      obtain ⟨T, cap, hv, hT1, hT2, hE⟩ := ents_own hown (by omega)
      clear hown hownH
      subst hv
      go_wp2
      go_ret
      exact ⟨T, cap, rfl, hT2, hE, hW⟩

set_option maxHeartbeats 2000000 in
theorem walk_FnOverSame (a0 : Option Addr) (len0 cap0 : Nat) (z0 : List Int) (w : World) (w0 : IsRow .u8 w a0 len0 cap0 z0) :
    Calls Try.prog 5 #[.slice a0 len0 cap0] w fun e w' => e = .returned (.bool true) ∧ Below w.heap.size w w' := by
  by_cases hbig : (1048576 : Int) < (len0 : Int)
  · go_enter Try.func5, Try.ntmps5
    go_wp2
    go_ret
    exact ⟨rfl, Below.refl _ _⟩
  have hSo : sameT.all okE = true := by decide
  go_enter Try.func5, Try.ntmps5
  go_wp2_with (fail)
  refine (drawTabOver a0 len0 cap0 z0 _ w0).mono ?_
  rintro e v2 ⟨ba, oa, la, ca, ea, bb, ob, lb, cb, eb, rfl, hla, hlb, ma, mb, ta, tb, Ea, Eb, B2'⟩
  clear w0
  cases hT : ((ea.all okE && ((la : Int) == 6)) && (eb.all okE && ((lb : Int) == 6)))
  · go_wp2_with (fail)
    refine (implTabOver_not ba oa la ca ea bb ob lb cb eb _ hla hlb ta tb Ea Eb hT).mono ?_
    rintro e v3 ⟨rfl, B3⟩
    go_wp2_with (fail)
    refine (specTabOver_not ba oa la ca ea bb ob lb cb eb _ hla hlb ma mb (Nat.lt_of_lt_of_le ta B3.size) (Nat.lt_of_lt_of_le tb B3.size) (Ea.below B3 ta) (Eb.below B3 tb) hT).mono ?_
    rintro e v4 ⟨rfl, B4⟩
    have B24 := B3.trans (B4.mono B3.size)
    go_wp2_with (fail)
    refine (lkTab_nil _ _ _ _ _).mono ?_
    rintro e v5 ⟨rfl, rfl⟩
    go_wp2_with (fail)
    refine (specTabOk ba oa la ca ea _ hla (by omega) (Nat.lt_of_lt_of_le ta B24.size) (Ea.below B24 ta)).mono ?_
    rintro e v6 ⟨rfl, B6⟩
    have B26 := B24.trans (B6.mono B24.size)
    cases hC : (ea.all okE && ((la : Int) == 6))
    · go_wp2_with (fail)
      refine (specTabOver_not ba oa la ca ea bb ob lb cb eb _ hla hlb ma mb (Nat.lt_of_lt_of_le ta B26.size) (Nat.lt_of_lt_of_le tb B26.size) (Ea.below B26 ta) (Eb.below B26 tb) hT).mono ?_
      rintro e v7 ⟨rfl, B7⟩
      have B27 := B26.trans (B7.mono B26.size)
      go_wp2_with (fail)
      refine (lkTab_nil _ _ _ _ _).mono ?_
      rintro e v8 ⟨rfl, rfl⟩
      go_wp2
      go_ret
      exact ⟨rfl, B2'.trans (B27.mono B2'.size)⟩
    · obtain ⟨rfl, ha6, hA⟩ := okT_six hla hC
      clear hC hT B3 B4 B24 B6
      go_wp2_with (fail)
      refine (lkSame_any _).mono ?_
      rintro e v7 ⟨S, sc, rfl, ts, Es, B7⟩
      have B27 := B26.trans (B7.mono B26.size)
      go_wp2_with (fail)
      refine (implTabOver_ok ba oa ca ea S 0 sc sameT _ ha6 rfl (Nat.lt_of_lt_of_le ta B27.size) ts (Ea.below B27 ta) Es hA hSo).mono ?_
      rintro e v8 ⟨P, rfl, _, tp, Ep, _, B8⟩
      have B28 := B27.trans (B8.mono B27.size)
      rw [over_same ea hA] at Ep
      go_wp2_with (fail)
      refine (lkTab_same P 0 ba oa 6 6 ca ea _ ha6 (by omega) Ep (Ea.below B28 ta)).mono ?_
      rintro e v9 ⟨rfl, m9, rfl⟩
      have B29 := below_drewN B28 m9
      go_wp2_with (fail)
      refine (lkSame_any _).mono ?_
      rintro e v10 ⟨S', sc', rfl, ts', Es', B10⟩
      have B210 := B29.trans (B10.mono B29.size)
      go_wp2_with (fail)
      refine (implTabOver_ok S' 0 sc' sameT ba oa ca ea _ rfl ha6 ts' (Nat.lt_of_lt_of_le ta B210.size) Es' (Ea.below B210 ta) hSo hA).mono ?_
      rintro e v11 ⟨Q, rfl, _, tq, Eq, _, B11⟩
      have B211 := B210.trans (B11.mono B210.size)
      rw [same_over ea ha6 hA] at Eq
      go_wp2_with (fail)
      refine (lkTab_same Q 0 ba oa 6 6 ca ea _ ha6 (by omega) Eq (Ea.below B211 ta)).mono ?_
      rintro e v12 ⟨rfl, m12, rfl⟩
      go_wp2
      go_ret
      exact ⟨rfl, below_drewN (B2'.trans (B211.mono B2'.size)) m12⟩
  · have hT' := hT
    rw [Bool.and_eq_true] at hT'
    obtain ⟨rfl, ha6, hA⟩ := okT_six hla hT'.1
    obtain ⟨rfl, hb6, hB⟩ := okT_six hlb hT'.2
    clear hT hT'
    go_wp2_with (fail)
    refine (implTabOver_ok ba oa ca ea bb ob cb eb _ ha6 hb6 ta tb Ea Eb hA hB).mono ?_
    rintro e v3 ⟨X, rfl, _, tx, Ex, _, B3⟩
    go_wp2_with (fail)
    refine (specTabOver_ok ba oa ca ea bb ob cb eb _ ha6 hb6 (Nat.lt_of_lt_of_le ta B3.size) (Nat.lt_of_lt_of_le tb B3.size) (Ea.below B3 ta) (Eb.below B3 tb) hA hB).mono ?_
    rintro e v4 ⟨Y, yc, rfl, _, ty, Ey, B4⟩
    have B24 := B3.trans (B4.mono B3.size)
    have hl6 : (overT ea eb).length = 6 := by rw [overT_len]; exact ha6
    go_wp2_with (fail)
    refine (lkTab_same X 0 Y 0 6 6 yc (overT ea eb) _ hl6 (by omega) (Ex.below B4 tx) Ey).mono ?_
    rintro e v5 ⟨rfl, m5, rfl⟩
    have B5 : Below v4.heap.size v4 (v4.drewN m5) := below_drewN (Below.refl _ _) m5
    have B25 := B24.trans (B5.mono B24.size)
    clear Ey ty B3 B4 B24 Ex tx B5
    go_wp2_with (fail)
    refine (specTabOk ba oa 6 ca ea _ ha6 (by omega) (Nat.lt_of_lt_of_le ta B25.size) (Ea.below B25 ta)).mono ?_
    rintro e v6 ⟨rfl, B6⟩
    have B26 := B25.trans (B6.mono B25.size)
    clear B25 B6
    rw [show (ea.all okE && (((6 : Nat) : Int) == 6)) = true by rw [hA]; rfl]
    go_wp2_with (fail)
    refine (lkSame_any _).mono ?_
    rintro e v7 ⟨S, sc, rfl, ts, Es, B7⟩
    have B27 := B26.trans (B7.mono B26.size)
    go_wp2_with (fail)
    refine (implTabOver_ok ba oa ca ea S 0 sc sameT _ ha6 rfl (Nat.lt_of_lt_of_le ta B27.size) ts (Ea.below B27 ta) Es hA hSo).mono ?_
    rintro e v8 ⟨P, rfl, _, tp, Ep, _, B8⟩
    have B28 := B27.trans (B8.mono B27.size)
    rw [over_same ea hA] at Ep
    go_wp2_with (fail)
    refine (lkTab_same P 0 ba oa 6 6 ca ea _ ha6 (by omega) Ep (Ea.below B28 ta)).mono ?_
    rintro e v9 ⟨rfl, m9, rfl⟩
    have B29 := below_drewN B28 m9
    go_wp2_with (fail)
    refine (lkSame_any _).mono ?_
    rintro e v10 ⟨S', sc', rfl, ts', Es', B10⟩
    have B210 := B29.trans (B10.mono B29.size)
    go_wp2_with (fail)
    refine (implTabOver_ok S' 0 sc' sameT ba oa ca ea _ rfl ha6 ts' (Nat.lt_of_lt_of_le ta B210.size) Es' (Ea.below B210 ta) hSo hA).mono ?_
    rintro e v11 ⟨Q, rfl, _, tq, Eq, _, B11⟩
    have B211 := B210.trans (B11.mono B210.size)
    rw [same_over ea ha6 hA] at Eq
    go_wp2_with (fail)
    refine (lkTab_same Q 0 ba oa 6 6 ca ea _ ha6 (by omega) Eq (Ea.below B211 ta)).mono ?_
    rintro e v12 ⟨rfl, m12, rfl⟩
    go_wp2
    go_ret
    exact ⟨rfl, below_drewN (B2'.trans (B211.mono B2'.size)) m12⟩
end Go.Proofs.Ytfiailnlkhonnab
