/-
  The walk of the law FnTabLess.
-/
import Derived.Test.YtfiailnlkhonnabDrawTabR
namespace Go.Proofs.Ytfiailnlkhonnab
open Go.RowKit

theorem atE_gone (ea : List E3) (k : Nat) (hk : k < ea.length) : atE (ea.set k (false, 0, false)) (k : Int) = (false, 0, false) := by
  unfold atE
  have hg : (ea.set k (false, 0, false)).getD k (false, 0, false) = (false, 0, false) := by rw [List.getD_eq_getElem?_getD, List.getElem?_set_self hk]; rfl
  split
  · simpa using hg
  · rfl

set_option maxHeartbeats 4000000 in
theorem walk_FnTabLess (a0 : Option Addr) (len0 cap0 : Nat) (z0 : List Int) (a1 : Option Addr) (len1 cap1 : Nat) (z1 : List Int) (w : World) (w0 : IsRow .u8 w a0 len0 cap0 z0) (_w1 : IsRow .u8 w a1 len1 cap1 z1) :
    Calls Try.prog 8 #[.slice a0 len0 cap0, .slice a1 len1 cap1] w fun e w' => e = .returned (.bool true) ∧ Below w.heap.size w w' := by
  by_cases hbig : (1048576 : Int) < (len0 : Int)
  · go_enter Try.func8, Try.ntmps8
    go_wp2
    go_ret
    exact ⟨rfl, Below.refl _ _⟩
  by_cases hbig' : (1048576 : Int) < (len1 : Int)
  · go_enter Try.func8, Try.ntmps8
    go_wp2
    go_ret
    exact ⟨rfl, Below.refl _ _⟩
  obtain ⟨kk, hkk6, hkk⟩ : ∃ kk : Nat, kk < 6 ∧ (len1 : Int) % 6 = (kk : Int) := ⟨len1 % 6, Nat.mod_lt _ (by omega), by omega⟩
  obtain ⟨i0, hi, hz0, hz1, hz2⟩ := info_parts infoE
  go_enter Try.func8, Try.ntmps8
  go_wp2_with (fail)
  refine (drawTabOk a0 len0 cap0 z0 _ w0).mono ?_
  rintro e v1 ⟨bb, ob, lb, cb, eb, rfl, hlb, mb, tb, Eb, B1⟩
  clear w0
  go_wp2_with (fail)
  refine (implTabOk bb ob lb cb eb _ hlb tb Eb).mono ?_
  rintro e v2 ⟨rfl, B2⟩
  go_wp2_with (fail)
  refine (specTabOk bb ob lb cb eb _ hlb (by omega) (Nat.lt_of_lt_of_le tb B2.size) (Eb.below B2 tb)).mono ?_
  rintro e v3 ⟨rfl, B3⟩
  have B13 := B2.trans (B3.mono B2.size)
  have Eb := Eb.below B13 tb
  have tb := Nat.lt_of_lt_of_le tb B13.size
  have Bw := B1.trans (B13.mono B1.size)
  clear B1 B2 B3 B13
  cases hT : (eb.all okE && ((lb : Int) == 6))
  · go_wp2_with (fail)
    refine (specTabOk bb ob lb cb eb _ hlb (by omega) tb Eb).mono ?_
    rintro e v4 ⟨rfl, B4⟩
    rw [hT]
    go_wp2
    go_ret
    exact ⟨rfl, Bw.trans (B4.mono Bw.size)⟩
  · obtain ⟨rfl, hb6, hB⟩ := okT_six hlb hT
    clear hT
    have HNL : ∀ j x, (flat eb)[j]? = some x → (v3.alloc (.cells #[] 29)).cell? ((⟨bb, ob, none⟩ : Addr).add j) = some x := ents_flat (Eb.below ((Below.refl v3.heap.size v3).alloc (Nat.le_refl _) _) tb)
    have hkki : (kk : Int) < 6 := by omega
    go_wp2_with (first | (at_builtin; refine wpList_append_own _ rfl (.tmp 37) (.tmp 38) 23 rfl v3.heap.size 29 i0 (.agg #[.bool false, .int .i64 0, .bool false]) 3 24 Try.underlying23 hi hz0 hz1 hz2 rfl (by decide) _ _ _ rfl (World.ownsRow_made v3 #[] 0 (Nat.le_refl _) (by simp [maxLen]) rfl) ⟨bb, ob, none⟩ 6 cb (flat eb) rfl (by rw [flat_len, hb6]) HNL (flat_one eb) (by unfold maxLen; omega) (by omega) (by simp) ?_; intro valL wL ownL growL nilL; rw [Nat.zero_add, List.nil_append] at ownL; have BL : Below v3.heap.size v3 wL := Below.grown ((Below.refl v3.heap.size v3).alloc (Nat.le_refl _) (.cells #[] 29)) growL (by simp) (own_at _); obtain ⟨L, capL, hvL, hL1, hL2, EL⟩ := ents_own ownL (by omega); subst hvL; have RL := own_room ownL; clear ownL growL nilL; obtain ⟨⟨u0, d0⟩, f0⟩ := RL (kk * 3) (by omega); obtain ⟨⟨u1, d1⟩, f1⟩ := RL (kk * 3 + 1) (by omega); obtain ⟨⟨u2, d2⟩, f2⟩ := RL (kk * 3 + 2) (by omega); have B7 : Below v3.heap.size v3 (((wL.setCell ⟨L, kk * 3, none⟩ (.bool false)).setCell ⟨L, kk * 3 + 1, none⟩ (.int .i64 0)).setCell ⟨L, kk * 3 + 2, none⟩ (.bool false)) := ((BL.setCell (p := ⟨L, kk * 3, none⟩) hL1 _).setCell (p := ⟨L, kk * 3 + 1, none⟩) hL1 _).setCell (p := ⟨L, kk * 3 + 2, none⟩) hL1 _; have E7 := ents_set (k := kk) RL EL (by omega) (by omega) false 0 false; have hL7 : L < (((wL.setCell ⟨L, kk * 3, none⟩ (.bool false)).setCell ⟨L, kk * 3 + 1, none⟩ (.int .i64 0)).setCell ⟨L, kk * 3 + 2, none⟩ (.bool false)).heap.size := (by simpa using hL2); have HNM := ents_flat ((Eb.below B7 tb).below ((Below.refl (((wL.setCell ⟨L, kk * 3, none⟩ (.bool false)).setCell ⟨L, kk * 3 + 1, none⟩ (.int .i64 0)).setCell ⟨L, kk * 3 + 2, none⟩ (.bool false)).heap.size (((wL.setCell ⟨L, kk * 3, none⟩ (.bool false)).setCell ⟨L, kk * 3 + 1, none⟩ (.int .i64 0)).setCell ⟨L, kk * 3 + 2, none⟩ (.bool false))).alloc (Nat.le_refl _) (.cells #[] 29)) (Nat.lt_of_lt_of_le tb B7.size)); have hszW : (((wL.setCell ⟨L, kk * 3, none⟩ (.bool false)).setCell ⟨L, kk * 3 + 1, none⟩ (.int .i64 0)).setCell ⟨L, kk * 3 + 2, none⟩ (.bool false)).heap.size = wL.heap.size := (by simp); have HOM : ((((wL.setCell ⟨L, kk * 3, none⟩ (.bool false)).setCell ⟨L, kk * 3 + 1, none⟩ (.int .i64 0)).setCell ⟨L, kk * 3 + 2, none⟩ (.bool false)).alloc (.cells #[] 29)).ownsRow wL.heap.size 29 3 (.slice (some ⟨wL.heap.size, 0, none⟩) 0 0) 0 [] := (hszW ▸ World.ownsRow_made (((wL.setCell ⟨L, kk * 3, none⟩ (.bool false)).setCell ⟨L, kk * 3 + 1, none⟩ (.int .i64 0)).setCell ⟨L, kk * 3 + 2, none⟩ (.bool false)) #[] 0 (Nat.le_refl _) (by simp [maxLen]) rfl); clear RL EL HNL) | (at_builtin; refine wpList_append_own _ rfl (.tmp 44) (.tmp 45) 23 rfl wL.heap.size 29 i0 (.agg #[.bool false, .int .i64 0, .bool false]) 3 24 Try.underlying23 hi hz0 hz1 hz2 rfl (by decide) _ _ _ rfl HOM ⟨bb, ob, none⟩ 6 cb (flat eb) rfl (by rw [flat_len, hb6]) HNM (flat_one eb) (by unfold maxLen; omega) (by omega) (by simp) ?_; intro valM wM ownM growM nilM; rw [Nat.zero_add, List.nil_append] at ownM; have BM : Below (((wL.setCell ⟨L, kk * 3, none⟩ (.bool false)).setCell ⟨L, kk * 3 + 1, none⟩ (.int .i64 0)).setCell ⟨L, kk * 3 + 2, none⟩ (.bool false)).heap.size (((wL.setCell ⟨L, kk * 3, none⟩ (.bool false)).setCell ⟨L, kk * 3 + 1, none⟩ (.int .i64 0)).setCell ⟨L, kk * 3 + 2, none⟩ (.bool false)) wM := (hszW ▸ Below.grown ((Below.refl wL.heap.size (((wL.setCell ⟨L, kk * 3, none⟩ (.bool false)).setCell ⟨L, kk * 3 + 1, none⟩ (.int .i64 0)).setCell ⟨L, kk * 3 + 2, none⟩ (.bool false))).alloc (by simp) (.cells #[] 29)) growM (by simp) (own_at _)); obtain ⟨M, capM, hvM, hM1, hM2, EM⟩ := ents_own ownM (by omega); subst hvM; have RM := own_room ownM; clear ownM growM nilM; obtain ⟨⟨u3, d3⟩, f3⟩ := RM (kk * 3 + 2) (by omega); rw [← hszW] at hM1; clear HNM HOM))
    have C9 : Below (((wL.setCell ⟨L, kk * 3, none⟩ (.bool false)).setCell ⟨L, kk * 3 + 1, none⟩ (.int .i64 0)).setCell ⟨L, kk * 3 + 2, none⟩ (.bool false)).heap.size (((wL.setCell ⟨L, kk * 3, none⟩ (.bool false)).setCell ⟨L, kk * 3 + 1, none⟩ (.int .i64 0)).setCell ⟨L, kk * 3 + 2, none⟩ (.bool false)) (wM.setCell ⟨M, kk * 3 + 2, none⟩ (.bool false)) := BM.setCell (p := ⟨M, kk * 3 + 2, none⟩) hM1 _
    have B9 := B7.trans (C9.mono B7.size)
    have EM9 := ents_low (k := kk) EM
    have hM9 : M < (wM.setCell ⟨M, kk * 3 + 2, none⟩ (.bool false)).heap.size := by simpa using hM2
    have EL9 := E7.below C9 hL7
    have hL9 := Nat.lt_of_lt_of_le hL7 C9.size
    have Eb9 := Eb.below B9 tb
    have tb9 := Nat.lt_of_lt_of_le tb B9.size
    have Bw9 := Bw.trans (B9.mono Bw.size)
    have hX : (eb.set kk (false, 0, false)).all okE = true := all_set hB kk _ rfl
    have hY : (eb.set kk ((eb.getD kk (false, 0, false)).1, (eb.getD kk (false, 0, false)).2.1, false)).all okE = true := all_set hB kk _ (low_ok hB kk (by omega))
    clear C9 B9 E7 EM BM RM hM2 hL7 B7 hL2 BL d0 d1 d2 f0 f1 f2 d3 f3
    refine (implTabOk_six L 0 capL (eb.set kk (false, 0, false)) _ (by simpa using hb6) hL9 EL9).mono ?_
    rintro e v10 ⟨rfl, B10⟩
    rw [hX]
    go_wp2_with (fail)
    refine (implTabOk_six M 0 capM _ _ (by simpa using hb6) (Nat.lt_of_lt_of_le hM9 B10.size) (EM9.below B10 hM9)).mono ?_
    rintro e v11 ⟨rfl, B11⟩
    rw [hY]
    have C11 := B10.trans (B11.mono B10.size)
    go_wp2_with (fail)
    all_goals
      refine (implTabOk_len _ 5 _ _ rfl).mono ?_
      rintro e v12 ⟨rfl, rfl⟩
      go_wp2_with (fail)
      refine (implTabAt L 0 6 capL (eb.set kk (false, 0, false)) kk _ (by simpa using hb6) (Nat.lt_of_lt_of_le hL9 C11.size) (EL9.below C11 hL9)).mono ?_
      rintro e v13 ⟨rfl, B13⟩
      rw [atE_gone eb kk (by omega)]
      unfold entV
      go_wp2
      go_ret
      exact ⟨rfl, Bw9.trans ((C11.trans (B13.mono C11.size)).mono Bw9.size)⟩
end Go.Proofs.Ytfiailnlkhonnab
