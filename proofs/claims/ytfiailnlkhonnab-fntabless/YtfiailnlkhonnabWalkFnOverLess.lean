/-
  The walk of the law FnOverLess.
-/
import Derived.Test.YtfiailnlkhonnabWalkFnOverThree
namespace Go.Proofs.Ytfiailnlkhonnab
open Go.RowKit

theorem ents_flat {w : World} {b o : Nat} {es : List E3} (h : Ents w b o es) : ∀ j u, (flat es)[j]? = some u → w.cell? ((⟨b, o, none⟩ : Addr).add j) = some u := by
  intro j u hj
  have ad : (⟨b, o, none⟩ : Addr).add j = ⟨b, o + j, none⟩ := by by_cases h : j = 0 <;> simp [Addr.add, h]
  have hlt : j < (flat es).length := by
    rcases Nat.lt_or_ge j (flat es).length with h | h
    · exact h
    · rw [List.getElem?_eq_none h] at hj; cases hj
  rw [flat_len] at hlt
  obtain ⟨e0, e1, e2⟩ := flat_get es (j / 3) (by omega)
  obtain ⟨c0, c1, c2⟩ := h (j / 3) (by omega)
  have h3 : j = j / 3 * 3 ∨ j = j / 3 * 3 + 1 ∨ j = j / 3 * 3 + 2 := by omega
  rw [ad]
  rcases h3 with h3 | h3 | h3
  · rw [← h3] at e0 c0; rw [e0] at hj; rw [← hj]; exact c0
  · rw [← h3] at e1; rw [e1] at hj; rw [← hj, show o + j = o + j / 3 * 3 + 1 by omega]; exact c1
  · rw [← h3] at e2; rw [e2] at hj; rw [← hj, show o + j = o + j / 3 * 3 + 2 by omega]; exact c2

theorem flat_one (es : List E3) : ∀ u ∈ flat es, u.oneCell' = true := by
  intro u hu
  simp only [flat, List.mem_flatMap] at hu
  obtain ⟨x, _, hx⟩ := hu
  simp at hx
  rcases hx with rfl | rfl | rfl <;> rfl

/-- One entry may no longer be written. -/
theorem ents_low {w : World} {b k : Nat} {es : List E3} (hE : Ents w b 0 es) :
    Ents (w.setCell ⟨b, k * 3 + 2, none⟩ (.bool false)) b 0 (es.set k ((es.getD k (false, 0, false)).1, (es.getD k (false, 0, false)).2.1, false)) := by
  intro i hi
  simp only [List.length_set] at hi
  simp only [Nat.zero_add]
  obtain ⟨e0, e1, e2⟩ := hE i hi
  simp only [Nat.zero_add] at e0 e1 e2
  by_cases hik : i = k
  · subst hik
    have hg : (es.set i ((es.getD i (false, 0, false)).1, (es.getD i (false, 0, false)).2.1, false)).getD i (false, 0, false) = ((es.getD i (false, 0, false)).1, (es.getD i (false, 0, false)).2.1, false) := by
      rw [List.getD_eq_getElem?_getD, List.getElem?_set_self hi]; rfl
    rw [hg]
    refine ⟨(cell_put e0).trans ?_, (cell_put e1).trans ?_, (cell_put e2).trans ?_⟩
    · rw [if_neg (by omega)]
    · rw [if_neg (by omega)]
    · rw [if_pos rfl]
  · have hg : (es.set k ((es.getD k (false, 0, false)).1, (es.getD k (false, 0, false)).2.1, false)).getD i (false, 0, false) = es.getD i (false, 0, false) := by
      rw [List.getD_eq_getElem?_getD, List.getElem?_set_ne (Ne.symm hik)]; rfl
    rw [hg]
    refine ⟨(cell_put e0).trans ?_, (cell_put e1).trans ?_, (cell_put e2).trans ?_⟩
    all_goals rw [if_neg (by omega)]

theorem all_set {es : List E3} (h : es.all okE = true) (k : Nat) (x : E3) (hx : okE x = true) : (es.set k x).all okE = true := by
  rw [List.all_eq_true] at h ⊢
  intro y hy
  rcases List.mem_or_eq_of_mem_set hy with hy | rfl
  · exact h _ hy
  · exact hx

theorem low_ok {es : List E3} (h : es.all okE = true) (k : Nat) (hk : k < es.length) : okE ((es.getD k (false, 0, false)).1, (es.getD k (false, 0, false)).2.1, false) = true := by
  have hm : es.getD k (false, 0, false) ∈ es := by rw [List.getD_eq_getElem?_getD, List.getElem?_eq_getElem hk]; exact List.getElem_mem hk
  have := (List.all_eq_true.mp h) _ hm
  generalize es.getD k (false, 0, false) = z at this
  obtain ⟨zh, zp, zw⟩ := z
  cases zh
  · have hh : zp = 0 ∧ zw = false := by simpa [okE] using this
    simp [okE, hh.1]
  · simpa [okE] using this

/-- What is told of one page: with an entry taken away, and with one that may not be written. -/
theorem less_page (x : E3) (eb : List E3) (k : Nat) : (overE x (eb.set k (false, 0, false))).1 = true → overE x (eb.set k (false, 0, false)) = overE x eb := by
  obtain ⟨xh, xp, xw⟩ := x
  cases xh
  · intro h; cases h
  · simp only [overE, cond_true]
    by_cases hk : k = xp.toNat
    · subst hk
      by_cases hl : xp.toNat < eb.length
      · have : (eb.set xp.toNat (false, 0, false)).getD xp.toNat (false, 0, false) = (false, 0, false) := by rw [List.getD_eq_getElem?_getD, List.getElem?_set_self hl]; rfl
        rw [this]; intro h; cases h
      · rw [List.set_eq_of_length_le (by omega)]; intro _; trivial
    · have : (eb.set k (false, 0, false)).getD xp.toNat (false, 0, false) = eb.getD xp.toNat (false, 0, false) := by rw [List.getD_eq_getElem?_getD, List.getElem?_set_ne hk]; rfl
      rw [this]; intro _; trivial

theorem low_page (x : E3) (eb : List E3) (k : Nat) :
    (overE x (eb.set k ((eb.getD k (false, 0, false)).1, (eb.getD k (false, 0, false)).2.1, false))).1 = (overE x eb).1 ∧
    (overE x (eb.set k ((eb.getD k (false, 0, false)).1, (eb.getD k (false, 0, false)).2.1, false))).2.1 = (overE x eb).2.1 ∧
    ((overE x (eb.set k ((eb.getD k (false, 0, false)).1, (eb.getD k (false, 0, false)).2.1, false))).2.2 = true → (overE x eb).2.2 = true) := by
  obtain ⟨xh, xp, xw⟩ := x
  cases xh
  · exact ⟨rfl, rfl, fun h => h⟩
  · simp only [overE, cond_true]
    by_cases hk : k = xp.toNat
    · subst hk
      by_cases hl : xp.toNat < eb.length
      · have : (eb.set xp.toNat ((eb.getD xp.toNat (false, 0, false)).1, (eb.getD xp.toNat (false, 0, false)).2.1, false)).getD xp.toNat (false, 0, false) = ((eb.getD xp.toNat (false, 0, false)).1, (eb.getD xp.toNat (false, 0, false)).2.1, false) := by
          rw [List.getD_eq_getElem?_getD, List.getElem?_set_self hl]; rfl
        rw [this]
        cases (eb.getD xp.toNat (false, 0, false)).1 <;> simp
      · rw [List.set_eq_of_length_le (by omega)]; exact ⟨rfl, rfl, fun h => h⟩
    · have : (eb.set k ((eb.getD k (false, 0, false)).1, (eb.getD k (false, 0, false)).2.1, false)).getD xp.toNat (false, 0, false) = eb.getD xp.toNat (false, 0, false) := by rw [List.getD_eq_getElem?_getD, List.getElem?_set_ne hk]; rfl
      rw [this]; exact ⟨rfl, rfl, fun h => h⟩

theorem own_at (B : Nat) : ∀ j, (Value.slice (some ⟨B, 0, none⟩) 0 0).ownBlock = some j → B ≤ j := by
  intro j hj
  have e : B = j := by simpa [Value.ownBlock] using hj
  omega

set_option maxHeartbeats 4000000 in
set_option maxRecDepth 100000 in
theorem walk_FnOverLess (a0 : Option Addr) (len0 cap0 : Nat) (z0 : List Int) (a1 : Option Addr) (len1 cap1 : Nat) (z1 : List Int) (w : World) (w0 : IsRow .u8 w a0 len0 cap0 z0) (_w1 : IsRow .u8 w a1 len1 cap1 z1) :
    Calls Try.prog 6 #[.slice a0 len0 cap0, .slice a1 len1 cap1] w fun e w' => e = .returned (.bool true) ∧ Below w.heap.size w w' := by
  by_cases hbig : (1048576 : Int) < (len0 : Int)
  · go_enter Try.func6, Try.ntmps6
    go_wp2
    go_ret
    exact ⟨rfl, Below.refl _ _⟩
  by_cases hbig' : (1048576 : Int) < (len1 : Int)
  · go_enter Try.func6, Try.ntmps6
    go_wp2
    go_ret
    exact ⟨rfl, Below.refl _ _⟩
  obtain ⟨kk, hkk6, hkk⟩ : ∃ kk : Nat, kk < 6 ∧ (len1 : Int) % 6 = (kk : Int) := ⟨len1 % 6, Nat.mod_lt _ (by omega), by omega⟩
  obtain ⟨i0, hi, hz0, hz1, hz2⟩ := info_parts infoE
  go_enter Try.func6, Try.ntmps6
  go_wp2_with (fail)
  refine (drawTabOver a0 len0 cap0 z0 _ w0).mono ?_
  rintro e v2 ⟨ba, oa, la, ca, ea, bb, ob, lb, cb, eb, rfl, hla, hlb, ma, mb, ta, tb, Ea, Eb, B2'⟩
  clear w0
  cases hT : ((ea.all okE && ((la : Int) == 6)) && (eb.all okE && ((lb : Int) == 6)))
  · go_wp2_with (fail)
    refine (implTabOver_not ba oa la ca ea bb ob lb cb eb _ hla hlb ta tb Ea Eb hT).mono ?_
    rintro e v3 ⟨rfl, B3⟩
    go_wp2_with (fail)
    refine (specTabOver_not ba oa la ca ea bb ob lb cb eb _ hla hlb ma mb (Nat.lt_of_lt_of_le ta B3.size) (Nat.lt_of_lt_of_le tb B3.size) (Ea.below B3 ta) (Eb.below B3 tb) hT).mono ?_
    rintro e v4 ⟨rfl, B4⟩
    have B24 := B3.trans (B4.mono B3.size)
    go_wp2_with (fail)
    refine (lkTab_nil _ _ _ _ _).mono ?_
    rintro e v5 ⟨rfl, rfl⟩
    go_wp2_with (fail)
    refine (specTabOver_not ba oa la ca ea bb ob lb cb eb _ hla hlb ma mb (Nat.lt_of_lt_of_le ta B24.size) (Nat.lt_of_lt_of_le tb B24.size) (Ea.below B24 ta) (Eb.below B24 tb) hT).mono ?_
    rintro e v6 ⟨rfl, B6⟩
    go_wp2_with (fail)
    refine (lkTab_nil _ _ _ _ _).mono ?_
    rintro e v7 ⟨rfl, rfl⟩
    have B26 := B24.trans (B6.mono B24.size)
    go_wp2
    go_ret
    exact ⟨rfl, B2'.trans (B26.mono B2'.size)⟩
  · have hT' := hT
    rw [Bool.and_eq_true] at hT'
    obtain ⟨rfl, ha6, hA⟩ := okT_six hla hT'.1
    obtain ⟨rfl, hb6, hB⟩ := okT_six hlb hT'.2
    clear hT hT'
    go_wp2_with (fail)
    refine (implTabOver_ok ba oa ca ea bb ob cb eb _ ha6 hb6 ta tb Ea Eb hA hB).mono ?_
    rintro e v3 ⟨X, rfl, _, tx, Ex, _, B3⟩
    go_wp2_with (fail)
    refine (specTabOver_ok ba oa ca ea bb ob cb eb _ ha6 hb6 (Nat.lt_of_lt_of_le ta B3.size) (Nat.lt_of_lt_of_le tb B3.size) (Ea.below B3 ta) (Eb.below B3 tb) hA hB).mono ?_
    rintro e v4 ⟨Y, yc, rfl, _, ty, Ey, B4⟩
    have B24 := B3.trans (B4.mono B3.size)
    have hl6 : (overT ea eb).length = 6 := by rw [overT_len]; exact ha6
    go_wp2_with (fail)
    refine (lkTab_same X 0 Y 0 6 6 yc (overT ea eb) _ hl6 (by omega) (Ex.below B4 tx) Ey).mono ?_
    rintro e v5 ⟨rfl, m5, rfl⟩
    have B5 : Below v4.heap.size v4 (v4.drewN m5) := below_drewN (Below.refl _ _) m5
    have B25 := B24.trans (B5.mono B24.size)
    have Ex := (Ex.below B4 tx).below B5 (Nat.lt_of_lt_of_le tx B4.size)
    have tx := Nat.lt_of_lt_of_le (Nat.lt_of_lt_of_le tx B4.size) B5.size
    have Ea := Ea.below B25 ta
    have Eb := Eb.below B25 tb
    have ta := Nat.lt_of_lt_of_le ta B25.size
    have tb := Nat.lt_of_lt_of_le tb B25.size
    have Bw := B2'.trans (B25.mono B2'.size)
    clear Ey ty B3 B4 B24 B5 B25 B2'
    generalize hv : v4.drewN m5 = u at Ex tx Ea Eb ta tb Bw
    clear hv
    have HNL : ∀ j x, (flat eb)[j]? = some x → (u.alloc (.cells #[] 29)).cell? ((⟨bb, ob, none⟩ : Addr).add j) = some x := ents_flat (Eb.below ((Below.refl u.heap.size u).alloc (Nat.le_refl _) _) tb)
    go_wp2_with (at_builtin; refine wpList_append_own _ rfl _ _ 23 rfl u.heap.size 29 i0 (.agg #[.bool false, .int .i64 0, .bool false]) 3 24 Try.underlying23 hi hz0 hz1 hz2 rfl (by decide) _ _ _ rfl (World.ownsRow_made u #[] 0 (Nat.le_refl _) (by simp [maxLen]) rfl) ⟨bb, ob, none⟩ 6 cb (flat eb) rfl (by rw [flat_len, hb6]) HNL (flat_one eb) (by unfold maxLen; omega) (by omega) (by simp) ?_; intro valL wL ownL growL nilL; rw [Nat.zero_add, List.nil_append] at ownL; have BL : Below u.heap.size u wL := Below.grown ((Below.refl u.heap.size u).alloc (Nat.le_refl _) (.cells #[] 29)) growL (by simp) (own_at _); obtain ⟨L, capL, hvL, hL1, hL2, EL⟩ := ents_own ownL (by omega); subst hvL; have RL := own_room ownL; clear ownL growL nilL HNL; obtain ⟨⟨u0, d0⟩, f0⟩ := RL (kk * 3) (by omega); obtain ⟨⟨u1, d1⟩, f1⟩ := RL (kk * 3 + 1) (by omega); obtain ⟨⟨u2, d2⟩, f2⟩ := RL (kk * 3 + 2) (by omega))
    have hkki : (kk : Int) < 6 := by omega
    have B7 : Below u.heap.size u (((wL.setCell ⟨L, kk * 3, none⟩ (.bool false)).setCell ⟨L, kk * 3 + 1, none⟩ (.int .i64 0)).setCell ⟨L, kk * 3 + 2, none⟩ (.bool false)) :=
      ((BL.setCell (p := ⟨L, kk * 3, none⟩) hL1 _).setCell (p := ⟨L, kk * 3 + 1, none⟩) hL1 _).setCell (p := ⟨L, kk * 3 + 2, none⟩) hL1 _
    have E7 := ents_set (k := kk) RL EL (by omega) (by omega) false 0 false
    have hL7 : L < (((wL.setCell ⟨L, kk * 3, none⟩ (.bool false)).setCell ⟨L, kk * 3 + 1, none⟩ (.int .i64 0)).setCell ⟨L, kk * 3 + 2, none⟩ (.bool false)).heap.size := by simpa using hL2
    clear RL EL
    go_wp2_with (fail)
    refine (implTabOver_ok ba oa ca ea L 0 capL (eb.set kk (false, 0, false)) _ ha6 (by simpa using hb6) (Nat.lt_of_lt_of_le ta B7.size) hL7 (Ea.below B7 ta) E7 hA (all_set hB kk _ rfl)).mono ?_
    rintro e v8 ⟨YY, rfl, _, tyy, Eyy, _, B8⟩
    have B8' := B7.trans (B8.mono B7.size)
    clear E7 hL7 B7 B8 d0 d1 d2 f0 f1 f2 BL hL2
    have HNM : ∀ j x, (flat eb)[j]? = some x → (v8.alloc (.cells #[] 29)).cell? ((⟨bb, ob, none⟩ : Addr).add j) = some x := ents_flat ((Eb.below B8' tb).below ((Below.refl v8.heap.size v8).alloc (Nat.le_refl _) _) (Nat.lt_of_lt_of_le tb B8'.size))
    go_wp2_with (at_builtin; refine wpList_append_own _ rfl _ _ 23 rfl v8.heap.size 29 i0 (.agg #[.bool false, .int .i64 0, .bool false]) 3 24 Try.underlying23 hi hz0 hz1 hz2 rfl (by decide) _ _ _ rfl (World.ownsRow_made v8 #[] 0 (Nat.le_refl _) (by simp [maxLen]) rfl) ⟨bb, ob, none⟩ 6 cb (flat eb) rfl (by rw [flat_len, hb6]) HNM (flat_one eb) (by unfold maxLen; omega) (by omega) (by simp) ?_; intro valM wM ownM growM nilM; rw [Nat.zero_add, List.nil_append] at ownM; have BM : Below v8.heap.size v8 wM := Below.grown ((Below.refl v8.heap.size v8).alloc (Nat.le_refl _) (.cells #[] 29)) growM (by simp) (own_at _); obtain ⟨M, capM, hvM, hM1, hM2, EM⟩ := ents_own ownM (by omega); subst hvM; have RM := own_room ownM; clear ownM growM nilM HNM; obtain ⟨⟨u3, d3⟩, f3⟩ := RM (kk * 3 + 2) (by omega))
    have C9 : Below v8.heap.size v8 (wM.setCell ⟨M, kk * 3 + 2, none⟩ (.bool false)) := BM.setCell (p := ⟨M, kk * 3 + 2, none⟩) hM1 _
    have B9 := B8'.trans (C9.mono B8'.size)
    have E9 := ents_low (k := kk) EM
    have hM9 : M < (wM.setCell ⟨M, kk * 3 + 2, none⟩ (.bool false)).heap.size := by simpa using hM2
    clear RM EM
    go_wp2_with (fail)
    refine (implTabOver_ok ba oa ca ea M 0 capM (eb.set kk ((eb.getD kk (false, 0, false)).1, (eb.getD kk (false, 0, false)).2.1, false)) _ ha6 (by simpa using hb6) (Nat.lt_of_lt_of_le ta B9.size) hM9 (Ea.below B9 ta) E9 hA (all_set hB kk _ (low_ok hB kk (by omega)))).mono ?_
    rintro e v10 ⟨ZZ, rfl, _, tzz, Ezz, _, B10⟩
    have B10' := B9.trans (B10.mono B9.size)
    have Eyy := (Eyy.below C9 tyy).below B10 (Nat.lt_of_lt_of_le tyy C9.size)
    have Exx := Ex.below B10' tx
    have Bw10 := Bw.trans (B10'.mono Bw.size)
    clear E9 hM9 B9 C9 B10 d3 f3 BM hM2 B8' Ea Eb Ex B10'
    go_wp2_with (fail)
    go_loopw [13] (fun i wr => ∃ k m : Nat, k ≤ 6 ∧ i = .int .i64 k ∧ wr = v10.drewN m) (fun i _ => 6 - (intOf i).toNat)
    case atStart => exact ⟨0, 0, Nat.zero_le _, rfl, rfl⟩
    case round =>
      obtain ⟨k, m, hk, rfl, rfl⟩ := hrel
      by_cases hlt : k < 6
      · obtain ⟨c0, c1, c2⟩ := Exx k (by rw [overT_len]; omega)
        obtain ⟨d0, d1, d2⟩ := Eyy k (by rw [overT_len]; omega)
        obtain ⟨e0, e1, e2⟩ := Ezz k (by rw [overT_len]; omega)
        rw [getD_over] at c0 c1 c2 d0 d1 d2 e0 e1 e2
        have hY := less_page (ea.getD k (false, 0, false)) eb kk
        have hZ := low_page (ea.getD k (false, 0, false)) eb kk
        generalize overE (ea.getD k (false, 0, false)) eb = x at c0 c1 c2 hY hZ
        generalize overE (ea.getD k (false, 0, false)) (eb.set kk (false, 0, false)) = y at d0 d1 d2 hY
        generalize overE (ea.getD k (false, 0, false)) (eb.set kk ((eb.getD kk (false, 0, false)).1, (eb.getD kk (false, 0, false)).2.1, false)) = z at e0 e1 e2 hZ
        obtain ⟨xh, xp, xw⟩ := x
        obtain ⟨yh, yp, yw⟩ := y
        obtain ⟨zh, zp, zw⟩ := z
        obtain ⟨rfl, rfl, hzw⟩ : zh = xh ∧ zp = xp ∧ (zw = true → xw = true) := hZ
        simp only [Nat.zero_add] at c0 c1 c2 d0 d1 d2 e0 e1 e2
        have hlti : (k : Int) < 6 := by omega
        clear Exx Eyy Ezz Bw10
        cases yh
        · clear hY
          cases zw
          · clear hzw
            go_wp2_with (fail)
            go_quiet (fail)
            go_wp2
            go_roundw
            case rel => exact ⟨k + 1, _, by omega, by go_num, by first | rfl | (rw [World.drewN_drewN])⟩
            case measure => simp [intOf]; omega
          · obtain rfl : xw = true := hzw rfl
            clear hzw
            go_wp2_with (fail)
            go_quiet (fail)
            go_wp2
            go_roundw
            case rel => exact ⟨k + 1, _, by omega, by go_num, by first | rfl | (rw [World.drewN_drewN])⟩
            case measure => simp [intOf]; omega
        · obtain ⟨rfl, rfl, rfl⟩ : true = zh ∧ yp = zp ∧ yw = xw := by simpa using hY rfl
          clear hY
          cases zw
          · clear hzw
            go_wp2_with (fail)
            go_quiet (fail)
            go_wp2
            go_roundw
            case rel => exact ⟨k + 1, _, by omega, by go_num, by first | rfl | (rw [World.drewN_drewN])⟩
            case measure => simp [intOf]; omega
          · obtain rfl : yw = true := hzw rfl
            clear hzw
            go_wp2_with (fail)
            go_quiet (fail)
            go_wp2
            go_roundw
            case rel => exact ⟨k + 1, _, by omega, by go_num, by first | rfl | (rw [World.drewN_drewN])⟩
            case measure => simp [intOf]; omega
      · go_wp2
        go_ret
        exact ⟨rfl, below_drewN Bw10 m⟩
end Go.Proofs.Ytfiailnlkhonnab
