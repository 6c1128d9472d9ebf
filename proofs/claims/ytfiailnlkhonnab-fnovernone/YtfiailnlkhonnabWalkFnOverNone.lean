/-
  The walk of the law FnOverNone.
-/
import Derived.Test.YtfiailnlkhonnabWalkFnOverThree
namespace Go.Proofs.Ytfiailnlkhonnab
open Go.RowKit

/-- The table without entries. -/
def noneT : List E3 := [(false, 0, false), (false, 0, false), (false, 0, false), (false, 0, false), (false, 0, false), (false, 0, false)]

theorem noneT_get (j : Nat) : noneT.getD j (false, 0, false) = (false, 0, false) := by
  match j with
  | 0 => rfl
  | 1 => rfl
  | 2 => rfl
  | 3 => rfl
  | 4 => rfl
  | 5 => rfl
  | _ + 6 => rfl

theorem over_none (ea : List E3) (hl : ea.length = 6) : overT ea noneT = noneT := by
  have h : ∀ x : E3, overE x noneT = (false, 0, false) := by
    intro x
    obtain ⟨xh, xp, xw⟩ := x
    cases xh
    · rfl
    · simp only [overE, cond_true, noneT_get, cond_false]
  match ea, hl with
  | [x0, x1, x2, x3, x4, x5], _ =>
    simp only [overT, List.map_cons, List.map_nil, h]
    rfl

theorem none_over (ea : List E3) : overT noneT ea = noneT := rfl

theorem ents_made (w : World) (t : TypeId) : Ents (w.alloc (.cells (madeCells #[.bool false, .int .i64 0, .bool false] 18) t)) w.heap.size 0 noneT := by
  intro i hi
  rw [noneT_get]
  have hi6 : i < 6 := hi
  have hm : madeCells #[.bool false, .int .i64 0, .bool false] 18 = #[.bool false, .int .i64 0, .bool false, .bool false, .int .i64 0, .bool false, .bool false, .int .i64 0, .bool false, .bool false, .int .i64 0, .bool false, .bool false, .int .i64 0, .bool false, .bool false, .int .i64 0, .bool false] := by kernel_rfl
  rw [hm]
  match i, hi6 with
  | 0, _ => simp
  | 1, _ => simp
  | 2, _ => simp
  | 3, _ => simp
  | 4, _ => simp
  | 5, _ => simp

set_option maxHeartbeats 2000000 in
theorem walk_FnOverNone (a0 : Option Addr) (len0 cap0 : Nat) (z0 : List Int) (w : World) (w0 : IsRow .u8 w a0 len0 cap0 z0) :
    Calls Try.prog 7 #[.slice a0 len0 cap0] w fun e w' => e = .returned (.bool true) ∧ Below w.heap.size w w' := by
  by_cases hbig : (1048576 : Int) < (len0 : Int)
  · go_enter Try.func7, Try.ntmps7
    go_wp2
    go_ret
    exact ⟨rfl, Below.refl _ _⟩
  have hNo : noneT.all okE = true := by decide
  have hmk := make6
  go_enter Try.func7, Try.ntmps7
  go_wp2_with (fail)
  refine (drawTabOver a0 len0 cap0 z0 _ w0).mono ?_
  rintro e v2 ⟨ba, oa, la, ca, ea, bb, ob, lb, cb, eb, rfl, hla, hlb, ma, mb, ta, tb, Ea, Eb, B2'⟩
  clear w0
  cases hT : ((ea.all okE && ((la : Int) == 6)) && (eb.all okE && ((lb : Int) == 6)))
  · go_wp2_with (fail)
    refine (implTabOver_not ba oa la ca ea bb ob lb cb eb _ hla hlb ta tb Ea Eb hT).mono ?_
    rintro e v3 ⟨rfl, B3⟩
    go_wp2_with (fail)
    refine (specTabOver_not ba oa la ca ea bb ob lb cb eb _ hla hlb ma mb (Nat.lt_of_lt_of_le ta B3.size) (Nat.lt_of_lt_of_le tb B3.size) (Ea.below B3 ta) (Eb.below B3 tb) hT).mono ?_
    rintro e v4 ⟨rfl, B4⟩
    have B24 := B3.trans (B4.mono B3.size)
    go_wp2_with (fail)
    refine (lkTab_nil _ _ _ _ _).mono ?_
    rintro e v5 ⟨rfl, rfl⟩
    go_wp2_with (fail)
    refine (specTabOk ba oa la ca ea _ hla (by omega) (Nat.lt_of_lt_of_le ta B24.size) (Ea.below B24 ta)).mono ?_
    rintro e v6 ⟨rfl, B6⟩
    have B26 := B24.trans (B6.mono B24.size)
    cases hC : (ea.all okE && ((la : Int) == 6))
    · go_wp2_with (fail)
      refine (specTabOver_not ba oa la ca ea bb ob lb cb eb _ hla hlb ma mb (Nat.lt_of_lt_of_le ta B26.size) (Nat.lt_of_lt_of_le tb B26.size) (Ea.below B26 ta) (Eb.below B26 tb) hT).mono ?_
      rintro e v7 ⟨rfl, B7⟩
      have B27 := B26.trans (B7.mono B26.size)
      go_wp2_with (fail)
      refine (lkTab_nil _ _ _ _ _).mono ?_
      rintro e v8 ⟨rfl, rfl⟩
      go_wp2
      go_ret
      exact ⟨rfl, B2'.trans (B27.mono B2'.size)⟩
    · obtain ⟨rfl, ha6, hA⟩ := okT_six hla hC
      clear hC hT B3 B4 B24 B6
      go_wp2_with (fail)
      have B7 : Below v6.heap.size v6 (v6.alloc (.cells (madeCells #[.bool false, .int .i64 0, .bool false] 18) 29)) := (Below.refl _ _).alloc (Nat.le_refl _) _
      have Es := ents_made v6 29
      have ts : v6.heap.size < (v6.alloc (.cells (madeCells #[.bool false, .int .i64 0, .bool false] 18) 29)).heap.size := by simp
      have B27 := B26.trans (B7.mono B26.size)
      refine (implTabOver_ok ba oa ca ea v6.heap.size 0 6 noneT _ ha6 rfl (Nat.lt_of_lt_of_le ta B27.size) ts (Ea.below B27 ta) Es hA hNo).mono ?_
      rintro e v8 ⟨P, rfl, _, tp, Ep, _, B8⟩
      have B28 := B27.trans (B8.mono B27.size)
      rw [over_none ea ha6] at Ep
      have Es8 := Es.below B8 ts
      have ts8 := Nat.lt_of_lt_of_le ts B8.size
      go_wp2_with (fail)
      refine (lkTab_same P 0 v6.heap.size 0 6 6 6 noneT _ rfl (by omega) Ep Es8).mono ?_
      rintro e v9 ⟨rfl, m9, rfl⟩
      have D9 : Below v8.heap.size v8 (v8.drewN m9) := below_drewN (Below.refl _ _) m9
      have B29 := B28.trans (D9.mono B28.size)
      have Es9 := Es8.below D9 ts8
      have ts9 := Nat.lt_of_lt_of_le ts8 D9.size
      go_wp2_with (fail)
      refine (implTabOver_ok v6.heap.size 0 6 noneT ba oa ca ea _ rfl ha6 ts9 (Nat.lt_of_lt_of_le ta B29.size) Es9 (Ea.below B29 ta) hNo hA).mono ?_
      rintro e v11 ⟨Q, rfl, _, tq, Eq, _, B11⟩
      have B211 := B29.trans (B11.mono B29.size)
      rw [none_over ea] at Eq
      have Es11 := Es9.below B11 ts9
      have ts11 := Nat.lt_of_lt_of_le ts9 B11.size
      go_wp2_with (fail)
      refine (lkTab_same Q 0 v6.heap.size 0 6 6 6 noneT _ rfl (by omega) Eq Es11).mono ?_
      rintro e v12 ⟨rfl, m12, rfl⟩
      have D12 : Below v11.heap.size v11 (v11.drewN m12) := below_drewN (Below.refl _ _) m12
      have B212 := B211.trans (D12.mono B211.size)
      go_wp2_with (fail)
      refine (implTabOk_six v6.heap.size 0 6 noneT _ rfl (Nat.lt_of_lt_of_le ts11 D12.size) (Es11.below D12 ts11)).mono ?_
      rintro e v13 ⟨rfl, B13⟩
      rw [hNo]
      go_wp2
      go_ret
      exact ⟨rfl, B2'.trans ((B212.trans (B13.mono B212.size)).mono B2'.size)⟩
  · have hT' := hT
    rw [Bool.and_eq_true] at hT'
    obtain ⟨rfl, ha6, hA⟩ := okT_six hla hT'.1
    obtain ⟨rfl, hb6, hB⟩ := okT_six hlb hT'.2
    clear hT hT'
    go_wp2_with (fail)
    refine (implTabOver_ok ba oa ca ea bb ob cb eb _ ha6 hb6 ta tb Ea Eb hA hB).mono ?_
    rintro e v3 ⟨X, rfl, _, tx, Ex, _, B3⟩
    go_wp2_with (fail)
    refine (specTabOver_ok ba oa ca ea bb ob cb eb _ ha6 hb6 (Nat.lt_of_lt_of_le ta B3.size) (Nat.lt_of_lt_of_le tb B3.size) (Ea.below B3 ta) (Eb.below B3 tb) hA hB).mono ?_
    rintro e v4 ⟨Y, yc, rfl, _, ty, Ey, B4⟩
    have B24 := B3.trans (B4.mono B3.size)
    have hl6 : (overT ea eb).length = 6 := by rw [overT_len]; exact ha6
    go_wp2_with (fail)
    refine (lkTab_same X 0 Y 0 6 6 yc (overT ea eb) _ hl6 (by omega) (Ex.below B4 tx) Ey).mono ?_
    rintro e v5 ⟨rfl, m5, rfl⟩
    have B5 : Below v4.heap.size v4 (v4.drewN m5) := below_drewN (Below.refl _ _) m5
    have B25 := B24.trans (B5.mono B24.size)
    clear Ey ty B3 B4 B24 Ex tx B5
    go_wp2_with (fail)
    refine (specTabOk ba oa 6 ca ea _ ha6 (by omega) (Nat.lt_of_lt_of_le ta B25.size) (Ea.below B25 ta)).mono ?_
    rintro e v6 ⟨rfl, B6⟩
    have B26 := B25.trans (B6.mono B25.size)
    clear B25 B6
    rw [show (ea.all okE && (((6 : Nat) : Int) == 6)) = true by rw [hA]; rfl]
    go_wp2_with (fail)
    have B7 : Below v6.heap.size v6 (v6.alloc (.cells (madeCells #[.bool false, .int .i64 0, .bool false] 18) 29)) := (Below.refl _ _).alloc (Nat.le_refl _) _
    have Es := ents_made v6 29
    have ts : v6.heap.size < (v6.alloc (.cells (madeCells #[.bool false, .int .i64 0, .bool false] 18) 29)).heap.size := by simp
    have B27 := B26.trans (B7.mono B26.size)
    refine (implTabOver_ok ba oa ca ea v6.heap.size 0 6 noneT _ ha6 rfl (Nat.lt_of_lt_of_le ta B27.size) ts (Ea.below B27 ta) Es hA hNo).mono ?_
    rintro e v8 ⟨P, rfl, _, tp, Ep, _, B8⟩
    have B28 := B27.trans (B8.mono B27.size)
    rw [over_none ea ha6] at Ep
    have Es8 := Es.below B8 ts
    have ts8 := Nat.lt_of_lt_of_le ts B8.size
    go_wp2_with (fail)
    refine (lkTab_same P 0 v6.heap.size 0 6 6 6 noneT _ rfl (by omega) Ep Es8).mono ?_
    rintro e v9 ⟨rfl, m9, rfl⟩
    have D9 : Below v8.heap.size v8 (v8.drewN m9) := below_drewN (Below.refl _ _) m9
    have B29 := B28.trans (D9.mono B28.size)
    have Es9 := Es8.below D9 ts8
    have ts9 := Nat.lt_of_lt_of_le ts8 D9.size
    go_wp2_with (fail)
    refine (implTabOver_ok v6.heap.size 0 6 noneT ba oa ca ea _ rfl ha6 ts9 (Nat.lt_of_lt_of_le ta B29.size) Es9 (Ea.below B29 ta) hNo hA).mono ?_
    rintro e v11 ⟨Q, rfl, _, tq, Eq, _, B11⟩
    have B211 := B29.trans (B11.mono B29.size)
    rw [none_over ea] at Eq
    have Es11 := Es9.below B11 ts9
    have ts11 := Nat.lt_of_lt_of_le ts9 B11.size
    go_wp2_with (fail)
    refine (lkTab_same Q 0 v6.heap.size 0 6 6 6 noneT _ rfl (by omega) Eq Es11).mono ?_
    rintro e v12 ⟨rfl, m12, rfl⟩
    have D12 : Below v11.heap.size v11 (v11.drewN m12) := below_drewN (Below.refl _ _) m12
    have B212 := B211.trans (D12.mono B211.size)
    go_wp2_with (fail)
    refine (implTabOk_six v6.heap.size 0 6 noneT _ rfl (Nat.lt_of_lt_of_le ts11 D12.size) (Es11.below D12 ts11)).mono ?_
    rintro e v13 ⟨rfl, B13⟩
    rw [hNo]
    go_wp2
    go_ret
    exact ⟨rfl, B2'.trans ((B212.trans (B13.mono B212.size)).mono B2'.size)⟩
end Go.Proofs.Ytfiailnlkhonnab
