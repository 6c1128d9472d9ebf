/-
  The walk of the law FnExactTabOver: whatever the two tables, both functions give the same; the tables are left as they were, and the answer lies in memory of its own.
-/
import Derived.Test.YtfiailnlkhonnawMark
namespace Go.Proofs.Ytfiailnlkhonnaw
open Go.RowKit

set_option maxHeartbeats 400000 in
theorem mark_nil (a : Option Addr) (cap : Nat) (k : Int) (w : World) :
    Calls Try.prog 20 #[.slice a 0 cap, .int .i64 k] w fun e w' => e = .returned (.int .i64 k) ∧ w' = w := by
  go_enter Try.func20, Try.ntmps20
  go_wp2
  go_loop [1, 5] (fun n i => i = .int .i64 0 ∧ n = .int .i64 k) (fun _ _ => 0)
  case atStart => exact ⟨rfl, rfl⟩
  case round =>
    obtain ⟨rfl, rfl⟩ := hrel
    go_wp2
    go_ret
    exact ⟨rfl, rfl⟩

set_option maxHeartbeats 400000 in
theorem held_nil (a : Option Addr) (cap : Nat) (k : Int) (w : World) :
    Calls Try.prog 21 #[.slice a 0 cap, .int .i64 k] w fun e w' => e = .returned (.int .i64 k) ∧ w' = w := by
  go_enter Try.func21, Try.ntmps21
  go_wp2
  go_loop [1, 5] (fun n i => i = .int .i64 0 ∧ n = .int .i64 k) (fun _ _ => 0)
  case atStart => exact ⟨rfl, rfl⟩
  case round =>
    obtain ⟨rfl, rfl⟩ := hrel
    go_wp2
    go_ret
    exact ⟨rfl, rfl⟩

theorem specTabOver_none (ba oa la ca : Nat) (ea : List E3) (bb ob lb cb : Nat) (eb : List E3) (w : World) (hla : ea.length = la) (hlb : eb.length = lb) (ma : la ≤ 1048576) (mb : lb ≤ 1048576) (ha : ba < w.heap.size) (hb : bb < w.heap.size) (hca : Ents w ba oa ea) (hcb : Ents w bb ob eb)
    (hT : ((ea.all okE && ((la : Int) == 6)) && (eb.all okE && ((lb : Int) == 6))) = false) :
    Calls Try.prog 18 #[.slice (some ⟨ba, oa, none⟩) la ca, .slice (some ⟨bb, ob, none⟩) lb cb] w fun e w' => e = .returned (.slice (some ⟨w.heap.size, 0, none⟩) 0 0) ∧ Below w.heap.size w w' := by
  go_enter Try.func18, Try.ntmps18
  go_wp2_with (fail)
  have W0 : Below w.heap.size w (w.alloc (.cells #[] 23)) := (Below.refl _ _).alloc (Nat.le_refl _) _
  refine (specTabOk ba oa la ca ea _ hla (by omega) (Nat.lt_of_lt_of_le ha W0.size) (hca.below W0 ha)).mono ?_
  rintro e w1 ⟨rfl, B1⟩
  have B1' := W0.trans (B1.mono W0.size)
  cases h1 : (ea.all okE && ((la : Int) == 6))
  · go_wp2
    go_ret
    exact ⟨rfl, B1'⟩
  · have h2 : (eb.all okE && ((lb : Int) == 6)) = false := by rw [h1] at hT; simpa using hT
    clear hT
    go_wp2_with (fail)
    refine (specTabOk bb ob lb cb eb _ hlb (by omega) (Nat.lt_of_lt_of_le hb B1'.size) (hcb.below B1' hb)).mono ?_
    rintro e w2 ⟨rfl, B2⟩
    rw [h2]
    go_wp2
    go_ret
    exact ⟨rfl, B1'.trans (B2.mono B1'.size)⟩

theorem okT_both {ea eb : List E3} {la lb : Nat} (hla : ea.length = la) (hlb : eb.length = lb) (h : ((ea.all okE && ((la : Int) == 6)) && (eb.all okE && ((lb : Int) == 6))) = true) :
    la = 6 ∧ lb = 6 ∧ ea.length = 6 ∧ eb.length = 6 ∧ ea.all okE = true ∧ eb.all okE = true := by
  simp only [Bool.and_eq_true, beq_iff_eq] at h
  obtain ⟨⟨h1, h2⟩, h3, h4⟩ := h
  exact ⟨by omega, by omega, by omega, by omega, h1, h3⟩

set_option maxHeartbeats 4000000 in
theorem walk_FnExactTabOver (a : Option Addr) (la ca : Nat) (ea : List E3) (b : Option Addr) (lb cb : Nat) (eb : List E3) (w : World) (hA : IsEnts w a la ea ∧ la ≤ maxLen) (hB : IsEnts w b lb eb ∧ lb ≤ maxLen) :
    Calls Try.prog 6 #[.slice a la ca, .slice b lb cb] w fun e w' => e = .returned (.bool true) ∧ Below w.heap.size w w' := by
  obtain ⟨hA, maxA⟩ := hA
  obtain ⟨hB, maxB⟩ := hB
  unfold maxLen at maxA maxB
  by_cases big1 : (1048576 : Int) < (la : Int)
  · have hneg : (1048576 : Int) - (la : Int) < 0 := by omega
    go_enter Try.func6, Try.ntmps6
    go_wp2
    go_ret
    exact ⟨rfl, Below.refl _ _⟩
  have hneg : ¬ (1048576 : Int) - (la : Int) < 0 := by omega
  by_cases big2 : (1048576 : Int) - (la : Int) < (lb : Int)
  · have hneg2 : (1048576 : Int) - (la : Int) - (lb : Int) < 0 := by omega
    go_enter Try.func6, Try.ntmps6
    go_wp2
    go_ret
    exact ⟨rfl, Below.refl _ _⟩
  have hneg2 : ¬ (1048576 : Int) - (la : Int) - (lb : Int) < 0 := by omega
  have na : la ≤ 1048576 := by omega
  have nb : lb ≤ 1048576 := by omega
  have hla := hA.1
  have hlb := hB.1
  go_enter Try.func6, Try.ntmps6
  go_wp2_with (first | (go_at_call 11; go_in) | fail)
  refine (toEntryS_any a la ca ea _ hA na).mono ?_
  rintro e w1 ⟨rfl, E1, l1, B1⟩
  go_wp2_with (fail)
  refine (toEntryS_any b lb cb eb _ (hB.below B1) nb).mono ?_
  rintro e w2 ⟨rfl, E2, l2, B2⟩
  have B02 := B1.trans (B2.mono B1.size)
  have E1 := E1.below B2 l1
  have l1 := Nat.lt_of_lt_of_le l1 B2.size
  clear B1 B2
  cases hT : ((ea.all okE && ((la : Int) == 6)) && (eb.all okE && ((lb : Int) == 6)))
  · go_wp2_with (fail)
    refine (specTabOver_none w.heap.size 0 la la ea w1.heap.size 0 lb lb eb _ hla hlb na nb l1 l2 E1 E2 hT).mono ?_
    rintro e w3 ⟨rfl, B3⟩
    have B03 := B02.trans (B3.mono B02.size)
    clear E1 E2 l1 l2 B3 B02
    go_wp2_with (fail)
    refine (toEntryS_room a la ca ea _ (hA.below B03) na).mono ?_
    rintro e w4 ⟨rfl, X0, R0, l0, B4⟩
    have B04 := B03.trans (B4.mono B03.size)
    go_wp2_with (fail)
    refine (toEntryS_room b lb cb eb _ (hB.below B04) nb).mono ?_
    rintro e w5 ⟨rfl, X1, R1, l1, B5⟩
    have B05 := B04.trans (B5.mono B04.size)
    have X0 := X0.below B5 l0
    have R0 := R0.below B5 l0
    have l0' := Nat.lt_of_lt_of_le l0 B5.size
    go_wp2_with (fail)
    refine (implTabOver_not w3.heap.size 0 la la ea w4.heap.size 0 lb lb eb _ hla hlb l0' l1 X0 X1 hT).mono ?_
    rintro e w6 ⟨rfl, B6⟩
    have B06 := B05.trans (B6.mono B05.size)
    have X0 := X0.below B6 l0'
    have R0 := R0.below B6 l0'
    have X1 := X1.below B6 l1
    have R1 := R1.below B6 l1
    have m0 := Nat.lt_of_lt_of_le l0' B6.size
    have m1 := Nat.lt_of_lt_of_le l1 B6.size
    go_wp2_with (fail)
    refine (eqEntryS_nil _ _ _ _ _).mono ?_
    rintro e w7 ⟨rfl, rfl⟩
    go_wp2_with (fail)
    refine (toEntryS_any a la ca ea _ (hA.below B06) na).mono ?_
    rintro e w8 ⟨rfl, E8, l8, B8⟩
    have B08 := B06.trans (B8.mono B06.size)
    go_wp2_with (fail)
    refine (eqEntryS_same w3.heap.size 0 _ 0 la la la ea _ hla na (Nat.lt_of_lt_of_le m0 B8.size) l8 (X0.below B8 m0) E8).mono ?_
    rintro e w9 ⟨rfl, B9⟩
    have C9 := B8.trans (B9.mono B8.size)
    have B09 := B06.trans (C9.mono B06.size)
    go_wp2_with (fail)
    refine (toEntryS_any b lb cb eb _ (hB.below B09) nb).mono ?_
    rintro e w10 ⟨rfl, E10, l10, B10⟩
    have C10 := C9.trans (B10.mono C9.size)
    go_wp2_with (fail)
    refine (eqEntryS_same w4.heap.size 0 _ 0 lb lb lb eb _ hlb nb (Nat.lt_of_lt_of_le m1 C10.size) l10 (X1.below C10 m1) E10).mono ?_
    rintro e w11 ⟨rfl, B11⟩
    have C11 := C10.trans (B11.mono C10.size)
    have B011 := B06.trans (C11.mono B06.size)
    have R0 := R0.below C11 m0
    have R1 := R1.below C11 m1
    clear X0 X1 E8 l8 E10 l10 C9 C10 B8 B9 B10 B11 B08 B09
    go_wp2_with (fail)
    refine (mark_any w3.heap.size la la 1 _ R0 na (by omega)).mono ?_
    rintro e w12 ⟨rfl, _, _, O12⟩
    have h34 : w4.heap.size ≠ w3.heap.size := by omega
    go_wp2_with (fail)
    refine (mark_any w4.heap.size lb lb (1 + 3 * la) _ (R1.only O12 h34) nb (by omega)).mono ?_
    rintro e w13 ⟨rfl, _, _, O13⟩
    have B013 := (B011.trans ((O12.below (Nat.le_refl _)).mono (Nat.le_trans B03.size (Nat.le_refl _)))).trans (((O13.below (Nat.le_refl _))).mono (Nat.le_trans B04.size (Nat.le_refl _)))
    have hk : ¬ ((1 + 3 * la + 3 * lb : Nat) : Int) < 0 := by omega
    clear O12 O13 R0 R1 C11 B011
    go_wp2_with (fail)
    refine (eqEntryS_nil _ _ _ _ _).mono ?_
    rintro e w14 ⟨rfl, rfl⟩
    go_wp2_with (fail)
    refine (mark_nil _ _ _ _).mono ?_
    rintro e w15 ⟨rfl, rfl⟩
    go_wp2_with (fail)
    refine (held_nil _ _ _ _).mono ?_
    rintro e w16 ⟨rfl, rfl⟩
    go_wp2_with (fail)
    refine (toEntryS_any a la ca ea _ (hA.below B013) na).mono ?_
    rintro e w17 ⟨rfl, E17, l17, B17⟩
    have B017 := B013.trans (B17.mono B013.size)
    go_wp2_with (fail)
    refine (toEntryS_any b lb cb eb _ (hB.below B017) nb).mono ?_
    rintro e w18 ⟨rfl, E18, l18, B18⟩
    have B018 := B017.trans (B18.mono B017.size)
    go_wp2_with (fail)
    refine (implTabOver_not _ 0 la la ea _ 0 lb lb eb _ hla hlb (Nat.lt_of_lt_of_le l17 B18.size) l18 (E17.below B18 l17) E18 hT).mono ?_
    rintro e w19 ⟨rfl, B19⟩
    have B019 := B018.trans (B19.mono B018.size)
    go_wp2_with (fail)
    refine (eqEntryS_nil _ _ _ _ _).mono ?_
    rintro e w20 ⟨rfl, rfl⟩
    go_wp2_with (fail)
    refine (held_nil _ _ _ _).mono ?_
    rintro e w21 ⟨rfl, rfl⟩
    go_wp2
    go_ret
    exact ⟨rfl, B019⟩
  · obtain ⟨rfl, rfl, ha6, hb6, okA, okB⟩ := okT_both hla hlb hT
    clear hT
    have hl6 : (overT ea eb).length = 6 := by simp [overT, ha6]
    go_wp2_with (fail)
    refine (specTabOver_ok w.heap.size 0 6 ea w1.heap.size 0 6 eb _ ha6 hb6 l1 l2 E1 E2 okA okB).mono ?_
    rintro e w3 ⟨Y, yc, rfl, yLo, ty, Ey, B3⟩
    have B03 := B02.trans (B3.mono B02.size)
    have y0 : w.heap.size ≤ Y := Nat.le_trans B02.size yLo
    clear E1 E2 l1 l2 B3 B02
    go_wp2_with (fail)
    refine (toEntryS_room a 6 ca ea _ (hA.below B03) na).mono ?_
    rintro e w4 ⟨rfl, X0, R0, l0, B4⟩
    have B04 := B03.trans (B4.mono B03.size)
    have Ey := Ey.below B4 ty
    have ty4 := Nat.lt_of_lt_of_le ty B4.size
    go_wp2_with (fail)
    refine (toEntryS_room b 6 cb eb _ (hB.below B04) nb).mono ?_
    rintro e w5 ⟨rfl, X1, R1, l1, B5⟩
    have B05 := B04.trans (B5.mono B04.size)
    have X0 := X0.below B5 l0
    have R0 := R0.below B5 l0
    have l0' := Nat.lt_of_lt_of_le l0 B5.size
    have Ey := Ey.below B5 ty4
    have ty5 := Nat.lt_of_lt_of_le ty4 B5.size
    go_wp2_with (fail)
    refine (implTabOver_ok w3.heap.size 0 6 ea w4.heap.size 0 6 eb _ ha6 hb6 l0' l1 X0 X1 okA okB).mono ?_
    rintro e w6 ⟨G, rfl, gLo, tg, Eg, Rg, B6⟩
    have B06 := B05.trans (B6.mono B05.size)
    have X0 := X0.below B6 l0'
    have R0 := R0.below B6 l0'
    have X1 := X1.below B6 l1
    have R1 := R1.below B6 l1
    have Ey := Ey.below B6 ty5
    have m0 := Nat.lt_of_lt_of_le l0' B6.size
    have m1 := Nat.lt_of_lt_of_le l1 B6.size
    have ty6 := Nat.lt_of_lt_of_le ty5 B6.size
    have h34 : w4.heap.size ≠ w3.heap.size := by omega
    have nGX0 : G ≠ w3.heap.size := by omega
    have nGX1 : G ≠ w4.heap.size := by omega
    have nYX0 : Y ≠ w3.heap.size := by omega
    have nYX1 : Y ≠ w4.heap.size := by omega
    have nYG : Y ≠ G := by omega
    have g0 : w.heap.size ≤ G := Nat.le_trans B05.size gLo
    clear l0 l0' l1 ty ty4 ty5 B4 B5 B6 B05
    go_wp2_with (fail)
    refine (eqEntryS_same G 0 Y 0 6 6 yc (overT ea eb) _ hl6 (by omega) tg ty6 Eg Ey).mono ?_
    rintro e w7 ⟨rfl, C7⟩
    have B07 := B06.trans (C7.mono B06.size)
    go_wp2_with (fail)
    refine (toEntryS_any a 6 ca ea _ (hA.below B07) na).mono ?_
    rintro e w8 ⟨rfl, E8, l8, B8⟩
    have C8 := C7.trans (B8.mono C7.size)
    go_wp2_with (fail)
    refine (eqEntryS_same w3.heap.size 0 _ 0 6 6 6 ea _ ha6 na (Nat.lt_of_lt_of_le m0 C8.size) l8 (X0.below C8 m0) E8).mono ?_
    rintro e w9 ⟨rfl, B9⟩
    have C9 := C8.trans (B9.mono C8.size)
    have B09 := B06.trans (C9.mono B06.size)
    go_wp2_with (fail)
    refine (toEntryS_any b 6 cb eb _ (hB.below B09) nb).mono ?_
    rintro e w10 ⟨rfl, E10, l10, B10⟩
    have C10 := C9.trans (B10.mono C9.size)
    go_wp2_with (fail)
    refine (eqEntryS_same w4.heap.size 0 _ 0 6 6 6 eb _ hb6 nb (Nat.lt_of_lt_of_le m1 C10.size) l10 (X1.below C10 m1) E10).mono ?_
    rintro e w11 ⟨rfl, B11⟩
    have C11 := C10.trans (B11.mono C10.size)
    have B011 := B06.trans (C11.mono B06.size)
    have R0 := R0.below C11 m0
    have R1 := R1.below C11 m1
    have Rg := Rg.below C11 tg
    have Eg := Eg.below C11 tg
    have Ey := Ey.below C11 ty6
    have tg := Nat.lt_of_lt_of_le tg C11.size
    have ty := Nat.lt_of_lt_of_le ty6 C11.size
    clear X0 X1 E8 l8 E10 l10 C7 C8 C9 C10 B8 B9 B10 B11 B07 B09 ty6
    go_wp2_with (fail)
    refine (mark_any w3.heap.size 6 6 1 _ R0 na (by omega)).mono ?_
    rintro e w12 ⟨rfl, _, _, O12⟩
    go_wp2_with (fail)
    refine (mark_any w4.heap.size 6 6 19 _ (R1.only O12 h34) nb (by omega)).mono ?_
    rintro e w13 ⟨rfl, _, _, O13⟩
    have B013 := (B011.trans ((O12.below (Nat.le_refl _)).mono B03.size)).trans ((O13.below (Nat.le_refl _)).mono B04.size)
    have Rg := (Rg.only O12 nGX0).only O13 nGX1
    have Eg := (Eg.only O12 nGX0).only O13 nGX1
    have Ey := (Ey.only O12 nYX0).only O13 nYX1
    have tg : G < w13.heap.size := by rw [O13.size, O12.size]; exact tg
    have ty : Y < w13.heap.size := by rw [O13.size, O12.size]; exact ty
    clear O12 O13 R0 R1 C11 B011
    go_wp2_with (fail)
    refine (eqEntryS_same G 0 Y 0 6 6 yc (overT ea eb) _ hl6 (by omega) tg ty Eg Ey).mono ?_
    rintro e w14 ⟨rfl, C14⟩
    have B014 := B013.trans (C14.mono B013.size)
    have Rg := Rg.below C14 tg
    have Ey := Ey.below C14 ty
    have tg := Nat.lt_of_lt_of_le tg C14.size
    have ty := Nat.lt_of_lt_of_le ty C14.size
    clear Eg C14 B013
    go_wp2_with (fail)
    refine (mark_any G 6 6 1 _ Rg (by omega) (by omega)).mono ?_
    rintro e w15 ⟨rfl, Mg, _, O15⟩
    have B015 := B014.trans ((O15.below (Nat.le_refl _)).mono g0)
    have Ey := Ey.only O15 nYG
    have tg : G < w15.heap.size := by rw [O15.size]; exact tg
    have ty : Y < w15.heap.size := by rw [O15.size]; exact ty
    clear Rg O15 B014
    go_wp2_with (fail)
    refine (held_any G 6 6 1 _ Mg (by omega) (by omega)).mono ?_
    rintro e w16 ⟨rfl, rfl⟩
    go_wp2_with (fail)
    refine (toEntryS_any a 6 ca ea _ (hA.below B015) na).mono ?_
    rintro e w17 ⟨rfl, E17, l17, C17⟩
    have B017 := B015.trans (C17.mono B015.size)
    go_wp2_with (fail)
    refine (toEntryS_any b 6 cb eb _ (hB.below B017) nb).mono ?_
    rintro e w18 ⟨rfl, E18, l18, B18⟩
    have C18 := C17.trans (B18.mono C17.size)
    go_wp2_with (fail)
    refine (implTabOver_ok _ 0 6 ea _ 0 6 eb _ ha6 hb6 (Nat.lt_of_lt_of_le l17 B18.size) l18 (E17.below B18 l17) E18 okA okB).mono ?_
    rintro e w19 ⟨Hb, rfl, _, th, Eh, _, B19⟩
    have C19 := C18.trans (B19.mono C18.size)
    have B019 := B015.trans (C19.mono B015.size)
    have Ey := Ey.below C19 ty
    have Mg := Mg.below C19 tg
    have tg := Nat.lt_of_lt_of_le tg C19.size
    have ty := Nat.lt_of_lt_of_le ty C19.size
    clear C17 C18 C19 B18 B19 E17 E18 l17 l18
    go_wp2_with (fail)
    refine (eqEntryS_same Hb 0 Y 0 6 6 yc (overT ea eb) _ hl6 (by omega) th ty Eh Ey).mono ?_
    rintro e w20 ⟨rfl, C20⟩
    have Mg := Mg.below C20 tg
    go_wp2_with (fail)
    refine (held_any G 6 6 1 _ Mg (by omega) (by omega)).mono ?_
    rintro e w21 ⟨rfl, rfl⟩
    go_wp2
    go_ret
    exact ⟨rfl, B019.trans (C20.mono B019.size)⟩
end Go.Proofs.Ytfiailnlkhonnaw
