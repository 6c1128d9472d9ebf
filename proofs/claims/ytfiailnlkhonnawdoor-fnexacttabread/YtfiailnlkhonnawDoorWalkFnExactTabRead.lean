/-
  The walk of the law FnExactTabRead: whatever the text, both functions answer the same; the answer lies in memory of its own.
-/
import Derived.Test.YtfiailnlkhonnawDoorMark0
import Derived.Test.YtfiailnlkhonnawDoorReadImpl0
import Derived.Test.YtfiailnlkhonnawDoorReadSpec0
namespace Go.Proofs.YtfiailnlkhonnawDoor
open Go.RowKit

/-- What the program's own TabRead answers where the text is this table's. -/
theorem implRead_ok (s : ByteArray) (es : List E3) (w : World) (hs : s.size ≤ 1048576) (hl : es.length = 6) (hA : es.all okE = true) (he : textL es = s.data.toList) :
    Calls Tryd.prog 5 #[.string s] w fun e w' => ∃ G, e = .returned (.tuple #[.slice (some ⟨G, 0, none⟩) 6 6, .bool true]) ∧ w.heap.size ≤ G ∧ G < w'.heap.size ∧ Room w' G 18 ∧ Ents w' G 0 es ∧ Below w.heap.size w w' := by
  refine (implTabRead s w hs).mono ?_
  rintro e w' ⟨v, k, rfl, (⟨rfl, fs, hl', hA', he', G, rfl, h1, h2, h3, h4⟩ | ⟨rfl, rfl, hno⟩), hB⟩
  · obtain rfl := textL_one hl' hl hA' hA (he'.trans he.symm)
    exact ⟨G, rfl, h1, h2, h3, h4, hB⟩
  · exact absurd he (hno es hl hA)
theorem implRead_no (s : ByteArray) (w : World) (hs : s.size ≤ 1048576) (hn : ∀ es : List E3, es.length = 6 → es.all okE = true → textL es ≠ s.data.toList) :
    Calls Tryd.prog 5 #[.string s] w fun e w' => e = .returned (.tuple #[.slice none 0 0, .bool false]) ∧ Below w.heap.size w w' := by
  refine (implTabRead s w hs).mono ?_
  rintro e w' ⟨v, k, rfl, (⟨rfl, fs, hl', hA', he', _⟩ | ⟨rfl, rfl, _⟩), hB⟩
  · exact absurd he' (hn fs hl' hA')
  · exact ⟨rfl, hB⟩

set_option maxHeartbeats 4000000 in
theorem walk_FnExactTabRead (s : ByteArray) (w : World) :
    Calls Tryd.prog 3 #[.string s] w fun e w' => e = .returned (.bool true) ∧ Below w.heap.size w w' := by
  by_cases hbig : (1048576 : Int) < (s.size : Int)
  · go_enter Tryd.func3, Tryd.ntmps3
    go_wp2
    go_ret
    exact ⟨rfl, Below.refl _ _⟩
  have hs : s.size ≤ 1048576 := by omega
  go_enter Tryd.func3, Tryd.ntmps3
  go_wp2_with (fail)
  refine (specTabRead s _ hs).mono ?_
  rintro e w1 ⟨v, k, rfl, (⟨rfl, es, hl, hA, he, Y, yc, rfl, y0, ty, Ey⟩ | ⟨rfl, a, cap, rfl, hno⟩), B1⟩
  · have HI := fun W => implRead_ok s es W hs hl hA he
    have HE : Hid (es.all okE = true ∧ textL es = s.data.toList) := ⟨hA, he⟩
    clear hA he
    go_wp2_with (fail)
    refine (HI _).mono ?_
    rintro e w2 ⟨G, rfl, gLo, tg, Rg, Eg, B2⟩
    have B02 := B1.trans (B2.mono B1.size)
    have Ey := Ey.below B2 ty
    have ty2 := Nat.lt_of_lt_of_le ty B2.size
    have nYG : Y ≠ G := by omega
    have g0 : w.heap.size ≤ G := Nat.le_trans B1.size gLo
    clear B1 B2 ty
    go_wp2_with (fail)
    refine (eqEntryS_same G 0 Y 0 6 6 yc es _ hl (by omega) tg ty2 Eg Ey).mono ?_
    rintro e w3 ⟨rfl, C3⟩
    have B03 := B02.trans (C3.mono B02.size)
    have Rg := Rg.below C3 tg
    have Ey := Ey.below C3 ty2
    have tg := Nat.lt_of_lt_of_le tg C3.size
    have ty := Nat.lt_of_lt_of_le ty2 C3.size
    clear Eg C3 B02 ty2
    go_wp2_with (fail)
    refine (mark_any G 6 6 1 _ Rg (by omega) (by omega)).mono ?_
    rintro e w4 ⟨rfl, Mg, _, O4⟩
    have B04 := B03.trans ((O4.below (Nat.le_refl _)).mono g0)
    have Ey := Ey.only O4 nYG
    have tg : G < w4.heap.size := by rw [O4.size]; exact tg
    have ty : Y < w4.heap.size := by rw [O4.size]; exact ty
    clear Rg O4 B03
    go_wp2_with (fail)
    refine (held_any G 6 6 1 _ Mg (by omega) (by omega)).mono ?_
    rintro e w5 ⟨rfl, rfl⟩
    go_wp2_with (fail)
    refine (HI _).mono ?_
    rintro e w6 ⟨Hb, rfl, _, th, _, Eh, B6⟩
    have B06 := B04.trans (B6.mono B04.size)
    have Ey := Ey.below B6 ty
    have Mg := Mg.below B6 tg
    have tg := Nat.lt_of_lt_of_le tg B6.size
    have ty := Nat.lt_of_lt_of_le ty B6.size
    clear B6 B04
    go_wp2_with (fail)
    refine (eqEntryS_same Hb 0 Y 0 6 6 yc es _ hl (by omega) th ty Eh Ey).mono ?_
    rintro e w7 ⟨rfl, C7⟩
    have Mg := Mg.below C7 tg
    go_wp2_with (fail)
    refine (held_any G 6 6 1 _ Mg (by omega) (by omega)).mono ?_
    rintro e w8 ⟨rfl, rfl⟩
    go_wp2
    go_ret
    exact ⟨rfl, B06.trans (C7.mono B06.size)⟩
  · have HI := fun W => implRead_no s W hs hno
    clear hno
    go_wp2_with (fail)
    refine (HI _).mono ?_
    rintro e w2 ⟨rfl, B2⟩
    have B02 := B1.trans (B2.mono B1.size)
    go_wp2_with (fail)
    refine (eqEntryS_nil _ _ _ _ _).mono ?_
    rintro e w3 ⟨rfl, rfl⟩
    go_wp2_with (fail)
    refine (mark_nil _ _ _ _).mono ?_
    rintro e w4 ⟨rfl, rfl⟩
    go_wp2_with (fail)
    refine (held_nil _ _ _ _).mono ?_
    rintro e w5 ⟨rfl, rfl⟩
    go_wp2_with (fail)
    refine (HI _).mono ?_
    rintro e w6 ⟨rfl, B6⟩
    have B06 := B02.trans (B6.mono B02.size)
    go_wp2_with (fail)
    refine (eqEntryS_nil _ _ _ _ _).mono ?_
    rintro e w7 ⟨rfl, rfl⟩
    go_wp2_with (fail)
    refine (held_nil _ _ _ _).mono ?_
    rintro e w8 ⟨rfl, rfl⟩
    go_wp2
    go_ret
    exact ⟨rfl, B06⟩
end Go.Proofs.YtfiailnlkhonnawDoor
