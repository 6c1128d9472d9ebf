/-
  The walk of the law FnExactMemTab: whatever the memory, both functions tell the same table; the memory is left as it was, and the answer lies in memory of its own.
-/
import Derived.Test.YtofiajllhffjcayWalkFnExactMemOk
import Derived.Test.YtofiajllhffjcayMemTab0
import Derived.Test.YtofiajllhffjcayMark0
namespace Go.Proofs.Ytofiajllhffjcay
open Go.RowKit

theorem eqEnts (lo hi lo' hi' : Nat) (a a' : Option Addr) (len cap cap' : Nat) (es : List E3) (w : World) (h : HasEnts w lo hi a len es) (h' : HasEnts w lo' hi' a' len es) (hh : hi ≤ w.heap.size) (hh' : hi' ≤ w.heap.size) (hn : len ≤ 1048576) :
    Calls Try.prog 23 #[.slice a len cap, .slice a' len cap'] w fun e w' => e = .returned (.bool true) ∧ Below w.heap.size w w' := by
  obtain ⟨hl, hd⟩ := h
  obtain ⟨_, hd'⟩ := h'
  rcases hd with h0 | ⟨T, rfl, _, h2, hE⟩
  · subst h0
    refine (eqEntryS_nil a a' cap cap' w).mono ?_
    rintro e w' ⟨rfl, rfl⟩
    exact ⟨rfl, Below.refl _ _⟩
  · rcases hd' with h0 | ⟨T', rfl, _, h2', hE'⟩
    · subst h0
      refine (eqEntryS_nil _ a' cap cap' w).mono ?_
      rintro e w' ⟨rfl, rfl⟩
      exact ⟨rfl, Below.refl _ _⟩
    · exact eqEntryS_same T 0 T' 0 len cap cap' es w hl hn (by omega) (by omega) hE hE'
theorem markEnts (lo hi : Nat) (a : Option Addr) (len cap : Nat) (es : List E3) (w : World) (h : OwnEnts w lo hi a len es) (hn : len ≤ 1048576) :
    Calls Try.prog 24 #[.slice a len cap, .int .i64 1] w fun e w' => e = .returned (.int .i64 ((1 + 3 * len : Nat) : Int)) ∧ HasEnts w' lo hi a len (marks 1 len) ∧ Amid lo hi w w' := by
  obtain ⟨hl, hd⟩ := h
  rcases hd with h0 | ⟨T, rfl, h1, h2, hE, hR⟩
  · subst h0
    refine (mark_nil a cap 1 w).mono ?_
    rintro e w' ⟨rfl, rfl⟩
    exact ⟨rfl, ⟨rfl, Or.inl rfl⟩, Amid.refl _ _ _⟩
  · refine (mark_any T len cap 1 w hR hn (by omega)).mono ?_
    rintro e w' ⟨rfl, hM, _, hO⟩
    exact ⟨rfl, ⟨marks_len _ _, Or.inr ⟨T, rfl, h1, h2, hM⟩⟩, hO.os, hO.tape, hO.output, hO.size, fun k hk => hO.block k (by omega)⟩
theorem heldEnts (lo hi : Nat) (a : Option Addr) (len cap : Nat) (w : World) (h : HasEnts w lo hi a len (marks 1 len)) (hn : len ≤ 1048576) :
    Calls Try.prog 25 #[.slice a len cap, .int .i64 1] w fun e w' => e = .returned (.int .i64 ((1 + 3 * len : Nat) : Int)) ∧ w' = w := by
  obtain ⟨hl, hd⟩ := h
  rcases hd with h0 | ⟨T, rfl, h1, h2, hE⟩
  · subst h0
    refine (held_nil a cap 1 w).mono ?_
    rintro e w' ⟨rfl, rfl⟩
    exact ⟨rfl, rfl⟩
  · exact held_any T len cap 1 w hE hn (by omega)

set_option maxHeartbeats 4000000 in
theorem walk_FnExactMemTab (a : Option Addr) (len cap : Nat) (ms : List (List Int)) (w : World) (hA : ArgMem w a len ms) :
    Calls Try.prog 7 #[.slice a len cap] w fun e w' => e = .returned (.bool true) ∧ Below w.heap.size w w' := by
  obtain ⟨hM, hm, hL⟩ := hA
  go_enter Try.func7, Try.ntmps7
  go_wp2_with (fail)
  refine (szIntSS_any 0 w.heap.size a len cap ms _ hM hm hL).mono ?_
  rintro e w1 ⟨rfl, rfl | ⟨n, rfl, hs⟩⟩
  · go_wp2
    go_ret
    exact ⟨rfl, Below.refl _ _⟩
  obtain ⟨hn, ht, hL⟩ := sz_facts hM.1 hs
  have hl := tabL_len ms
  have hS := fun lo hi a cap w h hh => specMemTab lo hi a len cap ms w h hh hn hL
  have hI := fun lo hi a cap w h hh => implMemTab lo hi a len cap ms w h hh hn
  generalize tabL ms = es at hl hS hI
  generalize hln : es.length = len' at hl hS hI
  have hn' : len' ≤ 1048576 := by omega
  have hneg2 : ¬ ((1 + 3 * len' : Nat) : Int) < 0 := by omega
  clear hl
  go_wp2_with (fail)
  refine (toIntSS_any 0 _ a len cap ms _ hM (Nat.le_refl _) hn hL).mono ?_
  rintro e w2 ⟨rfl, M2, B2⟩
  go_wp2_with (fail)
  refine (hS _ _ _ len _ M2.mem (Nat.le_refl _)).mono ?_
  rintro e w3 ⟨aw, cw, rfl, Mw, B3⟩
  have B03 := B2.trans (B3.mono B2.size)
  clear M2 B3 B2
  go_wp2_with (fail)
  refine (toIntSS_any 0 w1.heap.size a len cap ms _ (hM.later B03) B03.size hn hL).mono ?_
  rintro e w4 ⟨rfl, X, B4⟩
  have B04 := B03.trans (B4.mono B03.size)
  have Mw := Mw.same (below_sameIn B4 (Nat.le_refl _))
  go_wp2_with (fail)
  refine (hI _ _ _ len _ X.mem (Nat.le_refl _)).mono ?_
  rintro e w5 ⟨ag, cg, rfl, Mg, B5⟩
  have B05 := B04.trans (B5.mono B04.size)
  have Mw := Mw.same (below_sameIn B5 B4.size)
  have X := X.same (below_sameIn B5 (Nat.le_refl _))
  have s34 := B4.size
  have s45 := B5.size
  clear B4 B5
  go_wp2_with (fail)
  refine (eqEnts _ _ _ _ _ _ len' _ _ es _ Mg.has Mw (Nat.le_refl _) (by omega) hn').mono ?_
  rintro e w6 ⟨rfl, B6⟩
  have B06 := B05.trans (B6.mono B05.size)
  have Mw := Mw.same (below_sameIn B6 (by omega))
  have X := X.same (below_sameIn B6 (by omega))
  have Mg := Mg.same (below_sameIn B6 (by omega))
  have s56 := B6.size
  clear B6
  go_wp2_with (fail)
  refine (toIntSS_any 0 w1.heap.size a len cap ms _ (hM.later B06) B06.size hn hL).mono ?_
  rintro e w7 ⟨rfl, Y, B7⟩
  have B07 := B06.trans (B7.mono B06.size)
  have Mw := Mw.same (below_sameIn B7 (by omega))
  have X := X.same (below_sameIn B7 (by omega))
  have Mg := Mg.same (below_sameIn B7 (by omega))
  have s67 := B7.size
  clear B7
  go_wp2_with (fail)
  refine (eqIntSS_same _ _ _ _ _ _ len _ _ ms _ X.mem Y.mem (by omega) (Nat.le_refl _) hn hL).mono ?_
  rintro e w8 ⟨rfl, B8⟩
  have B08 := B07.trans (B8.mono B07.size)
  have Mw := Mw.same (below_sameIn B8 (by omega))
  have X := X.same (below_sameIn B8 (by omega))
  have Mg := Mg.same (below_sameIn B8 (by omega))
  have s78 := B8.size
  clear B8 Y
  go_wp2_with (fail)
  refine (markIntSS_any _ _ _ len _ 1 ms _ X hn (by omega) (by omega)).mono ?_
  rintro e w9 ⟨rfl, _, A9⟩
  have B09 := B08.trans (A9.below B03.size)
  have Mw := Mw.same (A9.same (Or.inl (Nat.le_refl _)))
  have Mg := Mg.same (A9.same (Or.inr (Nat.le_refl _)))
  have s89 := Nat.le_of_eq A9.size.symm
  have hneg : ¬ ((1 + tot ms len : Nat) : Int) < 0 := by omega
  clear A9 X
  go_wp2_with (fail)
  refine (eqEnts _ _ _ _ _ _ len' _ _ es _ Mg.has Mw (by omega) (by omega) hn').mono ?_
  rintro e w10 ⟨rfl, B10⟩
  have B010 := B09.trans (B10.mono B09.size)
  have Mw := Mw.same (below_sameIn B10 (by omega))
  have Mg := Mg.same (below_sameIn B10 (by omega))
  have s910 := B10.size
  clear B10
  go_wp2_with (fail)
  refine (markEnts _ _ _ len' _ es _ Mg hn').mono ?_
  rintro e w11 ⟨rfl, Mk, A11⟩
  have B011 := B010.trans (A11.below B04.size)
  have Mw := Mw.same (A11.same (Or.inl (by omega)))
  have s1011 := Nat.le_of_eq A11.size.symm
  clear A11 Mg
  go_wp2_with (fail)
  refine (heldEnts _ _ _ len' _ _ Mk hn').mono ?_
  rintro e w12 ⟨rfl, rfl⟩
  go_wp2_with (fail)
  refine (toIntSS_any 0 w1.heap.size a len cap ms _ (hM.later B011) B011.size hn hL).mono ?_
  rintro e w13 ⟨rfl, Y, B13⟩
  have B013 := B011.trans (B13.mono B011.size)
  have Mw := Mw.same (below_sameIn B13 (by omega))
  have Mk := Mk.same (below_sameIn B13 (by omega))
  have s13 := B13.size
  clear B13
  go_wp2_with (fail)
  refine (hI _ _ _ len _ Y.mem (Nat.le_refl _)).mono ?_
  rintro e w14 ⟨ah, ch, rfl, Mh, B14⟩
  have B014 := B013.trans (B14.mono B013.size)
  have Mw := Mw.same (below_sameIn B14 (by omega))
  have Mk := Mk.same (below_sameIn B14 (by omega))
  have s14 := B14.size
  clear B14 Y
  go_wp2_with (fail)
  refine (eqEnts _ _ _ _ _ _ len' _ _ es _ Mh.has Mw (Nat.le_refl _) (by omega) hn').mono ?_
  rintro e w15 ⟨rfl, B15⟩
  have B015 := B014.trans (B15.mono B014.size)
  have Mk := Mk.same (below_sameIn B15 (by omega))
  clear B15
  go_wp2_with (fail)
  refine (heldEnts _ _ _ len' _ _ Mk hn').mono ?_
  rintro e w16 ⟨rfl, rfl⟩
  go_wp2
  go_ret
  exact ⟨rfl, B015⟩
end Go.Proofs.Ytofiajllhffjcay
