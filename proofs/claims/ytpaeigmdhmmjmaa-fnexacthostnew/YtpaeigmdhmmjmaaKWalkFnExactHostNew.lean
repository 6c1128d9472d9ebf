/-
  The walk of the law FnExactHostNew: whatever the number, both functions give the same, and the answer lies in memory of its own.
-/
import Derived.Test.YtpaeigmdhmmjmaaKM
namespace Go.Proofs.Ytpaeigmdhmmjmaa
open Go.RowKit

set_option maxHeartbeats 4000000 in
theorem walk_FnExactHostNew (n : Int) (w : World) (_wf : (Lit.int .i64 n).wf = true) :
    Calls Try.prog 3 #[.int .i64 n] w fun e w' => e = .returned (.bool true) ∧ Below w.heap.size w w' := by
  have hs := (shaped_new n).small
  have hc := (shaped_new n).cnt
  have hS := specNewG n
  have hI := implNewG n
  generalize newH n = h at *
  generalize newB n = ok at *
  have hneg : ¬ ((1 + cntH h : Nat) : Int) < 0 := by omega
  go_enter Try.func3, Try.ntmps3
  go_wp2_with (fail)
  refine (hS _).mono ?_
  rintro e w1 ⟨aw, lw, cw, bw, mw, dw, rfl, Ow, B1⟩
  have Hw := Ow.host
  have s01 := B1.size
  go_wp2_with (fail)
  refine (hI _).mono ?_
  rintro e w2 ⟨ag, lg, cg, bg, mg, dg, rfl, Og, B2⟩
  obtain ⟨B02, s12⟩ := viaK B1 s01 B2
  have V : Var3 w2 w1.heap.size (.slice aw lw cw) (.slice bw mw dw) (.int .i64 h.hand) := (var3_newK rfl).belowK B2
  have Hw := (Hw.allocK (by omega) _).belowK B2 (by simp)
  rw [World.size_alloc] at Og
  have V' := V
  obtain ⟨p0, p1, p2, _, _, _⟩ := V'
  have hb2 : w1.heap.size < w2.heap.size := by omega
  clear B2 B1 Ow
  go_wp2_with (fail)
  have Og := Og.allocK (Nat.le_refl _) (.cells #[.slice ag lg cg, .slice bg mg dg, .int .i64 h.hand] 25)
  have Hw := Hw.allocK (by omega) (.cells #[.slice ag lg cg, .slice bg mg dg, .int .i64 h.hand] 25)
  refine (eqHost_same _ _ _ _ _ _ _ _ h _ Og.host Hw (by simp) (by simp; omega) hs h.hand).mono ?_
  rintro e w3 ⟨rfl, B3⟩
  obtain ⟨B03, s23⟩ := viaK B02 (by omega) B3
  have U : Var3 w3 w2.heap.size (.slice ag lg cg) (.slice bg mg dg) (.int .i64 h.hand) := (var3_newK rfl).belowK B3
  have V := (V.allocK _).belowK B3
  have Og := Og.belowK B3 (by simp)
  have Hw := Hw.belowK B3 (by simp; omega)
  have U' := U
  obtain ⟨q0, q1, q2, _, _, _⟩ := U'
  have hb3 : w2.heap.size < w3.heap.size := by omega
  clear B3 B02 p0 p1 p2
  go_wp2_with (fail)
  refine (markHost_any _ _ 1 _ _ h h.hand w3 Og (by omega) (by omega) hs (by omega) (by omega)).mono ?_
  rintro e w4 ⟨rfl, Ok, B4, S4⟩
  have Hk := Ok.host
  have Hw := Hw.same (below_sameIn B4 (by omega))
  have s34 := B4.size
  have U := U.same (S4 _ (Nat.le_refl _) (by omega))
  have V := V.same (B4.block _ (by omega))
  have B04 := B03.trans (B4.mono (by omega))
  have U' := U
  obtain ⟨q0, q1, q2, _, _, _⟩ := U'
  have hb4 : w2.heap.size < w4.heap.size := by omega
  clear S4 B4 Og Ok B03
  go_wp2_with (fail)
  refine (heldHost_any _ _ 1 _ _ h h.hand w4 Hk (by omega) hs (by omega) (by omega)).mono ?_
  rintro e w5 ⟨rfl, B5⟩
  have Hk := Hk.belowK B5 (by omega)
  have Hw := Hw.belowK B5 (by omega)
  have U := U.belowK B5
  have V := V.belowK B5
  have s45 := B5.size
  have B05 := B04.trans (B5.mono (by omega))
  clear B5 B04 q0 q1 q2
  go_wp2_with (fail)
  refine (hI _).mono ?_
  rintro e w6 ⟨ah, lh, ch, bh, mh, dh, rfl, Oh, B6⟩
  have Hk := Hk.belowK B6 (by omega)
  have Hw := Hw.belowK B6 (by omega)
  have U := U.belowK B6
  have V := V.belowK B6
  have s56 := B6.size
  have B06 := B05.trans (B6.mono (by omega))
  have V' := V
  obtain ⟨p0, p1, p2, _, _, _⟩ := V'
  have hb6 : w1.heap.size < w6.heap.size := by omega
  clear B6 B05
  go_wp2_with (fail)
  have Oh := Oh.allocK (Nat.le_refl _) (.cells #[.slice ah lh ch, .slice bh mh dh, .int .i64 h.hand] 25)
  have Hw := Hw.allocK (by omega) (.cells #[.slice ah lh ch, .slice bh mh dh, .int .i64 h.hand] 25)
  refine (eqHost_same _ _ _ _ _ _ _ _ h _ Oh.host Hw (by simp) (by simp; omega) hs h.hand).mono ?_
  rintro e w7 ⟨rfl, B7⟩
  obtain ⟨B07, s67⟩ := viaK B06 (by omega) B7
  have U := (U.allocK _).belowK B7
  have Hk := (Hk.allocK (by omega) _).belowK B7 (by simp; omega)
  obtain ⟨q0, q1, q2, _, _, _⟩ := U
  have hb7 : w2.heap.size < w7.heap.size := by omega
  clear B7 B06 p0 p1 p2
  go_wp2_with (fail)
  refine (heldHost_any _ _ 1 _ _ h h.hand w7 Hk (by omega) hs (by omega) (by omega)).mono ?_
  rintro e w8 ⟨rfl, B8⟩
  have B08 := B07.trans (B8.mono (by omega))
  clear B8 B07
  go_wp2
  go_ret
  exact ⟨rfl, B08⟩
end Go.Proofs.Ytpaeigmdhmmjmaa
