/-
  The walk of the law FnExactHostLoad: whatever the memory, both functions give the same; the memory is left as it was, and the answer lies in memory of its own.
-/
import Derived.Test.YtpaeigmdhmmjmaaKM
namespace Go.Proofs.Ytpaeigmdhmmjmaa
open Go.RowKit

set_option maxHeartbeats 8000000 in
theorem walk_FnExactHostLoad (a : Option Addr) (len cap : Nat) (ms : List (List Int)) (w : World) (hA : ArgMem w a len ms) :
    Calls Try.prog 6 #[.slice a len cap] w fun e w' => e = .returned (.bool true) ∧ Below w.heap.size w w' := by
  obtain ⟨hM, hm, hL⟩ := hA
  go_enter Try.func6, Try.ntmps6
  go_wp2_with (fail)
  refine (szIntSS_any 0 w.heap.size a len cap ms _ hM hm hL).mono ?_
  rintro e w0 ⟨rfl, rfl | ⟨n, rfl, hsz⟩⟩
  · go_wp2
    go_ret
    exact ⟨rfl, Below.refl _ _⟩
  obtain ⟨hn, ht, hL⟩ := sz_facts hM.1 hsz
  have hs := (shaped_load (ms := ms)).small
  have hc := (shaped_load (ms := ms)).cnt
  have hS := fun lo hi a cap w h hh hcap => specLoadG lo hi a len cap ms w h hh hn hcap hL
  have hI := fun lo hi a cap w h hh => implLoadG lo hi a len cap ms w h hh hn
  generalize loadH ms = h at *
  generalize loadB ms = ok at *
  have hneg : ¬ ((1 + cntH h : Nat) : Int) < 0 := by omega
  have hneg2 : ¬ ((1 + tot ms len : Nat) : Int) < 0 := by omega
  go_wp2_with (fail)
  refine (toIntSS_any 0 _ a len cap ms _ hM (Nat.le_refl _) hn hL).mono ?_
  rintro e v1 ⟨rfl, M1, C1⟩
  have t01 := C1.size
  go_wp2_with (fail)
  refine (hS _ _ _ len _ M1.mem (Nat.le_refl _) (Nat.le_refl _)).mono ?_
  rintro e w1 ⟨aw, lw, cw, bw, mw, dw, rfl, Ow, B1⟩
  have Hw := Ow.host
  have s1 := B1.size
  have B1 := C1.trans (B1.mono C1.size)
  have s01 := B1.size
  clear M1 C1 Ow
  go_wp2_with (fail)
  refine (toIntSS_any 0 w0.heap.size a len cap ms _ (hM.later (B1.alloc s01 _)) (by simp; omega) hn hL).mono ?_
  rintro e v2 ⟨rfl, X, C2⟩
  obtain ⟨BV, t12⟩ := viaK B1 s01 C2
  have V : Var3 v2 w1.heap.size (.slice aw lw cw) (.slice bw mw dw) (.int .i64 h.hand) := (var3_newK rfl).belowK C2
  have Hw := (Hw.allocK (by omega) _).belowK C2 (by simp)
  rw [World.size_alloc] at X
  clear C2 B1
  go_wp2_with (fail)
  refine (hI _ _ _ len _ X.mem (Nat.le_refl _)).mono ?_
  rintro e w2 ⟨ag, lg, cg, bg, mg, dg, rfl, Og, B2⟩
  have B02 := BV.trans (B2.mono BV.size)
  have s12 := B2.size
  have V := V.belowK B2
  have Hw := Hw.belowK B2 (by omega)
  have X := X.same (below_sameIn B2 (Nat.le_refl _))
  have V' := V
  obtain ⟨p0, p1, p2, _, _, _⟩ := V'
  have hb2 : w1.heap.size < w2.heap.size := by omega
  clear B2 BV
  go_wp2_with (fail)
  have Og := Og.allocK (Nat.le_refl _) (.cells #[.slice ag lg cg, .slice bg mg dg, .int .i64 h.hand] 25)
  have Hw := Hw.allocK (by omega) (.cells #[.slice ag lg cg, .slice bg mg dg, .int .i64 h.hand] 25)
  refine (eqHost_same _ _ _ _ _ _ _ _ h _ Og.host Hw (by simp) (by simp; omega) hs h.hand).mono ?_
  rintro e w3 ⟨rfl, B3⟩
  obtain ⟨B03, s23⟩ := viaK B02 (by omega) B3
  have U : Var3 w3 w2.heap.size (.slice ag lg cg) (.slice bg mg dg) (.int .i64 h.hand) := (var3_newK rfl).belowK B3
  have V := (V.allocK _).belowK B3
  have Og := Og.belowK B3 (by simp)
  have Hw := Hw.belowK B3 (by simp; omega)
  have X := (X.allocK (by omega) _).same (below_sameIn B3 (by simp; omega))
  clear B3 B02 p0 p1 p2
  go_wp2_with (fail)
  refine (toIntSS_any 0 w0.heap.size a len cap ms _ (hM.later B03) (by omega) hn hL).mono ?_
  rintro e v4 ⟨rfl, Y, C4⟩
  have D04 := B03.trans (C4.mono (by omega))
  have u34 := C4.size
  have U := U.belowK C4
  have V := V.belowK C4
  have Og := Og.belowK C4 (by omega)
  have Hw := Hw.belowK C4 (by omega)
  have X := X.same (below_sameIn C4 (by omega))
  clear C4 B03
  go_wp2_with (fail)
  refine (eqIntSS_same _ _ _ _ _ _ len _ _ ms _ X.mem Y.mem (by omega) (Nat.le_refl _) hn hL).mono ?_
  rintro e v5 ⟨rfl, C5⟩
  have D05 := D04.trans (C5.mono (by omega))
  have u45 := C5.size
  have U := U.belowK C5
  have V := V.belowK C5
  have Og := Og.belowK C5 (by omega)
  have Hw := Hw.belowK C5 (by omega)
  have X := X.same (below_sameIn C5 (by omega))
  clear C5 D04 Y
  go_wp2_with (fail)
  refine (markIntSS_any _ _ _ len _ 1 ms _ X hn (by omega) (by omega)).mono ?_
  rintro e v6 ⟨rfl, _, A6⟩
  have D06 := D05.trans (A6.below (by omega))
  have u56 := Nat.le_of_eq A6.size.symm
  have U := U.same (A6.block _ (by omega))
  have V := V.same (A6.block _ (by omega))
  have Og := Og.same (A6.same (by omega))
  have Hw := Hw.same (A6.same (by omega))
  have U' := U
  obtain ⟨q0, q1, q2, _, _, _⟩ := U'
  have V' := V
  obtain ⟨p0, p1, p2, _, _, _⟩ := V'
  have hb6 : w2.heap.size < v6.heap.size := by omega
  have hd6 : w1.heap.size < v6.heap.size := by omega
  clear A6 D05 X
  go_wp2_with (fail)
  refine (eqHost_same _ _ _ _ _ _ _ _ h _ Og.host Hw (by omega) (by omega) hs h.hand).mono ?_
  rintro e v7 ⟨rfl, C7⟩
  have D07 := D06.trans (C7.mono (by omega))
  have u67 := C7.size
  have U := U.belowK C7
  have V := V.belowK C7
  have Og := Og.belowK C7 (by omega)
  have Hw := Hw.belowK C7 (by omega)
  have U' := U
  obtain ⟨q0, q1, q2, _, _, _⟩ := U'
  have hb7 : w2.heap.size < v7.heap.size := by omega
  clear C7 D06 p0 p1 p2
  go_wp2_with (fail)
  refine (markHost_any _ _ 1 _ _ h h.hand v7 Og (by omega) (by omega) hs (by omega) (by omega)).mono ?_
  rintro e w4 ⟨rfl, Ok, B4, S4⟩
  have Hk := Ok.host
  have Hw := Hw.same (below_sameIn B4 (by omega))
  have s34 := B4.size
  have U := U.same (S4 _ (Nat.le_refl _) (by omega))
  have V := V.same (B4.block _ (by omega))
  have B04 := D07.trans (B4.mono (by omega))
  have U' := U
  obtain ⟨q0, q1, q2, _, _, _⟩ := U'
  have hb4 : w2.heap.size < w4.heap.size := by omega
  clear S4 B4 Og Ok D07
  go_wp2_with (fail)
  refine (heldHost_any _ _ 1 _ _ h h.hand w4 Hk (by omega) hs (by omega) (by omega)).mono ?_
  rintro e w5 ⟨rfl, B5⟩
  have Hk := Hk.belowK B5 (by omega)
  have Hw := Hw.belowK B5 (by omega)
  have U := U.belowK B5
  have V := V.belowK B5
  have s45 := B5.size
  have B05 := B04.trans (B5.mono (by omega))
  clear B5 B04 q0 q1 q2
  go_wp2_with (fail)
  refine (toIntSS_any 0 w0.heap.size a len cap ms _ (hM.later B05) (by omega) hn hL).mono ?_
  rintro e v8 ⟨rfl, Y, C8⟩
  have D08 := B05.trans (C8.mono (by omega))
  have u58 := C8.size
  have U := U.belowK C8
  have V := V.belowK C8
  have Hk := Hk.belowK C8 (by omega)
  have Hw := Hw.belowK C8 (by omega)
  clear C8 B05
  go_wp2_with (fail)
  refine (hI _ _ _ len _ Y.mem (Nat.le_refl _)).mono ?_
  rintro e w6 ⟨ah, lh, ch, bh, mh, dh, rfl, Oh, B6⟩
  have Hk := Hk.belowK B6 (by omega)
  have Hw := Hw.belowK B6 (by omega)
  have U := U.belowK B6
  have V := V.belowK B6
  have s56 := B6.size
  have B06 := D08.trans (B6.mono (by omega))
  have V' := V
  obtain ⟨p0, p1, p2, _, _, _⟩ := V'
  have hb6 : w1.heap.size < w6.heap.size := by omega
  clear B6 D08
  go_wp2_with (fail)
  have Oh := Oh.allocK (Nat.le_refl _) (.cells #[.slice ah lh ch, .slice bh mh dh, .int .i64 h.hand] 25)
  have Hw := Hw.allocK (by omega) (.cells #[.slice ah lh ch, .slice bh mh dh, .int .i64 h.hand] 25)
  refine (eqHost_same _ _ _ _ _ _ _ _ h _ Oh.host Hw (by simp) (by simp; omega) hs h.hand).mono ?_
  rintro e w7 ⟨rfl, B7⟩
  obtain ⟨B07, s67⟩ := viaK B06 (by omega) B7
  have U := (U.allocK _).belowK B7
  have Hk := (Hk.allocK (by omega) _).belowK B7 (by simp; omega)
  obtain ⟨q0, q1, q2, _, _, _⟩ := U
  have hb7 : w2.heap.size < w7.heap.size := by omega
  clear B7 B06 p0 p1 p2
  go_wp2_with (fail)
  refine (heldHost_any _ _ 1 _ _ h h.hand w7 Hk (by omega) hs (by omega) (by omega)).mono ?_
  rintro e w8 ⟨rfl, B8⟩
  have B08 := B07.trans (B8.mono (by omega))
  clear B8 B07
  go_wp2
  go_ret
  exact ⟨rfl, B08⟩
end Go.Proofs.Ytpaeigmdhmmjmaa
