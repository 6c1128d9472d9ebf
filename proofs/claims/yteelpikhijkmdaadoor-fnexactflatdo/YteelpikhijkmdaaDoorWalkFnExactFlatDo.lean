/-
  The walk of the law FnExactFlatDo: whatever the memory and the act, both functions give the same; the memory is left as it was, and the answer lies in memory of its own.
-/
import Derived.Test.YteelpikhijkmdaaDoorFlatDo1
import Derived.Test.YteelpikhijkmdaaDoorActs0
import Derived.Test.YteelpikhijkmdaaDoorFlatTot0
namespace Go.Proofs.YteelpikhijkmdaaDoor
open Go.RowKit

set_option maxHeartbeats 400000 in
theorem toAct_any (a0 a1 a2 a3 a4 : Int) (w : World) :
    Calls Tryd.prog 20 #[.agg #[.int .i64 a0, .int .i64 a1, .int .i64 a2, .int .i64 a3, .int .i64 a4]] w fun e w' => e = .returned (.agg #[.int .i64 a0, .int .i64 a1, .int .i64 a2, .int .i64 a3, .int .i64 a4]) ∧ Below w.heap.size w w' := by
  go_enter Tryd.func20, Tryd.ntmps20
  go_wp2
  refine bodyPost_ret (v := .agg #[.int .i64 a0, .int .i64 a1, .int .i64 a2, .int .i64 a3, .int .i64 a4]) ?res rfl ⟨rfl, ?_⟩
  case res => simp [results, Tryd.results20, go_sem]
  (repeat' (with_reducible (first | exact Below.refl _ _ | apply Below.setCell | apply Below.alloc | apply below_drewN | apply Below.drew | refine Below.trans ?_ (Below.mono (by assumption) ?_)))) <;> (first | exact Nat.le_refl _ | (simp; done) | (simp; omega) | (simp at *; omega))

set_option maxRecDepth 100000 in
set_option maxHeartbeats 8000000 in
theorem walk_FnExactFlatDo (a : Option Addr) (len cap : Nat) (ms : List (List Int)) (k : A5) (w : World) (hg : ErrT w) (hA : ArgMem w a len ms) :
    Calls Tryd.prog 5 #[.slice a len cap, .agg #[.int .i64 k.1, .int .i64 k.2.1, .int .i64 k.2.2.1, .int .i64 k.2.2.2.1, .int .i64 k.2.2.2.2]] w fun e w' => e = .returned (.bool true) ∧ Below w.heap.size w w' := by
  obtain ⟨hM, hm, hL⟩ := hA
  obtain ⟨k0, k1, k2, k3, k4⟩ := k
  obtain ⟨W0, hW0⟩ : ∃ W0, W0 = w.alloc (.cells #[.int .i64 k0, .int .i64 k1, .int .i64 k2, .int .i64 k3, .int .i64 k4] 42) := ⟨_, rfl⟩
  have B00 : Below w.heap.size w W0 := by rw [hW0]; exact (Below.refl _ _).alloc (Nat.le_refl _) _
  have s00 : w.heap.size < W0.heap.size := by rw [hW0]; simp
  have q : W0.cell? ⟨w.heap.size, 0, none⟩ = some (.int .i64 k0) ∧ W0.cell? ⟨w.heap.size, 1, none⟩ = some (.int .i64 k1) ∧ W0.cell? ⟨w.heap.size, 2, none⟩ = some (.int .i64 k2) ∧ W0.cell? ⟨w.heap.size, 3, none⟩ = some (.int .i64 k3) ∧ W0.cell? ⟨w.heap.size, 4, none⟩ = some (.int .i64 k4) := by rw [hW0]; simp
  have hq : Hid (∀ W, Below W0.heap.size W0 W → W.cell? ⟨w.heap.size, 0, none⟩ = some (.int .i64 k0) ∧ W.cell? ⟨w.heap.size, 1, none⟩ = some (.int .i64 k1) ∧ W.cell? ⟨w.heap.size, 2, none⟩ = some (.int .i64 k2) ∧ W.cell? ⟨w.heap.size, 3, none⟩ = some (.int .i64 k3) ∧ W.cell? ⟨w.heap.size, 4, none⟩ = some (.int .i64 k4)) := fun W B =>
    ⟨(B.cell (p := ⟨w.heap.size, 0, none⟩) s00).trans q.1, (B.cell (p := ⟨w.heap.size, 1, none⟩) s00).trans q.2.1, (B.cell (p := ⟨w.heap.size, 2, none⟩) s00).trans q.2.2.1, (B.cell (p := ⟨w.heap.size, 3, none⟩) s00).trans q.2.2.2.1, (B.cell (p := ⟨w.heap.size, 4, none⟩) s00).trans q.2.2.2.2⟩
  replace hM : IsMem W0 0 W0.heap.size a len ms := (hM.later B00).wide (Nat.le_refl _) B00.size
  replace hg := hg.on B00
  replace B00 := hidF B00
  clear q
  go_enter Tryd.func5, Tryd.ntmps5
  go_wp2_with (fail)
  rw [← hW0]
  clear hW0
  refine (szIntSS_any 0 W0.heap.size a len cap ms _ hM hm hL).mono ?_
  rintro e w1 ⟨rfl, rfl | ⟨n, rfl, hs⟩⟩
  · go_wp2
    go_ret
    exact ⟨rfl, B00.out⟩
  obtain ⟨hn, ht, hL⟩ := sz_facts hM.1 hs
  have hlm := hM.1
  have hl := fdM_len ms (k0, k1, k2, k3, k4)
  have h4 := fdM_lens ms (k0, k1, k2, k3, k4)
  have hS := fun lo hi a cap w h hh => specFlatDo lo hi a len cap ms k0 k1 k2 k3 k4 w h hh hn hL
  have hI := fun lo hi a cap w hg h hh => implFlatDo lo hi a len cap ms k0 k1 k2 k3 k4 w hg h hh hn hL
  generalize fdM ms (k0, k1, k2, k3, k4) = ns at hl h4 hS hI
  generalize fdG ms (k0, k1, k2, k3, k4) = ok at hS hI
  have hln : ns.length = len := hl.trans hlm
  have hL' : ∀ i, i < len → (ns.getD i []).length ≤ 1048576 := fun i hi => by rw [h4 i]; exact hL i hi
  have ht' : tot ns len ≤ 4194304 := by rw [tot_lens hl h4 len (by omega)]; omega
  clear hl h4
  go_wp2_with (fail)
  go_cut [6, 7] (fun s6 s7 wx => ∃ aw cw, s6 = .slice aw len cw ∧ s7 = .int .i64 ok ∧ Hid (IsMem wx w1.heap.size wx.heap.size aw len ns ∧ Below w1.heap.size w1 wx))
  case first =>
    have Dd : Below w1.heap.size w1 w1.drew := (Below.refl _ _).drew
    obtain ⟨p0, p1, p2, p3, p4⟩ := hq.out _ Dd
    have hT := hidF (toIntSS_any 0 w1.heap.size a len cap ms w1.drew (hM.later Dd) Dd.size hn hL)
    go_region_with (first | (go_at_call 19; refine hT.out.mono ?_; rintro e x2 ⟨rfl, X2, C2⟩; replace C2 := Dd.trans C2; obtain ⟨r0, r1, r2, r3, r4⟩ := hq.out _ C2) | (go_at_call 20; refine (toAct_any k0 k1 k2 k3 k4 _).mono ?_; rintro e x3 ⟨rfl, C3⟩; have X3 := X2.mem.same (below_sameIn C3 (Nat.le_refl _))) | (go_at_call 13; refine (hS _ _ _ len _ X3 C3.size).mono ?_; rintro e x4 ⟨aw, cw, rfl, Mw, C4⟩))
    all_goals
      have HF := hidF (show IsMem x4 w1.heap.size x4.heap.size aw len ns ∧ Below w1.heap.size w1 x4 from ⟨Mw.mem.wide (by have := C2.size; have := C3.size; omega) (Nat.le_refl _), C2.trans ((C3.trans (C4.mono C3.size)).mono C2.size)⟩)
      clear p0 p1 p2 p3 p4 r0 r1 r2 r3 r4 C2 C3 C4 Mw X2 X3
      go_wp2_with fail
      go_meet
      exact ⟨aw, cw, rfl, rfl, HF.out⟩
  case rest =>
    obtain ⟨aw, cw, rfl, rfl, hcf⟩ := hcut
    obtain ⟨Mw, B03⟩ := hcf.out
    go_wp2_with (fail)
    refine (toIntSS_any 0 w1.heap.size a len cap ms _ (hM.later B03) B03.size hn hL).mono ?_
    rintro e w4 ⟨rfl, X, B4⟩
    have B04 := B03.trans (B4.mono B03.size)
    have Mw := Mw.same (below_sameIn B4 (Nat.le_refl _))
    obtain ⟨q0, q1, q2, q3, q4⟩ := hq.out _ B04
    go_wp2_with (fail)
    refine (toAct_any k0 k1 k2 k3 k4 _).mono ?_
    rintro e w4' ⟨rfl, B4'⟩
    have B04 := B04.trans (B4'.mono B04.size)
    have Mw := Mw.same (below_sameIn B4' B4.size)
    have X := X.same (below_sameIn B4' (Nat.le_refl _))
    have s44 := B4'.size
    clear q0 q1 q2 q3 q4 B4'
    go_wp2_with (fail)
    refine (hI _ _ _ len _ (hg.on B04) X.mem s44).mono ?_
    rintro e w5 ⟨ag, cg, rfl, Mg, B5⟩
    have B05 := B04.trans (B5.mono B04.size)
    have s34 := B4.size
    have Mw := Mw.same (below_sameIn B5 (by omega))
    have X := X.same (below_sameIn B5 s44)
    have s45 := B5.size
    clear B4 B5
    go_wp2_with (fail)
    refine (eqIntSS_same _ _ _ _ _ _ len _ _ ns _ Mg.mem Mw (Nat.le_refl _) (by omega) hn hL').mono ?_
    rintro e w6 ⟨rfl, B6⟩
    have B06 := B05.trans (B6.mono B05.size)
    have Mw := Mw.same (below_sameIn B6 (by omega))
    have X := X.same (below_sameIn B6 (by omega))
    have Mg := Mg.same (below_sameIn B6 (by omega))
    have s56 := B6.size
    clear B6
    go_wp2_with (fail)
    refine (toIntSS_any 0 w1.heap.size a len cap ms _ (hM.later B06) B06.size hn hL).mono ?_
    rintro e w7 ⟨rfl, Y, B7⟩
    have B07 := B06.trans (B7.mono B06.size)
    have Mw := Mw.same (below_sameIn B7 (by omega))
    have X := X.same (below_sameIn B7 (by omega))
    have Mg := Mg.same (below_sameIn B7 (by omega))
    have s67 := B7.size
    clear B7
    go_wp2_with (fail)
    refine (eqIntSS_same _ _ _ _ _ _ len _ _ ms _ X.mem Y.mem (by omega) (Nat.le_refl _) hn hL).mono ?_
    rintro e w8 ⟨rfl, B8⟩
    have B08 := B07.trans (B8.mono B07.size)
    have Mw := Mw.same (below_sameIn B8 (by omega))
    have X := X.same (below_sameIn B8 (by omega))
    have Mg := Mg.same (below_sameIn B8 (by omega))
    have s78 := B8.size
    clear B8 Y
    go_wp2_with (fail)
    refine (markIntSS_any _ _ _ len _ 1 ms _ X hn (by omega) (by omega)).mono ?_
    rintro e w9 ⟨rfl, _, A9⟩
    have B09 := B08.trans (A9.below B03.size)
    have Mw := Mw.same (A9.same (Or.inl (Nat.le_refl _)))
    have Mg := Mg.same (A9.same (Or.inr s44))
    have s89 := Nat.le_of_eq A9.size.symm
    have hneg : ¬ ((1 + tot ms len : Nat) : Int) < 0 := by omega
    clear A9 X
    go_wp2_with (fail)
    refine (eqIntSS_same _ _ _ _ _ _ len _ _ ns _ Mg.mem Mw (by omega) (by omega) hn hL').mono ?_
    rintro e w10 ⟨rfl, B10⟩
    have B010 := B09.trans (B10.mono B09.size)
    have Mw := Mw.same (below_sameIn B10 (by omega))
    have Mg := Mg.same (below_sameIn B10 (by omega))
    have s910 := B10.size
    clear B10
    go_wp2_with (fail)
    refine (markIntSS_any _ _ _ len _ 1 ns _ Mg hn ht' (by omega)).mono ?_
    rintro e w11 ⟨rfl, Mk, A11⟩
    have B011 := B010.trans (A11.below B04.size)
    have Mw := Mw.same (A11.same (Or.inl (by omega)))
    have Mk := Mk.mem
    have s1011 := Nat.le_of_eq A11.size.symm
    have hneg2 : ¬ ((1 + tot ns len : Nat) : Int) < 0 := by omega
    clear A11 Mg
    go_wp2_with (fail)
    refine (heldIntSS_any _ _ _ len _ 1 ns _ hln Mk hn ht' (by omega)).mono ?_
    rintro e w12 ⟨rfl, rfl⟩
    go_wp2_with (fail)
    go_cut [14, 15] (fun s6 s7 wx => ∃ ah ch, s6 = .slice ah len ch ∧ s7 = .int .i64 ok ∧ Hid (IsMem wx w12.heap.size wx.heap.size ah len ns ∧ Below w12.heap.size w12 wx))
    case first =>
      obtain ⟨p0, p1, p2, p3, p4⟩ := hq.out _ B011.drew
      have Dd : Below w12.heap.size w12 w12.drew := (Below.refl _ _).drew
      have hT := hidF (toIntSS_any 0 w1.heap.size a len cap ms w12.drew (hM.later (B011.trans (Dd.mono B011.size))) B011.size hn hL)
      have hgg := hidF (hg.on B011)
      have HB011 := hidF B011
      clear Mw Mk B011
      go_region_with (first | (go_at_call 19; refine hT.out.mono ?_; rintro e x2 ⟨rfl, X2, C2⟩; replace C2 := Dd.trans C2; obtain ⟨r0, r1, r2, r3, r4⟩ := hq.out _ (HB011.out.trans (C2.mono HB011.out.size))) | (go_at_call 20; refine (toAct_any k0 k1 k2 k3 k4 _).mono ?_; rintro e x3 ⟨rfl, C3⟩; have X3 := X2.mem.same (below_sameIn C3 (Nat.le_refl _))) | (go_at_call 14; refine (hI _ _ _ len _ (hgg.out.on (C2.trans (C3.mono C2.size))) X3 C3.size).mono ?_; rintro e x4 ⟨ah, ch, rfl, Mh, C4⟩))
      all_goals
        have HF := hidF (show IsMem x4 w12.heap.size x4.heap.size ah len ns ∧ Below w12.heap.size w12 x4 from ⟨Mh.mem.wide (by have := C2.size; have := C3.size; omega) (Nat.le_refl _), C2.trans ((C3.trans (C4.mono C3.size)).mono C2.size)⟩)
        clear p0 p1 p2 p3 p4 r0 r1 r2 r3 r4 C2 C3 C4 Mh X2 X3
        go_wp2_with fail
        go_meet
        exact ⟨ah, ch, rfl, rfl, HF.out⟩
    case rest =>
      obtain ⟨ah, ch, rfl, rfl, hcf⟩ := hcut
      obtain ⟨Mh, B14⟩ := hcf.out
      have B014 := B011.trans (B14.mono B011.size)
      have Mw := Mw.same (below_sameIn B14 (by omega))
      have Mk := Mk.same (below_sameIn B14 (by omega))
      have s14 := B14.size
      clear B14
      go_wp2_with (fail)
      refine (eqIntSS_same _ _ _ _ _ _ len _ _ ns _ Mh Mw (Nat.le_refl _) (by omega) hn hL').mono ?_
      rintro e w15 ⟨rfl, B15⟩
      have B015 := B014.trans (B15.mono B014.size)
      have Mk := Mk.same (below_sameIn B15 (by omega))
      clear B15
      go_wp2_with (fail)
      refine (heldIntSS_any _ _ _ len _ 1 ns _ hln Mk hn ht' (by omega)).mono ?_
      rintro e w16 ⟨rfl, rfl⟩
      go_wp2
      go_ret
      exact ⟨rfl, B00.out.trans (B015.mono B00.out.size)⟩
end Go.Proofs.YteelpikhijkmdaaDoor
