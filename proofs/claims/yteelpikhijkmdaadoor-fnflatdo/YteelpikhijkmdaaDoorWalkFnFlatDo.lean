/-
  The walk of the law FnFlatDo.
-/
import Derived.Test.YteelpikhijkmdaaDoorFlatDo1
import Derived.Test.YteelpikhijkmdaaDoorMemDraw2
import Derived.Test.YteelpikhijkmdaaDoorActDraw0
import Derived.Test.YteelpikhijkmdaaDoorLkMem0
set_option linter.unusedSimpArgs false
namespace Go.Proofs.YteelpikhijkmdaaDoor
open Go.RowKit

theorem C5.put1 {W : World} {b : Nat} {v0 v1 v2 v3 v4 : Value} (h : C5 W b v0 v1 v2 v3 v4) (u : Value) : C5 (W.setCell ⟨b, 1, none⟩ u) b v0 u v2 v3 v4 :=
  ⟨(cell_put h.1).trans (by simp), cell_put h.2.1, (cell_put h.2.2.1).trans (by simp), (cell_put h.2.2.2.1).trans (by simp), (cell_put h.2.2.2.2.1).trans (by simp), fun i => frozen_set u (h.2.2.2.2.2.1 i), by simpa using h.2.2.2.2.2.2⟩

set_option maxHeartbeats 4000000 in
theorem drawFlatDo (a : Option Addr) (len cap : Nat) (zs : List Int) (w : World) (h : IsRow .u8 w a len cap zs) :
    Calls Tryd.prog 12 #[.slice a len cap] w fun e w' => ∃ aM n c ms A, e = .returned (.tuple #[.slice aM n c, actV A]) ∧ DrawnMem w' w.heap.size w'.heap.size aM n ms ∧ SmA 2 A ∧ Below w.heap.size w w' := by
  obtain ⟨W0, hW0⟩ : ∃ W0, W0 = w.alloc (.cells #[.int .i64 0, .int .i64 0, .int .i64 0, .int .i64 0, .int .i64 0] 37) := ⟨_, rfl⟩
  have B0 : Below w.heap.size w W0 := by rw [hW0]; exact (Below.refl _ _).alloc (Nat.le_refl _) _
  have s0 : w.heap.size < W0.heap.size := by rw [hW0]; simp
  have hC0 : C5 W0 w.heap.size (.int .i64 0) (.int .i64 0) (.int .i64 0) (.int .i64 0) (.int .i64 0) := by rw [hW0]; simp [C5]
  have h0 := h.below B0
  go_enter Tryd.func12, Tryd.ntmps12
  go_wp2_with (fail)
  rw [← hW0]
  clear hW0
  refine (open_any a len cap zs _ h0).mono ?_
  rintro e w1 ⟨rfl, len', hl', rfl⟩
  have hr := rd_new h0 hl' 0 115
  have hlt := hr.lt
  have hC1 := hC0.alloc (.cells #[.slice a len' cap, .int .i64 ((0 : Nat) : Int)] 115)
  have B1 : Below w.heap.size w (W0.alloc (.cells #[.slice a len' cap, .int .i64 ((0 : Nat) : Int)] 115)) := B0.alloc B0.size _
  clear hC0 B0
  go_wp2_with (fail)
  refine (drawOff W0.heap.size 0 _ hr (by omega)).mono ?_
  rintro e w2 ⟨T, o, n, c, rfl, hn, _, hS, ⟨k2, hr2, hk2⟩, hA⟩
  have B2 : Below w.heap.size w w2 := B1.trans (hA.below (by omega) (by simp; omega))
  have hS2 := hS.wide (lo' := W0.heap.size + 1) (hi' := w2.heap.size) (by simp) (Nat.le_refl _)
  have hC2 := hC1.adv hA (by omega)
  clear hS hA hr hC1 B1
  go_wp2_with (fail)
  refine (drawAct W0.heap.size k2 2 _ hr2 (by omega) (by omega) (by omega)).mono ?_
  rintro e w3 ⟨A, rfl, hs, _, ha3⟩
  have B3 := B2.trans (ha3.below (by omega) B2.size)
  have hS3 := hS2.same (adv_same ha3 (by omega) (Nat.le_refl _))
  have hC3 := hC2.adv ha3 (by omega)
  have s3 := ha3.size
  clear ha3 hS2 hr2 hC2
  obtain ⟨ms, hM⟩ := (hS3.wide (lo' := w.heap.size + 1) (hi' := w3.heap.size) (by omega) s3).drawn (by omega)
  have HM : Hid (DrawnMem w3 (w.heap.size + 1) w3.heap.size (some ⟨T, o, none⟩) n ms) := hM
  have HB := hidF B3
  replace hs := hidF hs
  clear hM hS3 B2 B3
  have hCf := hidF (((((hC3.put0 (.int .i64 A.1)).put1 (.int .i64 A.2.1)).put2 (.int .i64 A.2.2.1)).put3 (.int .i64 A.2.2.2.1)).put4 (.int .i64 A.2.2.2.2))
  obtain ⟨r0, r1, r2, r3, r4, rf, _⟩ := hC3
  unfold actV
  go_wp2_with (fail)
  obtain ⟨Wf, hWf⟩ : ∃ Wf, Wf = (((((w3.setCell ⟨w.heap.size, 0, none⟩ (.int .i64 A.1)).setCell ⟨w.heap.size, 1, none⟩ (.int .i64 A.2.1)).setCell ⟨w.heap.size, 2, none⟩ (.int .i64 A.2.2.1)).setCell ⟨w.heap.size, 3, none⟩ (.int .i64 A.2.2.2.1)).setCell ⟨w.heap.size, 4, none⟩ (.int .i64 A.2.2.2.2)) := ⟨_, rfl⟩
  have HS : SameIn (w.heap.size + 1) w3.heap.size w3 Wf := by
    rw [hWf]
    intro k h1 h2
    rw [Below.heap_setCell _ _ _ _ (by simp; omega), Below.heap_setCell _ _ _ _ (by simp; omega), Below.heap_setCell _ _ _ _ (by simp; omega), Below.heap_setCell _ _ _ _ (by simp; omega), Below.heap_setCell _ _ _ _ (by simp; omega)]
  have sf : Wf.heap.size = w3.heap.size := by rw [hWf]; simp [World.size_setCell]
  have HBf : Below w.heap.size w Wf := by
    rw [hWf]
    exact ((((HB.out.setCell (p := ⟨w.heap.size, 0, none⟩) (Nat.le_refl _) _).setCell (p := ⟨w.heap.size, 1, none⟩) (Nat.le_refl _) _).setCell (p := ⟨w.heap.size, 2, none⟩) (Nat.le_refl _) _).setCell (p := ⟨w.heap.size, 3, none⟩) (Nat.le_refl _) _).setCell (p := ⟨w.heap.size, 4, none⟩) (Nat.le_refl _) _
  rw [← hWf] at hCf ⊢
  clear hWf
  obtain ⟨z0, z1, z2, z3, z4, _, _⟩ := hCf.out
  refine bodyPost_ret (v := .tuple #[.slice (some ⟨T, o, none⟩) n c, actV A]) ?_ rfl ?_
  · simp [results, Tryd.results12, go_sem, actV, z0, z1, z2, z3, z4]
  · refine ⟨_, _, _, ms, A, rfl, ?_, hs.out, HBf⟩
    obtain ⟨m1, m2, m3⟩ := HM.out.same HS
    exact ⟨m1.wide (Nat.le_succ _) (by omega), m2, m3⟩

set_option maxRecDepth 100000 in
set_option maxHeartbeats 8000000 in
theorem walk_FnFlatDo (a0 : Option Addr) (len0 cap0 : Nat) (z0 : List Int) (w : World) (hg : ErrT w) (w0 : IsRow .u8 w a0 len0 cap0 z0) :
    Calls Tryd.prog 4 #[.slice a0 len0 cap0] w fun e w' => e = .returned (.bool true) ∧ Below w.heap.size w w' := by
  by_cases hbig : (1048576 : Int) < (len0 : Int)
  · go_enter Tryd.func4, Tryd.ntmps4
    go_wp2
    go_ret
    exact ⟨rfl, Below.refl _ _⟩
  go_enter Tryd.func4, Tryd.ntmps4
  go_wp2_with (fail)
  refine (drawFlatDo a0 len0 cap0 z0 _ w0).mono ?_
  rintro e v1 ⟨a, n, c, ms, ⟨k0, k1, k2, k3, k4⟩, rfl, ⟨hM, hn6, h4⟩, hs, B1⟩
  obtain ⟨W0, hW0⟩ : ∃ W0, W0 = v1.alloc (.cells #[.int .i64 k0, .int .i64 k1, .int .i64 k2, .int .i64 k3, .int .i64 k4] 37) := ⟨_, rfl⟩
  have C0 : Below v1.heap.size v1 W0 := by rw [hW0]; exact (Below.refl _ _).alloc (Nat.le_refl _) _
  have t0 : W0.heap.size = v1.heap.size + 1 := by rw [hW0]; simp
  have q : Hid (W0.cell? ⟨v1.heap.size, 0, none⟩ = some (.int .i64 k0) ∧ W0.cell? ⟨v1.heap.size, 1, none⟩ = some (.int .i64 k1) ∧ W0.cell? ⟨v1.heap.size, 2, none⟩ = some (.int .i64 k2) ∧ W0.cell? ⟨v1.heap.size, 3, none⟩ = some (.int .i64 k3) ∧ W0.cell? ⟨v1.heap.size, 4, none⟩ = some (.int .i64 k4)) := by rw [hW0]; simp [Hid]
  have hL : ∀ i, i < n → (ms.getD i []).length ≤ 1048576 := fun i hi => by have := h4 i hi; omega
  have hM0 := hM.same (below_sameIn C0 (Nat.le_refl _))
  have hS := specFlatDo _ _ a n c ms k0 k1 k2 k3 k4 W0 hM0 C0.size (by omega) hL
  have B0 := B1.trans (C0.mono B1.size)
  have s1 := B1.size
  have hI := fun (W : World) (B : Below W0.heap.size W0 W) => implFlatDo _ _ a n c ms k0 k1 k2 k3 k4 W (hg.on (B0.trans (B.mono B0.size))) (hM0.same (below_sameIn B (by omega))) (by have := B.size; omega) (by omega) hL
  replace hs := hidF hs
  replace hL := hidF hL
  replace hM0 := hidF hM0
  replace B0 := hidF B0
  replace hg := hidF hg
  replace hI := hidF hI
  have hlm := hM.1
  clear hM B1 C0 h4
  unfold actV
  go_wp2_with (fail)
  rw [← hW0]
  clear hW0
  refine hS.mono ?_
  rintro e w2 ⟨aw, cw, rfl, Mw, B2⟩
  obtain ⟨q0, q1, q2, q3, q4⟩ := q.out
  have cell2 : ∀ j u, W0.cell? ⟨v1.heap.size, j, none⟩ = some u → w2.cell? ⟨v1.heap.size, j, none⟩ = some u := fun j u h => (B2.cell (p := ⟨v1.heap.size, j, none⟩) (show v1.heap.size < W0.heap.size by omega)).trans h
  replace q0 := cell2 _ _ q0
  replace q1 := cell2 _ _ q1
  replace q2 := cell2 _ _ q2
  replace q3 := cell2 _ _ q3
  replace q4 := cell2 _ _ q4
  have hi2 := hI.out w2 B2
  clear hS cell2 q hI
  replace Mw := hidF Mw.mem
  replace B2 := hidF B2
  go_wp2_with (fail)
  refine hi2.mono ?_
  rintro e w3 ⟨ag, cg, rfl, Mg, B3⟩
  have cell3 : ∀ j u, w2.cell? ⟨v1.heap.size, j, none⟩ = some u → w3.cell? ⟨v1.heap.size, j, none⟩ = some u := fun j u h => (B3.cell (p := ⟨v1.heap.size, j, none⟩) (show v1.heap.size < w2.heap.size by have := B2.out.size; omega)).trans h
  replace q0 := cell3 _ _ q0
  replace q1 := cell3 _ _ q1
  replace q2 := cell3 _ _ q2
  replace q3 := cell3 _ _ q3
  replace q4 := cell3 _ _ q4
  clear hi2 cell3
  replace B2 := hidF (B2.out.trans (B3.mono B2.out.size))
  have s2 := B2.out.size
  replace Mw := hidF (Mw.out.same (below_sameIn B3 (Nat.le_refl _)))
  replace Mg := hidF (Mg.mem.wide (Nat.zero_le _) (Nat.le_refl _))
  have s3 := B3.size
  clear B3
  have hNl : ∀ i, i < n → ((fdM ms (k0, k1, k2, k3, k4)).getD i []).length ≤ 1048576 := fun i hi => by rw [fdM_lens]; exact hL.out i hi
  have hlk := lkMem_same _ _ _ _ ag aw n cg cw (fdM ms (k0, k1, k2, k3, k4)) w3 Mg.out Mw.out (Nat.le_refl _) s3 (by omega) hNl
  have hlk2 := hidF (fun (W : World) (ay : Option Addr) (cy lo hi : Nat) (B : Below w3.heap.size w3 W) (hy : IsMem W lo hi ay n (fdM ms (k0, k1, k2, k3, k4))) (hh : hi ≤ W.heap.size) => lkMem_same 0 w3.heap.size lo hi ag ay n cg cy (fdM ms (k0, k1, k2, k3, k4)) W (Mg.out.same (below_sameIn B (Nat.le_refl _))) hy B.size hh (by omega) hNl)
  clear Mw Mg hNl s3
  obtain ⟨G, hG⟩ : ∃ G, G = fdG ms (k0, k1, k2, k3, k4) := ⟨_, rfl⟩
  obtain ⟨NS, hNS⟩ : ∃ NS, NS = fdM ms (k0, k1, k2, k3, k4) := ⟨_, rfl⟩
  rw [← hNS] at hlk2
  rw [← hG]
  replace hG := hidF hG
  replace hNS := hidF hNS
  go_wp2_with (fail)
  refine hlk.mono ?_
  rintro e w4 ⟨rfl, B4⟩
  have cell4 : ∀ j u, w3.cell? ⟨v1.heap.size, j, none⟩ = some u → w4.cell? ⟨v1.heap.size, j, none⟩ = some u := fun j u h => (B4.cell (p := ⟨v1.heap.size, j, none⟩) (show v1.heap.size < w3.heap.size by omega)).trans h
  replace q0 := cell4 _ _ q0
  replace q1 := cell4 _ _ q1
  replace q2 := cell4 _ _ q2
  replace q3 := cell4 _ _ q3
  replace q4 := cell4 _ _ q4
  clear hlk cell4
  have HB4 := hidF (B0.out.trans ((B2.out.trans (B4.mono s2)).mono B0.out.size))
  have HM4 := hidF (hM0.out.same (below_sameIn (B2.out.trans (B4.mono s2)) (by omega)))
  have hg4 := hidF (hg.out.on HB4.out)
  have s4 := HB4.out.size
  have s04 : W0.heap.size ≤ w4.heap.size := Nat.le_trans s2 B4.size
  replace B4 := hidF B4
  clear hM0 hg B0 B2
  rcases (by omega : k0 = 1 ∨ k0 = 2 ∨ k0 = 3 ∨ k0 = 4 ∨ (k0 ≠ 1 ∧ k0 ≠ 2 ∧ k0 ≠ 3 ∧ k0 ≠ 4)) with rfl | rfl | rfl | rfl | ⟨d1, d2, d3, d4⟩
  · have hr := implFlatRead _ _ a n c ms k2 k3 w4 hg4.out HM4.out (by omega) (by omega)
    rw [show rdG ms k2 k3 = G from hG.out.symm] at hr
    have hl := hlk2.out
    rw [show NS = ms from hNS.out] at hl
    replace hl := hidF hl
    go_wp2_with (fail)
    refine hr.mono ?_
    rintro e w5 ⟨rfl, B5⟩
    have hl5 := hl.out w5 a c _ _ (B4.out.trans (B5.mono B4.out.size)) (HM4.out.same (below_sameIn B5 (by omega))) (by have := B5.size; omega)
    have HB5 := hidF (HB4.out.trans (B5.mono HB4.out.size))
    clear hr B5 hl
    go_wp2_with (fail)
    refine hl5.mono ?_
    rintro e w6 ⟨rfl, B6⟩
    have HB6 := hidF (HB5.out.trans (B6.mono HB5.out.size))
    clear hl5 B6
    go_wp2
    go_ret
    exact ⟨rfl, HB6.out⟩
  · have hr := implFlatWrite _ _ a n c ms k2 k3 k4 w4 hg4.out HM4.out (by omega) (by omega) hL.out
    rw [show wrG ms k2 k3 k4 = G from hG.out.symm, show wrM ms k2 k3 k4 = NS from hNS.out.symm] at hr
    go_wp2_with (fail)
    refine hr.mono ?_
    rintro e w5 ⟨rfl, M5, B5⟩
    have hl5 := hlk2.out w5 (some ⟨w4.heap.size, 0, none⟩) n _ _ (B4.out.trans (B5.mono B4.out.size)) M5.mem (Nat.le_refl _)
    have HB5 := hidF (HB4.out.trans (B5.mono HB4.out.size))
    clear hr B5 M5
    go_wp2_with (fail)
    refine hl5.mono ?_
    rintro e w6 ⟨rfl, B6⟩
    have HB6 := hidF (HB5.out.trans (B6.mono HB5.out.size))
    clear hl5 B6
    go_wp2
    go_ret
    exact ⟨rfl, HB6.out⟩
  · have hr := implFlatReadIn _ _ a n c ms k2 k3 w4 hg4.out HM4.out (by omega) (by omega)
    rw [show riG ms k2 k3 = G from hG.out.symm] at hr
    have hl := hlk2.out
    rw [show NS = ms from hNS.out] at hl
    replace hl := hidF hl
    go_wp2_with (fail)
    refine hr.mono ?_
    rintro e w5 ⟨rfl, B5⟩
    have hl5 := hl.out w5 a c _ _ (B4.out.trans (B5.mono B4.out.size)) (HM4.out.same (below_sameIn B5 (by omega))) (by have := B5.size; omega)
    have HB5 := hidF (HB4.out.trans (B5.mono HB4.out.size))
    clear hr B5 hl
    go_wp2_with (fail)
    refine hl5.mono ?_
    rintro e w6 ⟨rfl, B6⟩
    have HB6 := hidF (HB5.out.trans (B6.mono HB5.out.size))
    clear hl5 B6
    go_wp2
    go_ret
    exact ⟨rfl, HB6.out⟩
  · have hr := implFlatWriteIn _ _ a n c ms k2 k3 k4 w4 hg4.out HM4.out (by omega) (by omega) hL.out
    rw [show wiG ms k2 k3 k4 = G from hG.out.symm, show wiM ms k2 k3 k4 = NS from hNS.out.symm] at hr
    go_wp2_with (fail)
    refine hr.mono ?_
    rintro e w5 ⟨TT, rfl, M5, B5⟩
    have hl5 := hlk2.out w5 (some ⟨TT, 0, none⟩) n _ _ (B4.out.trans (B5.mono B4.out.size)) M5.mem (Nat.le_refl _)
    have HB5 := hidF (HB4.out.trans (B5.mono HB4.out.size))
    clear hr B5 M5
    go_wp2_with (fail)
    refine hl5.mono ?_
    rintro e w6 ⟨rfl, B6⟩
    have HB6 := hidF (HB5.out.trans (B6.mono HB5.out.size))
    clear hl5 B6
    go_wp2
    go_ret
    exact ⟨rfl, HB6.out⟩
  · have hG0 : G = 0 := by
      rw [hG.out]
      unfold fdG
      rw [show ((k0, k1, k2, k3, k4) : A5).1 = k0 from rfl, beq_eq_false_iff_ne.2 d1, beq_eq_false_iff_ne.2 d2, beq_eq_false_iff_ne.2 d3, beq_eq_false_iff_ne.2 d4]
      rfl
    have hN0 : NS = ms := by
      rw [hNS.out]
      unfold fdM
      rw [show ((k0, k1, k2, k3, k4) : A5).1 = k0 from rfl, beq_eq_false_iff_ne.2 d2, beq_eq_false_iff_ne.2 d4]
      rfl
    clear hG hNS
    subst hG0 hN0
    have e1 : (k0 == 1) = false := beq_eq_false_iff_ne.2 d1
    have e2 : (k0 == 2) = false := beq_eq_false_iff_ne.2 d2
    have e3 : (k0 == 3) = false := beq_eq_false_iff_ne.2 d3
    have e4 : (k0 == 4) = false := beq_eq_false_iff_ne.2 d4
    have hl5 := hlk2.out w4 a c _ _ B4.out HM4.out (by omega)
    go_wp2_with (fail)
    refine hl5.mono ?_
    rintro e w6 ⟨rfl, B6⟩
    have HB6 := hidF (HB4.out.trans (B6.mono HB4.out.size))
    clear hl5 B6
    go_wp2
    go_ret
    exact ⟨rfl, HB6.out⟩
end Go.Proofs.YteelpikhijkmdaaDoor
