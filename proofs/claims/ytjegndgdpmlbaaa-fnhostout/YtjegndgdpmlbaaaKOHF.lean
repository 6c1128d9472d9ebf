/-
  The given l14Forget, told in place.
-/
import Derived.Test.YtjegndgdpmlbaaaKOT
import Derived.Test.YtjegndgdpmlbaaaKOSpecForget0
import Derived.Test.YtjegndgdpmlbaaaKOD
import Derived.Test.YtjegndgdpmlbaaaKOPC
import Derived.Test.YtjegndgdpmlbaaaKOHJ
import Derived.Test.YtjegndgdpmlbaaaKOHK
import Derived.Test.YtjegndgdpmlbaaaKOAG
import Derived.Test.YtjegndgdpmlbaaaKOHE
import Derived.Test.YtjegndgdpmlbaaaKOPF
import Derived.Test.YtjegndgdpmlbaaaKOPD
import Derived.Test.YtjegndgdpmlbaaaKOSpecCarry0
import Derived.Test.YtjegndgdpmlbaaaKOActs0
import Derived.Test.YtjegndgdpmlbaaaKOS
set_option linter.unusedSimpArgs false
namespace Go.Proofs.Ytjegndgdpmlbaaa
open Go.RowKit
attribute [local go_sem ↓] Go.wp_at_zero Go.wp_at_succ exec_app
attribute [local go_sem] bigNext_ok

theorem SepH.newShd {w : World} {N : Nat} {A : Pl → Nat} {h : Hst} (k : SepH w N A h) {g : Nat} (hg : g < h.guests.length) {b c : Nat} {ss : List S4} (hz : ss.length = 6) (hb : N ≤ b ∧ b < w.heap.size) (hfree : ∀ x, x.ok h.guests.length → A x ≠ b) (hQ : Quads w b 0 ss) (hR : Room w b 24) :
    SepH (w.setCell ⟨A .gs, g * 3 + 2, none⟩ (.slice (some ⟨b, 0, none⟩) 6 c)) N (upd A (.shd g) b) (setG h g (withS (gOf h g) ss)) := by
  obtain ⟨s1, s2, s3, s4⟩ := k.sz g hg
  have hr := k.held .gs trivial
  have hbr : A .gs ≠ b := hfree .gs trivial
  have far : ∀ j, j ≠ A .gs → (w.setCell ⟨A .gs, g * 3 + 2, none⟩ (.slice (some ⟨b, 0, none⟩) 6 c)).heap[j]? = w.heap[j]? := fun j hj => Below.heap_setCell _ _ _ _ (by simpa using hj)
  have hlen := setG_len h g (withS (gOf h g) ss)
  refine ⟨by rw [hlen]; exact k.n2, k.f8, k.f4, fun j hj => ?_, fun x y hx hy e => ?_, fun x hx => ?_, fun x hx => ?_⟩
  · rw [hlen] at hj
    by_cases e : j = g
    · subst e
      rw [gOf_set_same hg]
      exact ⟨s1, s2, s3, hz⟩
    · rw [gOf_set_ne e]; exact k.sz j hj
  · rw [hlen] at hx hy
    by_cases ex : x = .shd g
    · by_cases ey : y = .shd g
      · rw [ex, ey]
      · rw [ex, upd_same, upd_ne _ _ ey] at e
        exact (hfree y hy e.symm).elim
    · by_cases ey : y = .shd g
      · rw [ey, upd_same, upd_ne _ _ ex] at e
        exact (hfree x hx e).elim
      · rw [upd_ne _ _ ex, upd_ne _ _ ey] at e
        exact k.inj x y hx hy e
  · rw [hlen] at hx
    rw [World.size_setCell]
    by_cases ex : x = .shd g
    · rw [ex, upd_same]; exact hb
    · rw [upd_ne _ _ ex]; exact k.low x hx
  · rw [hlen] at hx
    by_cases ex : x = .shd g
    · subst ex
      show Quads _ (upd A (.shd g) b (.shd g)) 0 (gOf (setG h g (withS (gOf h g) ss)) g).shades ∧ Room _ (upd A (.shd g) b (.shd g)) 24
      rw [upd_same, gOf_set_same hg]
      have s := same_block (far b (Ne.symm hbr))
      exact ⟨hQ.same s (Nat.le_refl _) (Nat.lt_succ_self _), hR.same s (Nat.le_refl _) (Nat.lt_succ_self _)⟩
    · by_cases er : x = .gs
      · subst er
        refine ⟨fun i hi => ?_, ?_⟩
        · rw [hlen] at hi
          obtain ⟨⟨c0, q0⟩, ⟨c1, q1⟩, ⟨c2, q2⟩⟩ := hr.1 i hi
          have p0 := cell_put (j := g * 3 + 2) (u := .slice (some ⟨b, 0, none⟩) 6 c) q0
          have p1 := cell_put (j := g * 3 + 2) (u := .slice (some ⟨b, 0, none⟩) 6 c) q1
          have p2 := cell_put (j := g * 3 + 2) (u := .slice (some ⟨b, 0, none⟩) 6 c) q2
          rw [if_neg (by omega)] at p0
          rw [if_neg (by omega)] at p1
          rw [upd_ne _ _ (by intro e; cases e), upd_ne _ _ (by intro e; cases e), upd_ne _ _ (by intro e; cases e)]
          refine ⟨⟨c0, p0⟩, ⟨c1, p1⟩, ?_⟩
          by_cases hip : i = g
          · subst hip
            rw [if_pos rfl] at p2
            rw [upd_same]
            exact ⟨c, p2⟩
          · rw [if_neg (by omega)] at p2
            rw [upd_ne _ _ (fun e => hip (by cases e; rfl))]
            exact ⟨c2, p2⟩
        · rw [upd_ne _ _ (by intro e; cases e), upd_ne _ _ (by intro e; cases e), hlen]
          exact hr.2.put _
      · have h0 := (held_setG (g' := withS (gOf h g) ss) hg x (k.held x hx) (fun _ => rfl) (fun e => (ex e).elim) (fun _ _ => rfl)).same (far (A x) (fun e => er (k.inj x .gs hx trivial e)))
        cases x using Pl.seven with
        | fr => exact fun i hi => by rw [upd_ne _ _ (by intro e; cases e), upd_ne _ _ (by intro e; cases e)]; exact h0 i hi
        | gs => exact (er rfl).elim
        | page i => show Ints _ (upd A _ b (.page i)) 0 _ ∧ Room _ (upd A _ b (.page i)) 4; rw [upd_ne _ _ (by intro e; cases e)]; exact h0
        | maps i => show Ents _ (upd A _ b (.maps i)) 0 _ ∧ Room _ (upd A _ b (.maps i)) 18; rw [upd_ne _ _ (by intro e; cases e)]; exact h0
        | row i => exact fun j hj => by rw [upd_ne _ _ (by intro e; cases e), upd_ne _ _ (by intro e; cases e)]; exact h0 j hj
        | shd i => show Quads _ (upd A _ b (.shd i)) 0 _ ∧ Room _ (upd A _ b (.shd i)) 24; rw [upd_ne _ _ ex]; exact h0
        | dsk i j => show Ints _ (upd A _ b (.dsk i j)) 0 _ ∧ Room _ (upd A _ b (.dsk i j)) 4; rw [upd_ne _ _ (by intro e; cases e)]; exact h0
theorem Mv.newShd {w w' w2 : World} {M N n : Nat} {A : Pl → Nat} {h' : Hst} (a : Mv w w' M N n A A h') {g : Nat} (hg : g < n) {b c : Nat} {ss : List S4} (hz : ss.length = 6) (hB : Below w'.heap.size w' w2) (hN : N ≤ w.heap.size) (hb : w'.heap.size ≤ b ∧ b < w2.heap.size) (hQ : Quads w2 b 0 ss) (hR : Room w2 b 24) :
    Mv w (w2.setCell ⟨A .gs, g * 3 + 2, none⟩ (.slice (some ⟨b, 0, none⟩) 6 c)) M N n A (upd A (.shd g) b) (setG h' g (withS (gOf h' g) ss)) := by
  have a2 := a.below hN hB
  have hlo := a.lo
  have hhi := a.hi
  have kS := a2.sep.newShd (c := c) (g := g) (by rw [a.len]; exact hg) hz (b := b) ⟨by omega, hb.2⟩ (fun x hx => by have := (a.sep.low x hx).2; omega) hQ hR
  have lF := a2.sep.low .gs trivial
  refine ⟨upd_ne _ _ (by intro e; cases e), upd_ne _ _ (by intro e; cases e), upd_ne _ _ (by intro e; cases e), fun x hx => ?_, kS, by rw [setG_len]; exact a.len, a2.bel.setCell (p := ⟨A .gs, g * 3 + 2, none⟩) lF.1 _, fun j hj hx => ?_, hlo, by rw [World.size_setCell]; exact a2.hi⟩
  · by_cases e : x = .shd g
    · right; rw [e, upd_same]; omega
    · left; exact ⟨x, hx, upd_ne _ _ e⟩
  · rw [Below.heap_setCell _ _ _ _ (by simpa using (hx .gs trivial).symm)]
    exact a2.keep j hj hx

set_option maxRecDepth 100000 in
set_option maxHeartbeats 8000000 in
theorem forgetMv14 (N : Nat) (A : Pl → Nat) (h : Hst) (g : Nat) (n cf cg : Nat) (w : World) (k : SepH w N A h) (hn : h.guests.length = n) (hg : g < n) (hN : N ≤ w.heap.size) :
    Calls Try.prog 73 #[.agg #[.slice (some ⟨A .fr, 0, none⟩) 8 cf, .slice (some ⟨A .gs, 0, none⟩) n cg, .int .i64 h.hand], .int .i64 g] w fun e w' => e = .returned (.agg #[.slice (some ⟨A .fr, 0, none⟩) 8 cf, .slice (some ⟨A .gs, 0, none⟩) n cg, .int .i64 h.hand]) ∧ ∃ A', Mv w w' w.heap.size N n A A' (forgP h g) := by
  obtain ⟨mk24, h24⟩ : ∃ c, c = madeCells #[.bool false, .int .i64 0, .int .i64 0, .bool false] 24 := ⟨_, rfl⟩
  have hb24 : ∀ (V : World) (b : Nat), V.heap.size = b → MadeQ (V.alloc (.cells mk24 49)) b := fun V b e => by rw [h24]; exact madeQ_of V e
  have hm2 : ∀ w : World, (Instr.makeSlice 37 (.int .i64 6) (.int .i64 6)).run Try.prog w = .ok (.slice (some ⟨w.heap.size, 0, none⟩) 6 6) (w.alloc (.cells mk24 49)) := fun w => by rw [h24]; exact make_shades 6 (by omega) w
  clear h24
  obtain ⟨W2, hW2⟩ : ∃ W2, W2 = (w.alloc (.cells #[.slice (some ⟨A .fr, 0, none⟩) 8 cf, .slice (some ⟨A .gs, 0, none⟩) n cg, .int .i64 h.hand] 26)).alloc (.cells #[.slice none 0 0, .slice none 0 0, .int .i64 0] 26) := ⟨_, rfl⟩
  have B2 : Below w.heap.size w W2 := by rw [hW2]; exact ((Below.refl _ _).alloc (Nat.le_refl _) _).alloc (by simp) _
  have s2 : W2.heap.size = w.heap.size + 2 := by rw [hW2]; simp
  have p2 : Var3 W2 w.heap.size (.slice (some ⟨A .fr, 0, none⟩) 8 cf) (.slice (some ⟨A .gs, 0, none⟩) n cg) (.int .i64 h.hand) := by rw [hW2]; exact (var3_new w _ _ _ _).allocK _
  have r2 : Var3 W2 (w.heap.size + 1) (.slice none 0 0) (.slice none 0 0) (.int .i64 0) := by rw [hW2]; exact var3_newK (by simp)
  have hAl : ∀ x, x.ok n → A x < w.heap.size := fun x hx => (k.low x (by rw [hn]; exact hx)).2
  have m2 : Mv w W2 (w.heap.size + 2) N n A A h := Mv.start k hn B2 hN (Nat.le_add_right _ _) (by omega)
  obtain ⟨⟨vt, ht⟩, ft⟩ := (m2.sep.held .gs trivial).2 (g * 3 + 2) (by omega)
  obtain ⟨x0, x1, x2, _, _, _⟩ := p2
  obtain ⟨y0, y1, y2, z0, z1, z2⟩ := r2
  have hl3 : w.heap.size + 1 < W2.heap.size := by omega
  have hl1 : w.heap.size < W2.heap.size := by omega
  have lG0 := hAl .gs trivial
  have lG2 : A .gs < W2.heap.size := by omega
  have hgi : (g : Int) < (n : Int) := by omega
  have hne1 : A .gs ≠ w.heap.size := by omega
  have hne2 : A .gs ≠ w.heap.size + 1 := by omega
  have hQ := hb24 W2 W2.heap.size rfl
  have M3 := m2.newShd (g := g) (c := 6) hg (b := W2.heap.size) (ss := List.replicate 6 noS) (by simp) ((Below.refl W2.heap.size W2).alloc (Nat.le_refl _) (.cells mk24 49)) hN ⟨Nat.le_refl _, by simp⟩ hQ.1 hQ.2
  have M4 := ((M3.off3 hAl (b := w.heap.size + 1) (by omega) (by omega) hN (.slice (some ⟨A .fr, 0, none⟩) 8 cf) (.slice (some ⟨A .gs, 0, none⟩) n cg) (.int .i64 h.hand)).below hN ((Below.refl _ _).drew)).weak (Nat.le_refl _) (by omega)
  rw [World.setCell_alloc_past _ _ _ _ lG2, World.setCell_alloc_past _ _ _ _ (by simpa using hl3), World.setCell_alloc_past _ _ _ _ (by simpa using hl3), World.setCell_alloc_past _ _ _ _ (by simpa using hl3)] at M4
  have M4 := hidE M4
  replace s2 := hidE s2
  clear M3 hQ m2 k B2 hAl hn
  go_enter Try.func73, Try.ntmps73
  go_wp2_with (fail)
  rw [← hW2]
  clear hW2
  go_region_with (fail)
  all_goals go_wp2_with fail
  all_goals
    refine bodyPost_ret (v := .agg #[.slice (some ⟨A .fr, 0, none⟩) 8 cf, .slice (some ⟨A .gs, 0, none⟩) n cg, .int .i64 h.hand]) (by simp [results, Try.results73, go_sem, *]) rfl ?_
    exact ⟨rfl, _, M4.out⟩
end Go.Proofs.Ytjegndgdpmlbaaa

/-
  What the given l21Guest does: an act of a guest's own, on a host in place.
-/
set_option linter.unusedSimpArgs false
namespace Go.Proofs.Ytjegndgdpmlbaaa
open Go.RowKit
attribute [local go_sem ↓] Go.wp_at_zero Go.wp_at_succ

/-- The end of a call on a host: the answer goes into a variable of the caller's own. -/
theorem mv_end {w W w' : World} {N n R : Nat} {A A' : Pl → Nat} {h h' : Hst} (m : Mv w W W.heap.size N n A A h) (hAl : ∀ x, x.ok n → A x < w.heap.size) (hN : N ≤ w.heap.size) (hR1 : w.heap.size ≤ R) (hR2 : R < W.heap.size) {u v z : Value} (r : Var3 W R u v z) (b : Mv W w' W.heap.size N n A A' h') :
    Var3 w' R u v z ∧ R < w'.heap.size ∧ Hid (∀ x y t, Mv w (((w'.setCell ⟨R, 0, none⟩ x).setCell ⟨R, 1, none⟩ y).setCell ⟨R, 2, none⟩ t) w.heap.size N n A A' h') := by
  have e := m.own hAl b hR1 hR2
  have m' := m.call hAl b
  have hs := b.size
  exact ⟨r.same e, by omega, fun x y t => (m'.off3 hAl hR1 hR2 hN x y t).weak (Nat.le_refl _) (by omega)⟩
/-- The cells of an act. -/
def C5r (w : World) (b : Nat) (a0 a1 a2 a3 a4 : Int) : Prop :=
  w.cell? ⟨b, 0, none⟩ = some (.int .i64 a0) ∧ w.cell? ⟨b, 1, none⟩ = some (.int .i64 a1) ∧ w.cell? ⟨b, 2, none⟩ = some (.int .i64 a2) ∧ w.cell? ⟨b, 3, none⟩ = some (.int .i64 a3) ∧ w.cell? ⟨b, 4, none⟩ = some (.int .i64 a4)
theorem C5r.below {w w' : World} {b N : Nat} {a0 a1 a2 a3 a4 : Int} (h : C5r w b a0 a1 a2 a3 a4) (B : Below N w w') (hb : b < N) : C5r w' b a0 a1 a2 a3 a4 :=
  ⟨(B.cell (p := ⟨b, 0, none⟩) hb).trans h.1, (B.cell (p := ⟨b, 1, none⟩) hb).trans h.2.1, (B.cell (p := ⟨b, 2, none⟩) hb).trans h.2.2.1, (B.cell (p := ⟨b, 3, none⟩) hb).trans h.2.2.2.1, (B.cell (p := ⟨b, 4, none⟩) hb).trans h.2.2.2.2⟩
/-- The frame of a call with a host and an act. -/
theorem act_frame (N : Nat) (A : Pl → Nat) (h : Hst) (a0 a1 a2 a3 a4 : Int) (n cf cg : Nat) (w : World) (k : SepH w N A h) (hn : h.guests.length = n) (hN : N ≤ w.heap.size) :
    ∃ W, W = ((w.alloc (.cells #[.slice (some ⟨A .fr, 0, none⟩) 8 cf, .slice (some ⟨A .gs, 0, none⟩) n cg, .int .i64 h.hand] 26)).alloc (.cells #[.int .i64 a0, .int .i64 a1, .int .i64 a2, .int .i64 a3, .int .i64 a4] 119)).alloc (.cells #[.slice none 0 0, .slice none 0 0, .int .i64 0] 26) ∧ (w.heap.size + 2 < W.heap.size ∧ W.heap.size ≤ w.heap.size + 3) ∧ Mv w W W.heap.size N n A A h ∧
      Var3 W w.heap.size (.slice (some ⟨A .fr, 0, none⟩) 8 cf) (.slice (some ⟨A .gs, 0, none⟩) n cg) (.int .i64 h.hand) ∧ C5r W (w.heap.size + 1) a0 a1 a2 a3 a4 ∧ Var3 W (w.heap.size + 2) (.slice none 0 0) (.slice none 0 0) (.int .i64 0) := by
  refine ⟨_, rfl, ⟨by simp, by simp⟩, Mv.start k hn ?_ hN (by simp; omega) (Nat.le_refl _), ((var3_new w _ _ _ _).allocK _).allocK _, ?_, var3_newK (by simp)⟩
  · exact (((Below.refl _ _).alloc (Nat.le_refl _) _).alloc (by simp) _).alloc (by simp; omega) _
  · have hb : C5r ((w.alloc (.cells #[.slice (some ⟨A .fr, 0, none⟩) 8 cf, .slice (some ⟨A .gs, 0, none⟩) n cg, .int .i64 h.hand] 26)).alloc (.cells #[.int .i64 a0, .int .i64 a1, .int .i64 a2, .int .i64 a3, .int .i64 a4] 119)) (w.heap.size + 1) a0 a1 a2 a3 a4 := by
      unfold C5r
      simp
    exact hb.below ((Below.refl _ _).alloc (Nat.le_refl _) _) (by simp)

set_option maxRecDepth 100000 in
set_option maxHeartbeats 4000000 in
theorem specGuest_forget (N : Nat) (A : Pl → Nat) (h : Hst) (g : Nat) (a2 a3 a4 : Int) (n cf cg : Nat) (w : World) (k : SepH w N A h) (_kk : OkH h) (hn : h.guests.length = n) (hN : N ≤ w.heap.size) (hg : g < n) :
    Calls Try.prog 113 #[.agg #[.slice (some ⟨A .fr, 0, none⟩) 8 cf, .slice (some ⟨A .gs, 0, none⟩) n cg, .int .i64 h.hand], .agg #[.int .i64 5, .int .i64 g, .int .i64 a2, .int .i64 a3, .int .i64 a4]] w fun e w' => e = .returned (.tuple #[.agg #[.slice (some ⟨A .fr, 0, none⟩) 8 cf, .slice (some ⟨A .gs, 0, none⟩) n cg, .int .i64 (forgP h g).hand], .int .i64 (0)]) ∧ ∃ A', Mv w w' w.heap.size N n A A' (forgP h g) := by
  obtain ⟨W3, hW3, ⟨s3, s3'⟩, m3, p3, c3, r3⟩ := act_frame N A h (5) (g) (a2) (a3) (a4) n cf cg w k hn hN
  have hAl : ∀ x, x.ok n → A x < w.heap.size := fun x hx => (k.low x (by rw [hn]; exact hx)).2
  have hI := fun w => specIn a4 0 63 w
  have hwb : ∃ b, b = (decide (0 ≤ a4) && decide (a4 ≤ 63)) := ⟨_, rfl⟩
  obtain ⟨wb, hwb⟩ := hwb
  rw [← hwb] at hI
  clear hwb
  have hcall := forgetMv14 N A h g n cf cg W3 m3.sep hn hg (by omega)
  obtain ⟨x0, x1, x2, _, _, _⟩ := p3
  obtain ⟨y0, y1, y2, y3, y4⟩ := c3
  have l0 : w.heap.size < W3.heap.size := by omega
  have l1 : w.heap.size + 1 < W3.heap.size := by omega
  have Hm := hidE m3
  have Hr := hidE r3
  have Hs := hidE (And.intro s3 s3')
  clear m3 r3 k
  go_enter Try.func113, Try.ntmps113
  go_wp2_with (fail)
  rw [← hW3]
  clear hW3
  refine (hI _).mono ?_
  rintro e w1 ⟨rfl, rfl⟩
  clear hI
  go_wp2_with (fail)
  refine hcall.mono ?_
  rintro e w4 ⟨rfl, A1, M4⟩
  obtain ⟨r4, l4, Mz⟩ := mv_end Hm.out hAl hN (R := w.heap.size + 2) (by omega) (by omega) Hr.out M4
  obtain ⟨q0, q1, q2, f0, f1, f2⟩ := r4
  clear hcall M4 Hm Hr hAl x0 x1 x2 y0 y1 y2 y3 y4
  go_wp2
  refine bodyPost_ret (v := .tuple #[.agg #[.slice (some ⟨A .fr, 0, none⟩) 8 cf, .slice (some ⟨A .gs, 0, none⟩) n cg, .int .i64 h.hand], .int .i64 (0)]) (by simp [results, Try.results113, go_sem, *]) rfl ?_
  exact ⟨rfl, A1, Mz.out _ _ _⟩

set_option maxRecDepth 100000 in
set_option maxHeartbeats 4000000 in
theorem specGuest_page (N : Nat) (A : Pl → Nat) (h : Hst) (a0 a1 a2 a3 a4 : Int) (n cf cg : Nat) (w : World) (k : SepH w N A h) (_kk : OkH h) (hn : h.guests.length = n) (hN : N ≤ w.heap.size) (h5 : (a0 == 5) = false) (hp : inI a2 0 5 = false) :
    Calls Try.prog 113 #[.agg #[.slice (some ⟨A .fr, 0, none⟩) 8 cf, .slice (some ⟨A .gs, 0, none⟩) n cg, .int .i64 h.hand], .agg #[.int .i64 a0, .int .i64 a1, .int .i64 a2, .int .i64 a3, .int .i64 a4]] w fun e w' => e = .returned (.tuple #[.agg #[.slice (some ⟨A .fr, 0, none⟩) 8 cf, .slice (some ⟨A .gs, 0, none⟩) n cg, .int .i64 (h).hand], .int .i64 (-3)]) ∧ ∃ A', Mv w w' w.heap.size N n A A' (h) := by
  obtain ⟨W3, hW3, ⟨s3, s3'⟩, m3, p3, c3, r3⟩ := act_frame N A h (a0) (a1) (a2) (a3) (a4) n cf cg w k hn hN
  have hAl : ∀ x, x.ok n → A x < w.heap.size := fun x hx => (k.low x (by rw [hn]; exact hx)).2
  have hI := fun w => specIn a4 0 63 w
  have hwb : ∃ b, b = (decide (0 ≤ a4) && decide (a4 ≤ 63)) := ⟨_, rfl⟩
  obtain ⟨wb, hwb⟩ := hwb
  rw [← hwb] at hI
  clear hwb
  have hP := fun w => specIn a2 0 5 w
  rw [show (decide (0 ≤ a2) && decide (a2 ≤ 5)) = false from hp] at hP
  obtain ⟨x0, x1, x2, _, _, _⟩ := p3
  obtain ⟨y0, y1, y2, y3, y4⟩ := c3
  have l0 : w.heap.size < W3.heap.size := by omega
  have l1 : w.heap.size + 1 < W3.heap.size := by omega
  have Hm := hidE m3
  have Hr := hidE r3
  have Hs := hidE (And.intro s3 s3')
  clear m3 r3 k
  go_enter Try.func113, Try.ntmps113
  go_wp2_with (fail)
  rw [← hW3]
  clear hW3
  refine (hI _).mono ?_
  rintro e w1 ⟨rfl, rfl⟩
  clear hI
  go_wp2_with (fail)
  refine (hP _).mono ?_
  rintro e w1 ⟨rfl, rfl⟩
  clear hP
  obtain ⟨r4, l4, Mz⟩ := mv_end Hm.out hAl hN (R := w.heap.size + 2) (by omega) (by omega) Hr.out (Mv.refl Hm.out.sep hn (by omega))
  obtain ⟨q0, q1, q2, f0, f1, f2⟩ := r4
  clear Hm Hr hAl
  go_wp2
  refine bodyPost_ret (v := .tuple #[.agg #[.slice (some ⟨A .fr, 0, none⟩) 8 cf, .slice (some ⟨A .gs, 0, none⟩) n cg, .int .i64 h.hand], .int .i64 (-3)]) (by simp [results, Try.results113, go_sem, *]) rfl ?_
  exact ⟨rfl, A, Mz.out _ _ _⟩

set_option maxRecDepth 100000 in
set_option maxHeartbeats 4000000 in
theorem specGuest_off (N : Nat) (A : Pl → Nat) (h : Hst) (a0 a1 a2 a3 a4 : Int) (n cf cg : Nat) (w : World) (k : SepH w N A h) (_kk : OkH h) (hn : h.guests.length = n) (hN : N ≤ w.heap.size) (h5 : (a0 == 5) = false) (hp : inI a2 0 5 = true) (ho : inI a3 0 3 = false) :
    Calls Try.prog 113 #[.agg #[.slice (some ⟨A .fr, 0, none⟩) 8 cf, .slice (some ⟨A .gs, 0, none⟩) n cg, .int .i64 h.hand], .agg #[.int .i64 a0, .int .i64 a1, .int .i64 a2, .int .i64 a3, .int .i64 a4]] w fun e w' => e = .returned (.tuple #[.agg #[.slice (some ⟨A .fr, 0, none⟩) 8 cf, .slice (some ⟨A .gs, 0, none⟩) n cg, .int .i64 (h).hand], .int .i64 (-3)]) ∧ ∃ A', Mv w w' w.heap.size N n A A' (h) := by
  obtain ⟨W3, hW3, ⟨s3, s3'⟩, m3, p3, c3, r3⟩ := act_frame N A h (a0) (a1) (a2) (a3) (a4) n cf cg w k hn hN
  have hAl : ∀ x, x.ok n → A x < w.heap.size := fun x hx => (k.low x (by rw [hn]; exact hx)).2
  have hI := fun w => specIn a4 0 63 w
  have hwb : ∃ b, b = (decide (0 ≤ a4) && decide (a4 ≤ 63)) := ⟨_, rfl⟩
  obtain ⟨wb, hwb⟩ := hwb
  rw [← hwb] at hI
  clear hwb
  have hP := fun w => specIn a2 0 5 w
  rw [show (decide (0 ≤ a2) && decide (a2 ≤ 5)) = true from hp] at hP
  have hO := fun w => specIn a3 0 3 w
  rw [show (decide (0 ≤ a3) && decide (a3 ≤ 3)) = false from ho] at hO
  obtain ⟨x0, x1, x2, _, _, _⟩ := p3
  obtain ⟨y0, y1, y2, y3, y4⟩ := c3
  have l0 : w.heap.size < W3.heap.size := by omega
  have l1 : w.heap.size + 1 < W3.heap.size := by omega
  have Hm := hidE m3
  have Hr := hidE r3
  have Hs := hidE (And.intro s3 s3')
  clear m3 r3 k
  go_enter Try.func113, Try.ntmps113
  go_wp2_with (fail)
  rw [← hW3]
  clear hW3
  refine (hI _).mono ?_
  rintro e w1 ⟨rfl, rfl⟩
  clear hI
  go_wp2_with (fail)
  refine (hP _).mono ?_
  rintro e w1 ⟨rfl, rfl⟩
  clear hP
  go_wp2_with (fail)
  refine (hO _).mono ?_
  rintro e w1 ⟨rfl, rfl⟩
  clear hO
  obtain ⟨r4, l4, Mz⟩ := mv_end Hm.out hAl hN (R := w.heap.size + 2) (by omega) (by omega) Hr.out (Mv.refl Hm.out.sep hn (by omega))
  obtain ⟨q0, q1, q2, f0, f1, f2⟩ := r4
  clear Hm Hr hAl
  go_wp2
  refine bodyPost_ret (v := .tuple #[.agg #[.slice (some ⟨A .fr, 0, none⟩) 8 cf, .slice (some ⟨A .gs, 0, none⟩) n cg, .int .i64 h.hand], .int .i64 (-3)]) (by simp [results, Try.results113, go_sem, *]) rfl ?_
  exact ⟨rfl, A, Mz.out _ _ _⟩

set_option maxRecDepth 100000 in
set_option maxHeartbeats 4000000 in
theorem specGuest_read (N : Nat) (A : Pl → Nat) (h : Hst) (g p o : Nat) (a4 : Int) (n cf cg : Nat) (w : World) (k : SepH w N A h) (kk : OkH h) (hn : h.guests.length = n) (hN : N ≤ w.heap.size) (hg : g < n) (hp : p < 6) (ho : o < 4) :
    Calls Try.prog 113 #[.agg #[.slice (some ⟨A .fr, 0, none⟩) 8 cf, .slice (some ⟨A .gs, 0, none⟩) n cg, .int .i64 h.hand], .agg #[.int .i64 1, .int .i64 g, .int .i64 p, .int .i64 o, .int .i64 a4]] w fun e w' => e = .returned (.tuple #[.agg #[.slice (some ⟨A .fr, 0, none⟩) 8 cf, .slice (some ⟨A .gs, 0, none⟩) n cg, .int .i64 (inP h g p).hand], .int .i64 (zAt h g p o)]) ∧ ∃ A', Mv w w' w.heap.size N n A A' (inP h g p) := by
  obtain ⟨W3, hW3, ⟨s3, s3'⟩, m3, p3, c3, r3⟩ := act_frame N A h (1) (g) (p) (o) (a4) n cf cg w k hn hN
  have hAl : ∀ x, x.ok n → A x < w.heap.size := fun x hx => (k.low x (by rw [hn]; exact hx)).2
  have hI := fun w => specIn a4 0 63 w
  have hwb : ∃ b, b = (decide (0 ≤ a4) && decide (a4 ≤ 63)) := ⟨_, rfl⟩
  obtain ⟨wb, hwb⟩ := hwb
  rw [← hwb] at hI
  clear hwb
  have hP := fun w => specIn (p : Int) 0 5 w
  rw [show (decide (0 ≤ (p : Int)) && decide ((p : Int) ≤ 5)) = true by simp; omega] at hP
  have hO := fun w => specIn (o : Int) 0 3 w
  rw [show (decide (0 ≤ (o : Int)) && decide ((o : Int) ≤ 3)) = true by simp; omega] at hO
  have hcall := specRead14 N A h g p o n cf cg W3 m3.sep kk hn hg hp ho (by omega)
  obtain ⟨x0, x1, x2, _, _, _⟩ := p3
  obtain ⟨y0, y1, y2, y3, y4⟩ := c3
  have l0 : w.heap.size < W3.heap.size := by omega
  have l1 : w.heap.size + 1 < W3.heap.size := by omega
  have Hm := hidE m3
  have Hr := hidE r3
  have Hs := hidE (And.intro s3 s3')
  clear m3 r3 k
  go_enter Try.func113, Try.ntmps113
  go_wp2_with (fail)
  rw [← hW3]
  clear hW3
  refine (hI _).mono ?_
  rintro e w1 ⟨rfl, rfl⟩
  clear hI
  go_wp2_with (fail)
  refine (hP _).mono ?_
  rintro e w1 ⟨rfl, rfl⟩
  clear hP
  go_wp2_with (fail)
  refine (hO _).mono ?_
  rintro e w1 ⟨rfl, rfl⟩
  clear hO
  go_wp2_with (fail)
  refine hcall.mono ?_
  rintro e w4 ⟨rfl, A1, M4⟩
  obtain ⟨r4, l4, Mz⟩ := mv_end Hm.out hAl hN (R := w.heap.size + 2) (by omega) (by omega) Hr.out M4
  obtain ⟨q0, q1, q2, f0, f1, f2⟩ := r4
  clear hcall M4 Hm Hr hAl x0 x1 x2 y0 y1 y2 y3 y4
  go_wp2
  refine bodyPost_ret (v := .tuple #[.agg #[.slice (some ⟨A .fr, 0, none⟩) 8 cf, .slice (some ⟨A .gs, 0, none⟩) n cg, .int .i64 (inP h g p).hand], .int .i64 (zAt h g p o)]) (by simp [results, Try.results113, go_sem, *]) rfl ?_
  exact ⟨rfl, A1, Mz.out _ _ _⟩

set_option maxRecDepth 100000 in
set_option maxHeartbeats 4000000 in
theorem specGuest_readin (N : Nat) (A : Pl → Nat) (h : Hst) (g p o : Nat) (a4 : Int) (n cf cg : Nat) (w : World) (k : SepH w N A h) (kk : OkH h) (hn : h.guests.length = n) (hN : N ≤ w.heap.size) (hg : g < n) (hp : p < 6) (ho : o < 4) :
    Calls Try.prog 113 #[.agg #[.slice (some ⟨A .fr, 0, none⟩) 8 cf, .slice (some ⟨A .gs, 0, none⟩) n cg, .int .i64 h.hand], .agg #[.int .i64 3, .int .i64 g, .int .i64 p, .int .i64 o, .int .i64 a4]] w fun e w' => e = .returned (.tuple #[.agg #[.slice (some ⟨A .fr, 0, none⟩) 8 cf, .slice (some ⟨A .gs, 0, none⟩) n cg, .int .i64 (rinH h g p).hand], .int .i64 (rinG h g p o)]) ∧ ∃ A', Mv w w' w.heap.size N n A A' (rinH h g p) := by
  obtain ⟨W3, hW3, ⟨s3, s3'⟩, m3, p3, c3, r3⟩ := act_frame N A h (3) (g) (p) (o) (a4) n cf cg w k hn hN
  have hAl : ∀ x, x.ok n → A x < w.heap.size := fun x hx => (k.low x (by rw [hn]; exact hx)).2
  have hI := fun w => specIn a4 0 63 w
  have hwb : ∃ b, b = (decide (0 ≤ a4) && decide (a4 ≤ 63)) := ⟨_, rfl⟩
  obtain ⟨wb, hwb⟩ := hwb
  rw [← hwb] at hI
  clear hwb
  have hP := fun w => specIn (p : Int) 0 5 w
  rw [show (decide (0 ≤ (p : Int)) && decide ((p : Int) ≤ 5)) = true by simp; omega] at hP
  have hO := fun w => specIn (o : Int) 0 3 w
  rw [show (decide (0 ≤ (o : Int)) && decide ((o : Int) ≤ 3)) = true by simp; omega] at hO
  have hcall := specReadIn14 N A h g p o n cf cg W3 m3.sep kk hn hg hp ho (by omega)
  obtain ⟨x0, x1, x2, _, _, _⟩ := p3
  obtain ⟨y0, y1, y2, y3, y4⟩ := c3
  have l0 : w.heap.size < W3.heap.size := by omega
  have l1 : w.heap.size + 1 < W3.heap.size := by omega
  have Hm := hidE m3
  have Hr := hidE r3
  have Hs := hidE (And.intro s3 s3')
  clear m3 r3 k
  go_enter Try.func113, Try.ntmps113
  go_wp2_with (fail)
  rw [← hW3]
  clear hW3
  refine (hI _).mono ?_
  rintro e w1 ⟨rfl, rfl⟩
  clear hI
  go_wp2_with (fail)
  refine (hP _).mono ?_
  rintro e w1 ⟨rfl, rfl⟩
  clear hP
  go_wp2_with (fail)
  refine (hO _).mono ?_
  rintro e w1 ⟨rfl, rfl⟩
  clear hO
  go_wp2_with (fail)
  refine hcall.mono ?_
  rintro e w4 ⟨rfl, A1, M4⟩
  obtain ⟨r4, l4, Mz⟩ := mv_end Hm.out hAl hN (R := w.heap.size + 2) (by omega) (by omega) Hr.out M4
  obtain ⟨q0, q1, q2, f0, f1, f2⟩ := r4
  clear hcall M4 Hm Hr hAl x0 x1 x2 y0 y1 y2 y3 y4
  go_wp2
  refine bodyPost_ret (v := .tuple #[.agg #[.slice (some ⟨A .fr, 0, none⟩) 8 cf, .slice (some ⟨A .gs, 0, none⟩) n cg, .int .i64 (rinH h g p).hand], .int .i64 (rinG h g p o)]) (by simp [results, Try.results113, go_sem, *]) rfl ?_
  exact ⟨rfl, A1, Mz.out _ _ _⟩

set_option maxRecDepth 100000 in
set_option maxHeartbeats 4000000 in
theorem specGuest_write (N : Nat) (A : Pl → Nat) (h : Hst) (g p o : Nat) (a4 : Int) (n cf cg : Nat) (w : World) (k : SepH w N A h) (kk : OkH h) (hn : h.guests.length = n) (hN : N ≤ w.heap.size) (hg : g < n) (hp : p < 6) (ho : o < 4) (hw : inI a4 0 63 = true) :
    Calls Try.prog 113 #[.agg #[.slice (some ⟨A .fr, 0, none⟩) 8 cf, .slice (some ⟨A .gs, 0, none⟩) n cg, .int .i64 h.hand], .agg #[.int .i64 2, .int .i64 g, .int .i64 p, .int .i64 o, .int .i64 a4]] w fun e w' => e = .returned (.tuple #[.agg #[.slice (some ⟨A .fr, 0, none⟩) 8 cf, .slice (some ⟨A .gs, 0, none⟩) n cg, .int .i64 (wrH h g p o a4).hand], .int .i64 (zAt h g p o)]) ∧ ∃ A', Mv w w' w.heap.size N n A A' (wrH h g p o a4) := by
  obtain ⟨W3, hW3, ⟨s3, s3'⟩, m3, p3, c3, r3⟩ := act_frame N A h (2) (g) (p) (o) (a4) n cf cg w k hn hN
  have hAl : ∀ x, x.ok n → A x < w.heap.size := fun x hx => (k.low x (by rw [hn]; exact hx)).2
  have hI := fun w => specIn a4 0 63 w
  rw [show (decide (0 ≤ a4) && decide (a4 ≤ 63)) = true from hw] at hI
  have hP := fun w => specIn (p : Int) 0 5 w
  rw [show (decide (0 ≤ (p : Int)) && decide ((p : Int) ≤ 5)) = true by simp; omega] at hP
  have hO := fun w => specIn (o : Int) 0 3 w
  rw [show (decide (0 ≤ (o : Int)) && decide ((o : Int) ≤ 3)) = true by simp; omega] at hO
  have hcall := specWrite14 N A h g p o a4 n cf cg W3 m3.sep kk hn hg hp ho (by omega)
  obtain ⟨x0, x1, x2, _, _, _⟩ := p3
  obtain ⟨y0, y1, y2, y3, y4⟩ := c3
  have l0 : w.heap.size < W3.heap.size := by omega
  have l1 : w.heap.size + 1 < W3.heap.size := by omega
  have Hm := hidE m3
  have Hr := hidE r3
  have Hs := hidE (And.intro s3 s3')
  clear m3 r3 k
  go_enter Try.func113, Try.ntmps113
  go_wp2_with (fail)
  rw [← hW3]
  clear hW3
  refine (hI _).mono ?_
  rintro e w1 ⟨rfl, rfl⟩
  clear hI
  go_wp2_with (fail)
  refine (hP _).mono ?_
  rintro e w1 ⟨rfl, rfl⟩
  clear hP
  go_wp2_with (fail)
  refine (hO _).mono ?_
  rintro e w1 ⟨rfl, rfl⟩
  clear hO
  go_wp2_with (fail)
  refine hcall.mono ?_
  rintro e w4 ⟨rfl, A1, M4⟩
  obtain ⟨r4, l4, Mz⟩ := mv_end Hm.out hAl hN (R := w.heap.size + 2) (by omega) (by omega) Hr.out M4
  obtain ⟨q0, q1, q2, f0, f1, f2⟩ := r4
  clear hcall M4 Hm Hr hAl x0 x1 x2 y0 y1 y2 y3 y4
  go_wp2
  refine bodyPost_ret (v := .tuple #[.agg #[.slice (some ⟨A .fr, 0, none⟩) 8 cf, .slice (some ⟨A .gs, 0, none⟩) n cg, .int .i64 (wrH h g p o a4).hand], .int .i64 (zAt h g p o)]) (by simp [results, Try.results113, go_sem, *]) rfl ?_
  exact ⟨rfl, A1, Mz.out _ _ _⟩

set_option maxRecDepth 100000 in
set_option maxHeartbeats 4000000 in
theorem specGuest_nowrite (N : Nat) (A : Pl → Nat) (h : Hst) (g p o : Nat) (a4 : Int) (n cf cg : Nat) (w : World) (k : SepH w N A h) (_kk : OkH h) (hn : h.guests.length = n) (hN : N ≤ w.heap.size) (hp : p < 6) (ho : o < 4) (hw : inI a4 0 63 = false) :
    Calls Try.prog 113 #[.agg #[.slice (some ⟨A .fr, 0, none⟩) 8 cf, .slice (some ⟨A .gs, 0, none⟩) n cg, .int .i64 h.hand], .agg #[.int .i64 2, .int .i64 g, .int .i64 p, .int .i64 o, .int .i64 a4]] w fun e w' => e = .returned (.tuple #[.agg #[.slice (some ⟨A .fr, 0, none⟩) 8 cf, .slice (some ⟨A .gs, 0, none⟩) n cg, .int .i64 (h).hand], .int .i64 (-3)]) ∧ ∃ A', Mv w w' w.heap.size N n A A' (h) := by
  obtain ⟨W3, hW3, ⟨s3, s3'⟩, m3, p3, c3, r3⟩ := act_frame N A h (2) (g) (p) (o) (a4) n cf cg w k hn hN
  have hAl : ∀ x, x.ok n → A x < w.heap.size := fun x hx => (k.low x (by rw [hn]; exact hx)).2
  have hI := fun w => specIn a4 0 63 w
  rw [show (decide (0 ≤ a4) && decide (a4 ≤ 63)) = false from hw] at hI
  have hP := fun w => specIn (p : Int) 0 5 w
  rw [show (decide (0 ≤ (p : Int)) && decide ((p : Int) ≤ 5)) = true by simp; omega] at hP
  have hO := fun w => specIn (o : Int) 0 3 w
  rw [show (decide (0 ≤ (o : Int)) && decide ((o : Int) ≤ 3)) = true by simp; omega] at hO
  obtain ⟨x0, x1, x2, _, _, _⟩ := p3
  obtain ⟨y0, y1, y2, y3, y4⟩ := c3
  have l0 : w.heap.size < W3.heap.size := by omega
  have l1 : w.heap.size + 1 < W3.heap.size := by omega
  have Hm := hidE m3
  have Hr := hidE r3
  have Hs := hidE (And.intro s3 s3')
  clear m3 r3 k
  go_enter Try.func113, Try.ntmps113
  go_wp2_with (fail)
  rw [← hW3]
  clear hW3
  refine (hI _).mono ?_
  rintro e w1 ⟨rfl, rfl⟩
  clear hI
  go_wp2_with (fail)
  refine (hP _).mono ?_
  rintro e w1 ⟨rfl, rfl⟩
  clear hP
  go_wp2_with (fail)
  refine (hO _).mono ?_
  rintro e w1 ⟨rfl, rfl⟩
  clear hO
  obtain ⟨r4, l4, Mz⟩ := mv_end Hm.out hAl hN (R := w.heap.size + 2) (by omega) (by omega) Hr.out (Mv.refl Hm.out.sep hn (by omega))
  obtain ⟨q0, q1, q2, f0, f1, f2⟩ := r4
  clear Hm Hr hAl
  go_wp2
  refine bodyPost_ret (v := .tuple #[.agg #[.slice (some ⟨A .fr, 0, none⟩) 8 cf, .slice (some ⟨A .gs, 0, none⟩) n cg, .int .i64 h.hand], .int .i64 (-3)]) (by simp [results, Try.results113, go_sem, *]) rfl ?_
  exact ⟨rfl, A, Mz.out _ _ _⟩

set_option maxRecDepth 100000 in
set_option maxHeartbeats 4000000 in
theorem specGuest_writein (N : Nat) (A : Pl → Nat) (h : Hst) (g p o : Nat) (a4 : Int) (n cf cg : Nat) (w : World) (k : SepH w N A h) (kk : OkH h) (hn : h.guests.length = n) (hN : N ≤ w.heap.size) (hg : g < n) (hp : p < 6) (ho : o < 4) (hw : inI a4 0 63 = true) :
    Calls Try.prog 113 #[.agg #[.slice (some ⟨A .fr, 0, none⟩) 8 cf, .slice (some ⟨A .gs, 0, none⟩) n cg, .int .i64 h.hand], .agg #[.int .i64 4, .int .i64 g, .int .i64 p, .int .i64 o, .int .i64 a4]] w fun e w' => e = .returned (.tuple #[.agg #[.slice (some ⟨A .fr, 0, none⟩) 8 cf, .slice (some ⟨A .gs, 0, none⟩) n cg, .int .i64 (winH h g p o a4).hand], .int .i64 (winG h g p o)]) ∧ ∃ A', Mv w w' w.heap.size N n A A' (winH h g p o a4) := by
  obtain ⟨W3, hW3, ⟨s3, s3'⟩, m3, p3, c3, r3⟩ := act_frame N A h (4) (g) (p) (o) (a4) n cf cg w k hn hN
  have hAl : ∀ x, x.ok n → A x < w.heap.size := fun x hx => (k.low x (by rw [hn]; exact hx)).2
  have hI := fun w => specIn a4 0 63 w
  rw [show (decide (0 ≤ a4) && decide (a4 ≤ 63)) = true from hw] at hI
  have hP := fun w => specIn (p : Int) 0 5 w
  rw [show (decide (0 ≤ (p : Int)) && decide ((p : Int) ≤ 5)) = true by simp; omega] at hP
  have hO := fun w => specIn (o : Int) 0 3 w
  rw [show (decide (0 ≤ (o : Int)) && decide ((o : Int) ≤ 3)) = true by simp; omega] at hO
  have hcall := specWriteIn14 N A h g p o a4 n cf cg W3 m3.sep kk hn hg hp ho (by omega)
  obtain ⟨x0, x1, x2, _, _, _⟩ := p3
  obtain ⟨y0, y1, y2, y3, y4⟩ := c3
  have l0 : w.heap.size < W3.heap.size := by omega
  have l1 : w.heap.size + 1 < W3.heap.size := by omega
  have Hm := hidE m3
  have Hr := hidE r3
  have Hs := hidE (And.intro s3 s3')
  clear m3 r3 k
  go_enter Try.func113, Try.ntmps113
  go_wp2_with (fail)
  rw [← hW3]
  clear hW3
  refine (hI _).mono ?_
  rintro e w1 ⟨rfl, rfl⟩
  clear hI
  go_wp2_with (fail)
  refine (hP _).mono ?_
  rintro e w1 ⟨rfl, rfl⟩
  clear hP
  go_wp2_with (fail)
  refine (hO _).mono ?_
  rintro e w1 ⟨rfl, rfl⟩
  clear hO
  go_wp2_with (fail)
  refine hcall.mono ?_
  rintro e w4 ⟨rfl, A1, M4⟩
  obtain ⟨r4, l4, Mz⟩ := mv_end Hm.out hAl hN (R := w.heap.size + 2) (by omega) (by omega) Hr.out M4
  obtain ⟨q0, q1, q2, f0, f1, f2⟩ := r4
  clear hcall M4 Hm Hr hAl x0 x1 x2 y0 y1 y2 y3 y4
  go_wp2
  refine bodyPost_ret (v := .tuple #[.agg #[.slice (some ⟨A .fr, 0, none⟩) 8 cf, .slice (some ⟨A .gs, 0, none⟩) n cg, .int .i64 (winH h g p o a4).hand], .int .i64 (winG h g p o)]) (by simp [results, Try.results113, go_sem, *]) rfl ?_
  exact ⟨rfl, A1, Mz.out _ _ _⟩

set_option maxRecDepth 100000 in
set_option maxHeartbeats 4000000 in
theorem specGuest_nowritein (N : Nat) (A : Pl → Nat) (h : Hst) (g p o : Nat) (a4 : Int) (n cf cg : Nat) (w : World) (k : SepH w N A h) (_kk : OkH h) (hn : h.guests.length = n) (hN : N ≤ w.heap.size) (hp : p < 6) (ho : o < 4) (hw : inI a4 0 63 = false) :
    Calls Try.prog 113 #[.agg #[.slice (some ⟨A .fr, 0, none⟩) 8 cf, .slice (some ⟨A .gs, 0, none⟩) n cg, .int .i64 h.hand], .agg #[.int .i64 4, .int .i64 g, .int .i64 p, .int .i64 o, .int .i64 a4]] w fun e w' => e = .returned (.tuple #[.agg #[.slice (some ⟨A .fr, 0, none⟩) 8 cf, .slice (some ⟨A .gs, 0, none⟩) n cg, .int .i64 (h).hand], .int .i64 (-3)]) ∧ ∃ A', Mv w w' w.heap.size N n A A' (h) := by
  obtain ⟨W3, hW3, ⟨s3, s3'⟩, m3, p3, c3, r3⟩ := act_frame N A h (4) (g) (p) (o) (a4) n cf cg w k hn hN
  have hAl : ∀ x, x.ok n → A x < w.heap.size := fun x hx => (k.low x (by rw [hn]; exact hx)).2
  have hI := fun w => specIn a4 0 63 w
  rw [show (decide (0 ≤ a4) && decide (a4 ≤ 63)) = false from hw] at hI
  have hP := fun w => specIn (p : Int) 0 5 w
  rw [show (decide (0 ≤ (p : Int)) && decide ((p : Int) ≤ 5)) = true by simp; omega] at hP
  have hO := fun w => specIn (o : Int) 0 3 w
  rw [show (decide (0 ≤ (o : Int)) && decide ((o : Int) ≤ 3)) = true by simp; omega] at hO
  obtain ⟨x0, x1, x2, _, _, _⟩ := p3
  obtain ⟨y0, y1, y2, y3, y4⟩ := c3
  have l0 : w.heap.size < W3.heap.size := by omega
  have l1 : w.heap.size + 1 < W3.heap.size := by omega
  have Hm := hidE m3
  have Hr := hidE r3
  have Hs := hidE (And.intro s3 s3')
  clear m3 r3 k
  go_enter Try.func113, Try.ntmps113
  go_wp2_with (fail)
  rw [← hW3]
  clear hW3
  refine (hI _).mono ?_
  rintro e w1 ⟨rfl, rfl⟩
  clear hI
  go_wp2_with (fail)
  refine (hP _).mono ?_
  rintro e w1 ⟨rfl, rfl⟩
  clear hP
  go_wp2_with (fail)
  refine (hO _).mono ?_
  rintro e w1 ⟨rfl, rfl⟩
  clear hO
  obtain ⟨r4, l4, Mz⟩ := mv_end Hm.out hAl hN (R := w.heap.size + 2) (by omega) (by omega) Hr.out (Mv.refl Hm.out.sep hn (by omega))
  obtain ⟨q0, q1, q2, f0, f1, f2⟩ := r4
  clear Hm Hr hAl
  go_wp2
  refine bodyPost_ret (v := .tuple #[.agg #[.slice (some ⟨A .fr, 0, none⟩) 8 cf, .slice (some ⟨A .gs, 0, none⟩) n cg, .int .i64 h.hand], .int .i64 (-3)]) (by simp [results, Try.results113, go_sem, *]) rfl ?_
  exact ⟨rfl, A, Mz.out _ _ _⟩

/-- What the given l21Guest does. -/
theorem specGuest21 (N : Nat) (A : Pl → Nat) (h : Hst) (a0 a1 a2 a3 a4 : Int) (n cf cg : Nat) (w : World) (k : SepH w N A h) (kk : OkH h) (hn : h.guests.length = n) (hN : N ≤ w.heap.size) (hg : actG h (a0, a1, a2, a3, a4) = true) (ho : ownA (a0, a1, a2, a3, a4) = true) :
    Calls Try.prog 113 #[.agg #[.slice (some ⟨A .fr, 0, none⟩) 8 cf, .slice (some ⟨A .gs, 0, none⟩) n cg, .int .i64 h.hand], .agg #[.int .i64 a0, .int .i64 a1, .int .i64 a2, .int .i64 a3, .int .i64 a4]] w fun e w' => e = .returned (.tuple #[.agg #[.slice (some ⟨A .fr, 0, none⟩) 8 cf, .slice (some ⟨A .gs, 0, none⟩) n cg, .int .i64 (guestH h (a0, a1, a2, a3, a4)).1.hand], .int .i64 (guestH h (a0, a1, a2, a3, a4)).2]) ∧ ∃ A', Mv w w' w.heap.size N n A A' (guestH h (a0, a1, a2, a3, a4)).1 := by
  obtain ⟨hg0, hg1⟩ := inI_iff.1 hg
  dsimp only at hg0 hg1
  obtain ⟨g, rfl⟩ := Int.eq_ofNat_of_zero_le hg0
  have hgn : g < n := by omega
  have h15 : 1 ≤ a0 ∧ a0 ≤ 5 := by simpa [ownA] using ho
  clear hg hg0 hg1 ho
  by_cases h5 : a0 = 5
  · subst h5
    exact specGuest_forget N A h g a2 a3 a4 n cf cg w k kk hn hN hgn
  · have h5' : (a0 == 5) = false := by simpa using h5
    cases hp : inI a2 0 5
    · have e : guestH h (a0, (g : Int), a2, a3, a4) = (h, -3) := by simp [guestH, placeA, h5', hp]
      rw [e]
      exact specGuest_page N A h a0 g a2 a3 a4 n cf cg w k kk hn hN h5' hp
    · cases hq : inI a3 0 3
      · have e : guestH h (a0, (g : Int), a2, a3, a4) = (h, -3) := by simp [guestH, placeA, h5', hq]
        rw [e]
        exact specGuest_off N A h a0 g a2 a3 a4 n cf cg w k kk hn hN h5' hp hq
      · obtain ⟨p0, p5⟩ := inI_iff.1 hp
        obtain ⟨q0, q3⟩ := inI_iff.1 hq
        obtain ⟨p, rfl⟩ := Int.eq_ofNat_of_zero_le p0
        obtain ⟨o, rfl⟩ := Int.eq_ofNat_of_zero_le q0
        have hp6 : p < 6 := by omega
        have ho4 : o < 4 := by omega
        have hpl : ∀ z : Int, placeA (z, (g : Int), (p : Int), (o : Int), a4) = true := fun z => by simp only [placeA, hp, hq]; rfl
        rcases (by omega : a0 = 1 ∨ a0 = 2 ∨ a0 = 3 ∨ a0 = 4) with e | e | e | e <;> subst e
        · have e : guestH h (1, (g : Int), (p : Int), (o : Int), a4) = (inP h g p, zAt h g p o) := by simp [guestH, hpl]
          rw [e]
          exact specGuest_read N A h g p o a4 n cf cg w k kk hn hN hgn hp6 ho4
        · cases hw : inI a4 0 63
          · have e : guestH h (2, (g : Int), (p : Int), (o : Int), a4) = (h, -3) := by simp [guestH, hpl, wordA, hw]
            rw [e]
            exact specGuest_nowrite N A h g p o a4 n cf cg w k kk hn hN hp6 ho4 hw
          · have e : guestH h (2, (g : Int), (p : Int), (o : Int), a4) = (wrH h g p o a4, zAt h g p o) := by simp [guestH, hpl, wordA, hw]
            rw [e]
            exact specGuest_write N A h g p o a4 n cf cg w k kk hn hN hgn hp6 ho4 hw
        · have e : guestH h (3, (g : Int), (p : Int), (o : Int), a4) = (rinH h g p, rinG h g p o) := by simp [guestH, hpl]
          rw [e]
          exact specGuest_readin N A h g p o a4 n cf cg w k kk hn hN hgn hp6 ho4
        · cases hw : inI a4 0 63
          · have e : guestH h (4, (g : Int), (p : Int), (o : Int), a4) = (h, -3) := by simp [guestH, hpl, wordA, hw]
            rw [e]
            exact specGuest_nowritein N A h g p o a4 n cf cg w k kk hn hN hp6 ho4 hw
          · have e : guestH h (4, (g : Int), (p : Int), (o : Int), a4) = (winH h g p o a4, winG h g p o) := by simp [guestH, hpl, wordA, hw]
            rw [e]
            exact specGuest_writein N A h g p o a4 n cf cg w k kk hn hN hgn hp6 ho4 hw
end Go.Proofs.Ytjegndgdpmlbaaa

/-
  What the given l21Do does: an act on a host in place.
-/
set_option linter.unusedSimpArgs false
namespace Go.Proofs.Ytjegndgdpmlbaaa
open Go.RowKit
attribute [local go_sem ↓] Go.wp_at_zero Go.wp_at_succ

/-- A host in place behind an act: each of its rows is one that was there, or a new one. -/
def Mw (w w' : World) (N n : Nat) (A A' : Pl → Nat) (h' : Hst) : Prop :=
  (∀ x, x.ok n → (∃ y, y.ok n ∧ A' x = A y) ∨ w.heap.size ≤ A' x) ∧ SepH w' N A' h' ∧ h'.guests.length = n ∧ Below N w w' ∧ ∀ j, j < w.heap.size → (∀ x, x.ok n → A x ≠ j) → w'.heap[j]? = w.heap[j]?
theorem Mv.mw {w w' : World} {N n : Nat} {A A' : Pl → Nat} {h' : Hst} (a : Mv w w' w.heap.size N n A A' h') : Mw w w' N n A A' h' := ⟨a.pl, a.sep, a.len, a.bel, a.keep⟩
/-- What room there is behind the guests' row. -/
def Spare (A : Pl → Nat) (n cg : Nat) : Prop := n ≤ cg ∧ A (.maps 9) = (cg - n) * 3
theorem SepH.lower {w : World} {N N' : Nat} {A : Pl → Nat} {h : Hst} (k : SepH w N A h) (hN : N' ≤ N) : SepH w N' A h :=
  ⟨k.n2, k.f8, k.f4, k.sz, k.inj, fun x hx => ⟨Nat.le_trans hN (k.low x hx).1, (k.low x hx).2⟩, k.held⟩
set_option maxHeartbeats 400000 in
theorem specGot (b : Bool) (w : World) : Calls Try.prog 109 #[.bool b] w fun e w' => e = .returned (.int .i64 (bif b then 0 else -3)) ∧ w' = w := by
  cases b
  · go_enter Try.func109, Try.ntmps109
    go_wp2
    go_ret
    exact ⟨rfl, rfl⟩
  · go_enter Try.func109, Try.ntmps109
    go_wp2
    go_ret
    exact ⟨rfl, rfl⟩

set_option maxRecDepth 100000 in
set_option maxHeartbeats 4000000 in
theorem specDo_out (N : Nat) (A : Pl → Nat) (h : Hst) (g p : Nat) (a3 a4 : Int) (n cf cg : Nat) (w : World) (k : SepH w N A h) (kk : OkH h) (hn : h.guests.length = n) (hN : N ≤ w.heap.size) (hg : g < n) (hp : p < 6) :
    Calls Try.prog 100 #[.agg #[.slice (some ⟨A .fr, 0, none⟩) 8 cf, .slice (some ⟨A .gs, 0, none⟩) n cg, .int .i64 h.hand], .agg #[.int .i64 6, .int .i64 g, .int .i64 p, .int .i64 a3, .int .i64 a4]] w fun e w' => e = .returned (.tuple #[.agg #[.slice (some ⟨A .fr, 0, none⟩) 8 cf, .slice (some ⟨A .gs, 0, none⟩) n cg, .int .i64 (outP h g p).hand], .int .i64 (0)]) ∧ ∃ A', Mv w w' w.heap.size N n A A' (outP h g p) := by
  obtain ⟨W3, hW3, ⟨s3, s3'⟩, m3, p3, c3, r3⟩ := act_frame N A h (6) (g) (p) (a3) (a4) n cf cg w k hn hN
  have hAl : ∀ x, x.ok n → A x < w.heap.size := fun x hx => (k.low x (by rw [hn]; exact hx)).2
  have hn2 : n ≤ 2 := by rw [← hn]; exact k.n2
  have hn1 : 1 ≤ n := by rw [← hn]; exact (okHost_frames (okHost_mk kk)).2.2.1
  have e1 : IntKind.i64.wrap ((n : Int) - 1) = (n : Int) - 1 := wrap_small _ (by omega) (by omega)
  have hI := fun w => specIn (g : Int) 0 ((n : Int) - 1) w
  rw [show (decide (0 ≤ (g : Int)) && decide ((g : Int) ≤ (n : Int) - 1)) = true by simp; omega] at hI
  have hP := fun w => specIn (p : Int) 0 5 w
  rw [show (decide (0 ≤ (p : Int)) && decide ((p : Int) ≤ 5)) = true by simp; omega] at hP
  rw [outP_hand]
  have hcall := outMv N A h g p n cf cg W3 m3.sep (okHost_mk kk) hn hg hp (by omega)
  obtain ⟨x0, x1, x2, _, _, _⟩ := p3
  obtain ⟨y0, y1, y2, y3, y4⟩ := c3
  have l0 : w.heap.size < W3.heap.size := by omega
  have l1 : w.heap.size + 1 < W3.heap.size := by omega
  have Hm := hidE m3
  have Hr := hidE r3
  have Hs := hidE (And.intro s3 s3')
  have Hn2 := hidE hn2
  clear m3 r3 k hn2
  go_enter Try.func100, Try.ntmps100
  go_wp2_with (fail)
  rw [← hW3]
  clear hW3
  refine (hI _).mono ?_
  rintro e w1 ⟨rfl, hw1⟩
  rw [hw1]
  clear hI hw1
  go_wp2_with (fail)
  refine (hP _).mono ?_
  rintro e w1 ⟨rfl, hw1⟩
  rw [hw1]
  clear hP hw1
  go_wp2_with (fail)
  refine hcall.mono ?_
  rintro e w4 ⟨rfl, A1, M4⟩
  obtain ⟨r4, l4, Mz⟩ := mv_end Hm.out hAl hN (R := w.heap.size + 2) (by omega) (by omega) Hr.out M4
  obtain ⟨q0, q1, q2, f0, f1, f2⟩ := r4
  clear hcall M4 Hm Hr hAl x0 x1 x2 y0 y1 y2 y3 y4
  go_wp2
  refine bodyPost_ret (v := .tuple #[.agg #[.slice (some ⟨A .fr, 0, none⟩) 8 cf, .slice (some ⟨A .gs, 0, none⟩) n cg, .int .i64 (h.hand)], .int .i64 (0)]) (by simp [results, Try.results100, go_sem, *]) rfl ?_
  exact ⟨rfl, A1, Mz.out _ _ _⟩

set_option maxRecDepth 100000 in
set_option maxHeartbeats 4000000 in
theorem specDo_noout1 (N : Nat) (A : Pl → Nat) (h : Hst) (a1 a2 a3 a4 : Int) (n cf cg : Nat) (w : World) (k : SepH w N A h) (kk : OkH h) (hn : h.guests.length = n) (hN : N ≤ w.heap.size) (hb : inI a1 0 ((n : Int) - 1) = false) :
    Calls Try.prog 100 #[.agg #[.slice (some ⟨A .fr, 0, none⟩) 8 cf, .slice (some ⟨A .gs, 0, none⟩) n cg, .int .i64 h.hand], .agg #[.int .i64 6, .int .i64 a1, .int .i64 a2, .int .i64 a3, .int .i64 a4]] w fun e w' => e = .returned (.tuple #[.agg #[.slice (some ⟨A .fr, 0, none⟩) 8 cf, .slice (some ⟨A .gs, 0, none⟩) n cg, .int .i64 (h).hand], .int .i64 (-3)]) ∧ ∃ A', Mv w w' w.heap.size N n A A' (h) := by
  obtain ⟨W3, hW3, ⟨s3, s3'⟩, m3, p3, c3, r3⟩ := act_frame N A h (6) (a1) (a2) (a3) (a4) n cf cg w k hn hN
  have hAl : ∀ x, x.ok n → A x < w.heap.size := fun x hx => (k.low x (by rw [hn]; exact hx)).2
  have hn2 : n ≤ 2 := by rw [← hn]; exact k.n2
  have hn1 : 1 ≤ n := by rw [← hn]; exact (okHost_frames (okHost_mk kk)).2.2.1
  have e1 : IntKind.i64.wrap ((n : Int) - 1) = (n : Int) - 1 := wrap_small _ (by omega) (by omega)
  have hI := fun w => specIn a1 0 ((n : Int) - 1) w
  rw [show (decide (0 ≤ a1) && decide (a1 ≤ (n : Int) - 1)) = false from hb] at hI
  obtain ⟨x0, x1, x2, _, _, _⟩ := p3
  obtain ⟨y0, y1, y2, y3, y4⟩ := c3
  have l0 : w.heap.size < W3.heap.size := by omega
  have l1 : w.heap.size + 1 < W3.heap.size := by omega
  have Hm := hidE m3
  have Hr := hidE r3
  have Hs := hidE (And.intro s3 s3')
  have Hn2 := hidE hn2
  clear m3 r3 k hn2
  go_enter Try.func100, Try.ntmps100
  go_wp2_with (fail)
  rw [← hW3]
  clear hW3
  refine (hI _).mono ?_
  rintro e w1 ⟨rfl, hw1⟩
  rw [hw1]
  clear hI hw1
  obtain ⟨r4, l4, Mz⟩ := mv_end Hm.out hAl hN (R := w.heap.size + 2) (by omega) (by omega) Hr.out (Mv.refl Hm.out.sep hn (by omega))
  obtain ⟨q0, q1, q2, f0, f1, f2⟩ := r4
  clear Hm Hr hAl
  go_wp2
  refine bodyPost_ret (v := .tuple #[.agg #[.slice (some ⟨A .fr, 0, none⟩) 8 cf, .slice (some ⟨A .gs, 0, none⟩) n cg, .int .i64 h.hand], .int .i64 (-3)]) (by simp [results, Try.results100, go_sem, *]) rfl ?_
  exact ⟨rfl, A, Mz.out _ _ _⟩

set_option maxRecDepth 100000 in
set_option maxHeartbeats 4000000 in
theorem specDo_noout2 (N : Nat) (A : Pl → Nat) (h : Hst) (a1 a2 a3 a4 : Int) (n cf cg : Nat) (w : World) (k : SepH w N A h) (kk : OkH h) (hn : h.guests.length = n) (hN : N ≤ w.heap.size) (hb : inI a1 0 ((n : Int) - 1) = true) (hp : inI a2 0 5 = false) :
    Calls Try.prog 100 #[.agg #[.slice (some ⟨A .fr, 0, none⟩) 8 cf, .slice (some ⟨A .gs, 0, none⟩) n cg, .int .i64 h.hand], .agg #[.int .i64 6, .int .i64 a1, .int .i64 a2, .int .i64 a3, .int .i64 a4]] w fun e w' => e = .returned (.tuple #[.agg #[.slice (some ⟨A .fr, 0, none⟩) 8 cf, .slice (some ⟨A .gs, 0, none⟩) n cg, .int .i64 (h).hand], .int .i64 (-3)]) ∧ ∃ A', Mv w w' w.heap.size N n A A' (h) := by
  obtain ⟨W3, hW3, ⟨s3, s3'⟩, m3, p3, c3, r3⟩ := act_frame N A h (6) (a1) (a2) (a3) (a4) n cf cg w k hn hN
  have hAl : ∀ x, x.ok n → A x < w.heap.size := fun x hx => (k.low x (by rw [hn]; exact hx)).2
  have hn2 : n ≤ 2 := by rw [← hn]; exact k.n2
  have hn1 : 1 ≤ n := by rw [← hn]; exact (okHost_frames (okHost_mk kk)).2.2.1
  have e1 : IntKind.i64.wrap ((n : Int) - 1) = (n : Int) - 1 := wrap_small _ (by omega) (by omega)
  have hI := fun w => specIn a1 0 ((n : Int) - 1) w
  rw [show (decide (0 ≤ a1) && decide (a1 ≤ (n : Int) - 1)) = true from hb] at hI
  have hP := fun w => specIn a2 0 5 w
  rw [show (decide (0 ≤ a2) && decide (a2 ≤ 5)) = false from hp] at hP
  obtain ⟨x0, x1, x2, _, _, _⟩ := p3
  obtain ⟨y0, y1, y2, y3, y4⟩ := c3
  have l0 : w.heap.size < W3.heap.size := by omega
  have l1 : w.heap.size + 1 < W3.heap.size := by omega
  have Hm := hidE m3
  have Hr := hidE r3
  have Hs := hidE (And.intro s3 s3')
  have Hn2 := hidE hn2
  clear m3 r3 k hn2
  go_enter Try.func100, Try.ntmps100
  go_wp2_with (fail)
  rw [← hW3]
  clear hW3
  refine (hI _).mono ?_
  rintro e w1 ⟨rfl, hw1⟩
  rw [hw1]
  clear hI hw1
  go_wp2_with (fail)
  refine (hP _).mono ?_
  rintro e w1 ⟨rfl, hw1⟩
  rw [hw1]
  clear hP hw1
  obtain ⟨r4, l4, Mz⟩ := mv_end Hm.out hAl hN (R := w.heap.size + 2) (by omega) (by omega) Hr.out (Mv.refl Hm.out.sep hn (by omega))
  obtain ⟨q0, q1, q2, f0, f1, f2⟩ := r4
  clear Hm Hr hAl
  go_wp2
  refine bodyPost_ret (v := .tuple #[.agg #[.slice (some ⟨A .fr, 0, none⟩) 8 cf, .slice (some ⟨A .gs, 0, none⟩) n cg, .int .i64 h.hand], .int .i64 (-3)]) (by simp [results, Try.results100, go_sem, *]) rfl ?_
  exact ⟨rfl, A, Mz.out _ _ _⟩

set_option maxRecDepth 100000 in
set_option maxHeartbeats 4000000 in
theorem specDo_join (N : Nat) (A : Pl → Nat) (h : Hst) (a1 a2 a3 a4 : Int) (n cf cg : Nat) (w : World) (k : SepH w N A h) (kk : OkH h) (hn : h.guests.length = n) (hN : N ≤ w.heap.size)  :
    Calls Try.prog 100 #[.agg #[.slice (some ⟨A .fr, 0, none⟩) 8 cf, .slice (some ⟨A .gs, 0, none⟩) n cg, .int .i64 h.hand], .agg #[.int .i64 7, .int .i64 a1, .int .i64 a2, .int .i64 a3, .int .i64 a4]] w fun e w' => e = .returned (.tuple #[.agg #[.slice (some ⟨A .fr, 0, none⟩) 8 cf, .slice (some ⟨A .gs, 0, none⟩) n cg, .int .i64 (joinH h).hand], .int .i64 (bif joinB h then 0 else -3)]) ∧ ∃ A', Mv w w' w.heap.size N n A A' (joinH h) := by
  obtain ⟨W3, hW3, ⟨s3, s3'⟩, m3, p3, c3, r3⟩ := act_frame N A h (7) (a1) (a2) (a3) (a4) n cf cg w k hn hN
  have hAl : ∀ x, x.ok n → A x < w.heap.size := fun x hx => (k.low x (by rw [hn]; exact hx)).2
  have hn2 : n ≤ 2 := by rw [← hn]; exact k.n2
  have hn1 : 1 ≤ n := by rw [← hn]; exact (okHost_frames (okHost_mk kk)).2.2.1
  have e1 : IntKind.i64.wrap ((n : Int) - 1) = (n : Int) - 1 := wrap_small _ (by omega) (by omega)
  have hI := fun w => specIn a1 0 ((n : Int) - 1) w
  obtain ⟨gb, hgb⟩ : ∃ gb, gb = (decide (0 ≤ a1) && decide (a1 ≤ (n : Int) - 1)) := ⟨_, rfl⟩
  rw [← hgb] at hI
  clear hgb
  have hcall := specJoin N A h n cf cg W3 m3.sep kk hn (by omega)
  have hjh : (joinH h).hand = h.hand := joinH_hand kk
  rw [hjh]
  replace hjh := hidE hjh
  obtain ⟨x0, x1, x2, _, _, _⟩ := p3
  obtain ⟨y0, y1, y2, y3, y4⟩ := c3
  have l0 : w.heap.size < W3.heap.size := by omega
  have l1 : w.heap.size + 1 < W3.heap.size := by omega
  have Hm := hidE m3
  have Hr := hidE r3
  have Hs := hidE (And.intro s3 s3')
  have Hn2 := hidE hn2
  clear m3 r3 k hn2
  go_enter Try.func100, Try.ntmps100
  go_wp2_with (fail)
  rw [← hW3]
  clear hW3
  refine (hI _).mono ?_
  rintro e w1 ⟨rfl, hw1⟩
  rw [hw1]
  clear hI hw1
  go_wp2_with (fail)
  refine hcall.mono ?_
  rintro e w4 ⟨rfl, M4⟩
  obtain ⟨r4, l4, Mz⟩ := mv_end Hm.out hAl hN (R := w.heap.size + 2) (by omega) (by omega) Hr.out M4
  have Mz5 := hidE (fun x y t => ((((Hm.out.call hAl M4).off3 hAl (b := w.heap.size + 2) (by omega) (by omega) hN x y t).weak (Nat.le_refl _) (by omega)).below hN ((Below.refl _ _).alloc (Nat.le_refl _) (.cells #[.slice (some ⟨A .fr, 0, none⟩) 8 cf, .slice (some ⟨A .gs, 0, none⟩) n cg, .int .i64 h.hand] 26))).below hN ((Below.refl _ _).drew))
  obtain ⟨q0, q1, q2, f0, f1, f2⟩ := r4
  have hgot := fun w => specGot (joinB h) w
  clear hcall M4 Hm Hr hAl x0 x1 x2 y0 y1 y2 y3 y4 Mz
  go_wp2_with (fail)
  go_region_with (first | (go_at_call 109; refine (hgot _).mono ?_; rintro e w6 ⟨rfl, rfl⟩) | fail)
  all_goals go_wp2
  all_goals
    refine bodyPost_ret (v := .tuple #[.agg #[.slice (some ⟨A .fr, 0, none⟩) 8 cf, .slice (some ⟨A .gs, 0, none⟩) n cg, .int .i64 h.hand], .int .i64 (bif joinB h then 0 else -3)]) (by simp [results, Try.results100, go_sem, *]) rfl ?_
    exact ⟨rfl, _, Mz5.out _ _ _⟩

set_option maxRecDepth 100000 in
set_option maxHeartbeats 4000000 in
theorem specDo_move (N : Nat) (A : Pl → Nat) (h : Hst) (a1 : Int) (f : Nat) (a3 a4 : Int) (n cf cg : Nat) (w : World) (k : SepH w N A h) (kk : OkH h) (hn : h.guests.length = n) (hN : N ≤ w.heap.size) (hf : f < 8) :
    Calls Try.prog 100 #[.agg #[.slice (some ⟨A .fr, 0, none⟩) 8 cf, .slice (some ⟨A .gs, 0, none⟩) n cg, .int .i64 h.hand], .agg #[.int .i64 8, .int .i64 a1, .int .i64 f, .int .i64 a3, .int .i64 a4]] w fun e w' => e = .returned (.tuple #[.agg #[.slice (some ⟨A .fr, 0, none⟩) 8 cf, .slice (some ⟨A .gs, 0, none⟩) n cg, .int .i64 (moveH h f).hand], .int .i64 (bif moveB h f then 0 else -3)]) ∧ ∃ A', Mv w w' w.heap.size N n A A' (moveH h f) := by
  obtain ⟨W3, hW3, ⟨s3, s3'⟩, m3, p3, c3, r3⟩ := act_frame N A h (8) (a1) (f) (a3) (a4) n cf cg w k hn hN
  have hAl : ∀ x, x.ok n → A x < w.heap.size := fun x hx => (k.low x (by rw [hn]; exact hx)).2
  have hn2 : n ≤ 2 := by rw [← hn]; exact k.n2
  have hn1 : 1 ≤ n := by rw [← hn]; exact (okHost_frames (okHost_mk kk)).2.2.1
  have e1 : IntKind.i64.wrap ((n : Int) - 1) = (n : Int) - 1 := wrap_small _ (by omega) (by omega)
  have hI := fun w => specIn a1 0 ((n : Int) - 1) w
  obtain ⟨gb, hgb⟩ : ∃ gb, gb = (decide (0 ≤ a1) && decide (a1 ≤ (n : Int) - 1)) := ⟨_, rfl⟩
  rw [← hgb] at hI
  clear hgb
  have hP := fun w => specIn (f : Int) 0 7 w
  rw [show (decide (0 ≤ (f : Int)) && decide ((f : Int) ≤ 7)) = true by simp; omega] at hP
  have hcall := specMove N A h f n cf cg W3 m3.sep kk hn hf (by omega)
  have hjh : (moveH h f).hand = h.hand := moveH_hand kk hf
  rw [hjh]
  replace hjh := hidE hjh
  obtain ⟨x0, x1, x2, _, _, _⟩ := p3
  obtain ⟨y0, y1, y2, y3, y4⟩ := c3
  have l0 : w.heap.size < W3.heap.size := by omega
  have l1 : w.heap.size + 1 < W3.heap.size := by omega
  have Hm := hidE m3
  have Hr := hidE r3
  have Hs := hidE (And.intro s3 s3')
  have Hn2 := hidE hn2
  clear m3 r3 k hn2
  go_enter Try.func100, Try.ntmps100
  go_wp2_with (fail)
  rw [← hW3]
  clear hW3
  refine (hI _).mono ?_
  rintro e w1 ⟨rfl, hw1⟩
  rw [hw1]
  clear hI hw1
  go_wp2_with (fail)
  refine (hP _).mono ?_
  rintro e w1 ⟨rfl, hw1⟩
  rw [hw1]
  clear hP hw1
  go_wp2_with (fail)
  refine hcall.mono ?_
  rintro e w4 ⟨rfl, A1, M4⟩
  obtain ⟨r4, l4, Mz⟩ := mv_end Hm.out hAl hN (R := w.heap.size + 2) (by omega) (by omega) Hr.out M4
  have Mz5 := hidE (fun x y t => ((((Hm.out.call hAl M4).off3 hAl (b := w.heap.size + 2) (by omega) (by omega) hN x y t).weak (Nat.le_refl _) (by omega)).below hN ((Below.refl _ _).alloc (Nat.le_refl _) (.cells #[.slice (some ⟨A .fr, 0, none⟩) 8 cf, .slice (some ⟨A .gs, 0, none⟩) n cg, .int .i64 h.hand] 26))).below hN ((Below.refl _ _).drew))
  obtain ⟨q0, q1, q2, f0, f1, f2⟩ := r4
  have hgot := fun w => specGot (moveB h f) w
  clear hcall M4 Hm Hr hAl x0 x1 x2 y0 y1 y2 y3 y4 Mz
  go_wp2_with (fail)
  go_region_with (first | (go_at_call 109; refine (hgot _).mono ?_; rintro e w6 ⟨rfl, rfl⟩) | fail)
  all_goals go_wp2
  all_goals
    refine bodyPost_ret (v := .tuple #[.agg #[.slice (some ⟨A .fr, 0, none⟩) 8 cf, .slice (some ⟨A .gs, 0, none⟩) n cg, .int .i64 h.hand], .int .i64 (bif moveB h f then 0 else -3)]) (by simp [results, Try.results100, go_sem, *]) rfl ?_
    exact ⟨rfl, _, Mz5.out _ _ _⟩

set_option maxRecDepth 100000 in
set_option maxHeartbeats 4000000 in
theorem specDo_nomove (N : Nat) (A : Pl → Nat) (h : Hst) (a1 a2 a3 a4 : Int) (n cf cg : Nat) (w : World) (k : SepH w N A h) (kk : OkH h) (hn : h.guests.length = n) (hN : N ≤ w.heap.size) (hp : inI a2 0 7 = false) :
    Calls Try.prog 100 #[.agg #[.slice (some ⟨A .fr, 0, none⟩) 8 cf, .slice (some ⟨A .gs, 0, none⟩) n cg, .int .i64 h.hand], .agg #[.int .i64 8, .int .i64 a1, .int .i64 a2, .int .i64 a3, .int .i64 a4]] w fun e w' => e = .returned (.tuple #[.agg #[.slice (some ⟨A .fr, 0, none⟩) 8 cf, .slice (some ⟨A .gs, 0, none⟩) n cg, .int .i64 (h).hand], .int .i64 (-3)]) ∧ ∃ A', Mv w w' w.heap.size N n A A' (h) := by
  obtain ⟨W3, hW3, ⟨s3, s3'⟩, m3, p3, c3, r3⟩ := act_frame N A h (8) (a1) (a2) (a3) (a4) n cf cg w k hn hN
  have hAl : ∀ x, x.ok n → A x < w.heap.size := fun x hx => (k.low x (by rw [hn]; exact hx)).2
  have hn2 : n ≤ 2 := by rw [← hn]; exact k.n2
  have hn1 : 1 ≤ n := by rw [← hn]; exact (okHost_frames (okHost_mk kk)).2.2.1
  have e1 : IntKind.i64.wrap ((n : Int) - 1) = (n : Int) - 1 := wrap_small _ (by omega) (by omega)
  have hI := fun w => specIn a1 0 ((n : Int) - 1) w
  obtain ⟨gb, hgb⟩ : ∃ gb, gb = (decide (0 ≤ a1) && decide (a1 ≤ (n : Int) - 1)) := ⟨_, rfl⟩
  rw [← hgb] at hI
  clear hgb
  have hP := fun w => specIn a2 0 7 w
  rw [show (decide (0 ≤ a2) && decide (a2 ≤ 7)) = false from hp] at hP
  obtain ⟨x0, x1, x2, _, _, _⟩ := p3
  obtain ⟨y0, y1, y2, y3, y4⟩ := c3
  have l0 : w.heap.size < W3.heap.size := by omega
  have l1 : w.heap.size + 1 < W3.heap.size := by omega
  have Hm := hidE m3
  have Hr := hidE r3
  have Hs := hidE (And.intro s3 s3')
  have Hn2 := hidE hn2
  clear m3 r3 k hn2
  go_enter Try.func100, Try.ntmps100
  go_wp2_with (fail)
  rw [← hW3]
  clear hW3
  refine (hI _).mono ?_
  rintro e w1 ⟨rfl, hw1⟩
  rw [hw1]
  clear hI hw1
  go_wp2_with (fail)
  refine (hP _).mono ?_
  rintro e w1 ⟨rfl, hw1⟩
  rw [hw1]
  clear hP hw1
  obtain ⟨r4, l4, Mz⟩ := mv_end Hm.out hAl hN (R := w.heap.size + 2) (by omega) (by omega) Hr.out (Mv.refl Hm.out.sep hn (by omega))
  obtain ⟨q0, q1, q2, f0, f1, f2⟩ := r4
  clear Hm Hr hAl
  go_wp2
  refine bodyPost_ret (v := .tuple #[.agg #[.slice (some ⟨A .fr, 0, none⟩) 8 cf, .slice (some ⟨A .gs, 0, none⟩) n cg, .int .i64 h.hand], .int .i64 (-3)]) (by simp [results, Try.results100, go_sem, *]) rfl ?_
  exact ⟨rfl, A, Mz.out _ _ _⟩

set_option maxRecDepth 100000 in
set_option maxHeartbeats 4000000 in
theorem specDo_noguest (N : Nat) (A : Pl → Nat) (h : Hst) (a0 a1 a2 a3 a4 : Int) (n cf cg : Nat) (w : World) (k : SepH w N A h) (kk : OkH h) (hn : h.guests.length = n) (hN : N ≤ w.heap.size) (h6 : (a0 == 6) = false) (h7 : (a0 == 7) = false) (h8 : (a0 == 8) = false) (h9 : (a0 == 9) = false) (hb : inI a1 0 ((n : Int) - 1) = false) :
    Calls Try.prog 100 #[.agg #[.slice (some ⟨A .fr, 0, none⟩) 8 cf, .slice (some ⟨A .gs, 0, none⟩) n cg, .int .i64 h.hand], .agg #[.int .i64 a0, .int .i64 a1, .int .i64 a2, .int .i64 a3, .int .i64 a4]] w fun e w' => e = .returned (.tuple #[.agg #[.slice (some ⟨A .fr, 0, none⟩) 8 cf, .slice (some ⟨A .gs, 0, none⟩) n cg, .int .i64 (h).hand], .int .i64 (-3)]) ∧ ∃ A', Mv w w' w.heap.size N n A A' (h) := by
  obtain ⟨W3, hW3, ⟨s3, s3'⟩, m3, p3, c3, r3⟩ := act_frame N A h (a0) (a1) (a2) (a3) (a4) n cf cg w k hn hN
  have hAl : ∀ x, x.ok n → A x < w.heap.size := fun x hx => (k.low x (by rw [hn]; exact hx)).2
  have hn2 : n ≤ 2 := by rw [← hn]; exact k.n2
  have hn1 : 1 ≤ n := by rw [← hn]; exact (okHost_frames (okHost_mk kk)).2.2.1
  have e1 : IntKind.i64.wrap ((n : Int) - 1) = (n : Int) - 1 := wrap_small _ (by omega) (by omega)
  have hI := fun w => specIn a1 0 ((n : Int) - 1) w
  rw [show (decide (0 ≤ a1) && decide (a1 ≤ (n : Int) - 1)) = false from hb] at hI
  obtain ⟨x0, x1, x2, _, _, _⟩ := p3
  obtain ⟨y0, y1, y2, y3, y4⟩ := c3
  have l0 : w.heap.size < W3.heap.size := by omega
  have l1 : w.heap.size + 1 < W3.heap.size := by omega
  have Hm := hidE m3
  have Hr := hidE r3
  have Hs := hidE (And.intro s3 s3')
  have Hn2 := hidE hn2
  clear m3 r3 k hn2
  go_enter Try.func100, Try.ntmps100
  go_wp2_with (fail)
  rw [← hW3]
  clear hW3
  refine (hI _).mono ?_
  rintro e w1 ⟨rfl, hw1⟩
  rw [hw1]
  clear hI hw1
  obtain ⟨r4, l4, Mz⟩ := mv_end Hm.out hAl hN (R := w.heap.size + 2) (by omega) (by omega) Hr.out (Mv.refl Hm.out.sep hn (by omega))
  obtain ⟨q0, q1, q2, f0, f1, f2⟩ := r4
  clear Hm Hr hAl
  go_wp2
  refine bodyPost_ret (v := .tuple #[.agg #[.slice (some ⟨A .fr, 0, none⟩) 8 cf, .slice (some ⟨A .gs, 0, none⟩) n cg, .int .i64 h.hand], .int .i64 (-3)]) (by simp [results, Try.results100, go_sem, *]) rfl ?_
  exact ⟨rfl, A, Mz.out _ _ _⟩

set_option maxRecDepth 100000 in
set_option maxHeartbeats 4000000 in
theorem specDo_noown (N : Nat) (A : Pl → Nat) (h : Hst) (a0 a1 a2 a3 a4 : Int) (n cf cg : Nat) (w : World) (k : SepH w N A h) (kk : OkH h) (hn : h.guests.length = n) (hN : N ≤ w.heap.size) (h6 : (a0 == 6) = false) (h7 : (a0 == 7) = false) (h8 : (a0 == 8) = false) (h9 : (a0 == 9) = false) (hb : inI a1 0 ((n : Int) - 1) = true) (ho : ownA (a0, a1, a2, a3, a4) = false) :
    Calls Try.prog 100 #[.agg #[.slice (some ⟨A .fr, 0, none⟩) 8 cf, .slice (some ⟨A .gs, 0, none⟩) n cg, .int .i64 h.hand], .agg #[.int .i64 a0, .int .i64 a1, .int .i64 a2, .int .i64 a3, .int .i64 a4]] w fun e w' => e = .returned (.tuple #[.agg #[.slice (some ⟨A .fr, 0, none⟩) 8 cf, .slice (some ⟨A .gs, 0, none⟩) n cg, .int .i64 (h).hand], .int .i64 (-3)]) ∧ ∃ A', Mv w w' w.heap.size N n A A' (h) := by
  obtain ⟨W3, hW3, ⟨s3, s3'⟩, m3, p3, c3, r3⟩ := act_frame N A h (a0) (a1) (a2) (a3) (a4) n cf cg w k hn hN
  have hAl : ∀ x, x.ok n → A x < w.heap.size := fun x hx => (k.low x (by rw [hn]; exact hx)).2
  have hn2 : n ≤ 2 := by rw [← hn]; exact k.n2
  have hn1 : 1 ≤ n := by rw [← hn]; exact (okHost_frames (okHost_mk kk)).2.2.1
  have e1 : IntKind.i64.wrap ((n : Int) - 1) = (n : Int) - 1 := wrap_small _ (by omega) (by omega)
  have hI := fun w => specIn a1 0 ((n : Int) - 1) w
  rw [show (decide (0 ≤ a1) && decide (a1 ≤ (n : Int) - 1)) = true from hb] at hI
  have hO := fun w => specOwn21 a0 a1 a2 a3 a4 w
  rw [show ownA (a0, a1, a2, a3, a4) = false from ho] at hO
  obtain ⟨x0, x1, x2, _, _, _⟩ := p3
  obtain ⟨y0, y1, y2, y3, y4⟩ := c3
  have l0 : w.heap.size < W3.heap.size := by omega
  have l1 : w.heap.size + 1 < W3.heap.size := by omega
  have Hm := hidE m3
  have Hr := hidE r3
  have Hs := hidE (And.intro s3 s3')
  have Hn2 := hidE hn2
  clear m3 r3 k hn2
  go_enter Try.func100, Try.ntmps100
  go_wp2_with (fail)
  rw [← hW3]
  clear hW3
  refine (hI _).mono ?_
  rintro e w1 ⟨rfl, hw1⟩
  rw [hw1]
  clear hI hw1
  go_wp2_with (fail)
  refine (hO W3).mono ?_
  rintro e w1 ⟨rfl, B1⟩
  have Hm1 := hidE (Hm.out.below hN B1)
  have Hr1 := hidE (Hr.out.belowK B1)
  have z0 := (B1.cell (p := ⟨w.heap.size, 0, none⟩) l0).trans x0
  have z1 := (B1.cell (p := ⟨w.heap.size, 1, none⟩) l0).trans x1
  have z2 := (B1.cell (p := ⟨w.heap.size, 2, none⟩) l0).trans x2
  have u0 := (B1.cell (p := ⟨w.heap.size + 1, 0, none⟩) l1).trans y0
  have u1 := (B1.cell (p := ⟨w.heap.size + 1, 1, none⟩) l1).trans y1
  have u2 := (B1.cell (p := ⟨w.heap.size + 1, 2, none⟩) l1).trans y2
  have u3 := (B1.cell (p := ⟨w.heap.size + 1, 3, none⟩) l1).trans y3
  have u4 := (B1.cell (p := ⟨w.heap.size + 1, 4, none⟩) l1).trans y4
  have sB := B1.size
  have Hb := hidE B1
  clear x0 x1 x2 y0 y1 y2 y3 y4 Hm Hr hO B1
  obtain ⟨q0, q1, q2, f0, f1, f2⟩ := Hr1.out
  have l4 : w.heap.size + 2 < w1.heap.size := by omega
  have Mz := hidE (fun x y t => (Hm1.out.off3 hAl (b := w.heap.size + 2) (by omega) (by omega) hN x y t).weak (Nat.le_refl _) (by omega))
  clear Hm1 Hr1 hAl Hb
  go_wp2
  refine bodyPost_ret (v := .tuple #[.agg #[.slice (some ⟨A .fr, 0, none⟩) 8 cf, .slice (some ⟨A .gs, 0, none⟩) n cg, .int .i64 h.hand], .int .i64 (-3)]) (by simp [results, Try.results100, go_sem, *]) rfl ?_
  exact ⟨rfl, A, Mz.out _ _ _⟩

set_option maxRecDepth 100000 in
set_option maxHeartbeats 4000000 in
theorem specDo_guest (N : Nat) (A : Pl → Nat) (h : Hst) (a0 a1 a2 a3 a4 : Int) (n cf cg : Nat) (w : World) (k : SepH w N A h) (kk : OkH h) (hn : h.guests.length = n) (hN : N ≤ w.heap.size) (h6 : (a0 == 6) = false) (h7 : (a0 == 7) = false) (h8 : (a0 == 8) = false) (h9 : (a0 == 9) = false) (hb : inI a1 0 ((n : Int) - 1) = true) (ho : ownA (a0, a1, a2, a3, a4) = true) :
    Calls Try.prog 100 #[.agg #[.slice (some ⟨A .fr, 0, none⟩) 8 cf, .slice (some ⟨A .gs, 0, none⟩) n cg, .int .i64 h.hand], .agg #[.int .i64 a0, .int .i64 a1, .int .i64 a2, .int .i64 a3, .int .i64 a4]] w fun e w' => e = .returned (.tuple #[.agg #[.slice (some ⟨A .fr, 0, none⟩) 8 cf, .slice (some ⟨A .gs, 0, none⟩) n cg, .int .i64 ((guestH h (a0, a1, a2, a3, a4)).1).hand], .int .i64 ((guestH h (a0, a1, a2, a3, a4)).2)]) ∧ ∃ A', Mv w w' w.heap.size N n A A' ((guestH h (a0, a1, a2, a3, a4)).1) := by
  obtain ⟨W3, hW3, ⟨s3, s3'⟩, m3, p3, c3, r3⟩ := act_frame N A h (a0) (a1) (a2) (a3) (a4) n cf cg w k hn hN
  have hAl : ∀ x, x.ok n → A x < w.heap.size := fun x hx => (k.low x (by rw [hn]; exact hx)).2
  have hn2 : n ≤ 2 := by rw [← hn]; exact k.n2
  have hn1 : 1 ≤ n := by rw [← hn]; exact (okHost_frames (okHost_mk kk)).2.2.1
  have e1 : IntKind.i64.wrap ((n : Int) - 1) = (n : Int) - 1 := wrap_small _ (by omega) (by omega)
  have hI := fun w => specIn a1 0 ((n : Int) - 1) w
  rw [show (decide (0 ≤ a1) && decide (a1 ≤ (n : Int) - 1)) = true from hb] at hI
  have hO := fun w => specOwn21 a0 a1 a2 a3 a4 w
  rw [show ownA (a0, a1, a2, a3, a4) = true from ho] at hO
  have hG := fun W (B : Below W3.heap.size W3 W) => specGuest21 N A h a0 a1 a2 a3 a4 n cf cg W (m3.sep.belowK B) kk hn (by have := B.size; omega) (by rw [actG, hn]; exact hb) ho
  generalize (guestH h (a0, a1, a2, a3, a4)).1 = h1 at *
  generalize (guestH h (a0, a1, a2, a3, a4)).2 = got at *
  obtain ⟨x0, x1, x2, _, _, _⟩ := p3
  obtain ⟨y0, y1, y2, y3, y4⟩ := c3
  have l0 : w.heap.size < W3.heap.size := by omega
  have l1 : w.heap.size + 1 < W3.heap.size := by omega
  have Hm := hidE m3
  have Hr := hidE r3
  have Hs := hidE (And.intro s3 s3')
  have Hn2 := hidE hn2
  clear m3 r3 k hn2
  go_enter Try.func100, Try.ntmps100
  go_wp2_with (fail)
  rw [← hW3]
  clear hW3
  refine (hI _).mono ?_
  rintro e w1 ⟨rfl, hw1⟩
  rw [hw1]
  clear hI hw1
  go_wp2_with (fail)
  refine (hO W3).mono ?_
  rintro e w1 ⟨rfl, B1⟩
  have Hm1 := hidE (Hm.out.below hN B1)
  have Hr1 := hidE (Hr.out.belowK B1)
  have z0 := (B1.cell (p := ⟨w.heap.size, 0, none⟩) l0).trans x0
  have z1 := (B1.cell (p := ⟨w.heap.size, 1, none⟩) l0).trans x1
  have z2 := (B1.cell (p := ⟨w.heap.size, 2, none⟩) l0).trans x2
  have u0 := (B1.cell (p := ⟨w.heap.size + 1, 0, none⟩) l1).trans y0
  have u1 := (B1.cell (p := ⟨w.heap.size + 1, 1, none⟩) l1).trans y1
  have u2 := (B1.cell (p := ⟨w.heap.size + 1, 2, none⟩) l1).trans y2
  have u3 := (B1.cell (p := ⟨w.heap.size + 1, 3, none⟩) l1).trans y3
  have u4 := (B1.cell (p := ⟨w.heap.size + 1, 4, none⟩) l1).trans y4
  have sB := B1.size
  have Hb := hidE B1
  clear x0 x1 x2 y0 y1 y2 y3 y4 Hm Hr hO B1
  have hcall := hG w1 Hb.out
  clear hG Hb
  go_wp2_with (fail)
  refine hcall.mono ?_
  rintro e w4 ⟨rfl, A1, M4⟩
  have Hm2 := (Mv.start (M := w1.heap.size) Hm1.out.sep hn (Below.refl w1.heap.size w1) (by omega) (Nat.le_refl _) (Nat.le_refl _))
  have e4 := Hm1.out.own hAl M4 (j := w.heap.size + 2) (by omega) (by omega)
  obtain ⟨q0, q1, q2, f0, f1, f2⟩ := Hr1.out.same e4
  have l4 : w.heap.size + 2 < w4.heap.size := by have := M4.size; omega
  have Mz := hidE (fun x y t => ((Hm1.out.call hAl M4).off3 hAl (b := w.heap.size + 2) (by omega) (by omega) hN x y t).weak (Nat.le_refl _) (by omega))
  clear hcall M4 Hm1 Hr1 hAl Hm2 e4 z0 z1 z2 u0 u1 u2 u3 u4
  go_wp2
  refine bodyPost_ret (v := .tuple #[.agg #[.slice (some ⟨A .fr, 0, none⟩) 8 cf, .slice (some ⟨A .gs, 0, none⟩) n cg, .int .i64 h1.hand], .int .i64 got]) (by simp [results, Try.results100, go_sem, *]) rfl ?_
  exact ⟨rfl, A1, Mz.out _ _ _⟩

set_option maxRecDepth 100000 in
set_option maxHeartbeats 4000000 in
theorem specDo_carry (N : Nat) (A : Pl → Nat) (h : Hst) (a1 a2 a3 a4 : Int) (n cf cg : Nat) (w : World) (k : SepH w N A h) (kk : OkH h) (hn : h.guests.length = n) (hN : N ≤ w.heap.size) :
    Calls Try.prog 100 #[.agg #[.slice (some ⟨A .fr, 0, none⟩) 8 cf, .slice (some ⟨A .gs, 0, none⟩) n cg, .int .i64 h.hand], .agg #[.int .i64 9, .int .i64 a1, .int .i64 a2, .int .i64 a3, .int .i64 a4]] w fun e w' => ∃ A' cf' cg', e = .returned (.tuple #[.agg #[.slice (some ⟨A' .fr, 0, none⟩) 8 cf', .slice (some ⟨A' .gs, 0, none⟩) n cg', .int .i64 (carP h).hand], .int .i64 0]) ∧ Mw w w' N n A A' (carP h) ∧ Spare A' n cg' := by
  obtain ⟨W3, hW3, ⟨s3, s3'⟩, m3, p3, c3, r3⟩ := act_frame N A h 9 a1 a2 a3 a4 n cf cg w k hn hN
  have hAl : ∀ x, x.ok n → A x < w.heap.size := fun x hx => (k.low x (by rw [hn]; exact hx)).2
  have hn2 : n ≤ 2 := by rw [← hn]; exact k.n2
  have hn1 : 1 ≤ n := by rw [← hn]; exact (okHost_frames (okHost_mk kk)).2.2.1
  have e1 : IntKind.i64.wrap ((n : Int) - 1) = (n : Int) - 1 := wrap_small _ (by omega) (by omega)
  have hI := fun w => specIn a1 0 ((n : Int) - 1) w
  obtain ⟨gb, hgb⟩ : ∃ gb, gb = (decide (0 ≤ a1) && decide (a1 ≤ (n : Int) - 1)) := ⟨_, rfl⟩
  rw [← hgb] at hI
  clear hgb
  obtain ⟨hF, hG⟩ := (m3.sep.hostIn cf cg).parts
  have hcall := specCarry21R N W3.heap.size (some ⟨A .fr, 0, none⟩) (some ⟨A .gs, 0, none⟩) cf n cg h W3 hF (by rw [hn] at hG; exact hG) (Nat.le_refl _) (okHost_mk kk) hn
  have hok := okHost_mk (car_ok kk).1
  have hlen : (carP h).guests.length = n := by rw [(car_ok kk).2.1, hn]
  rw [show (⟨zeroM 8, carG h, 0⟩ : Hst) = carP h from rfl] at hcall
  rw [show (carP h).hand = 0 from rfl]
  generalize carP h = h1 at *
  clear hF hG
  have HB3 : Hid (Below w.heap.size w W3) := by rw [hW3]; exact (((Below.refl _ _).alloc (Nat.le_refl _) _).alloc (by simp) _).alloc (by simp; omega) _
  obtain ⟨x0, x1, x2, _, _, _⟩ := p3
  obtain ⟨y0, y1, y2, y3, y4⟩ := c3
  have l0 : w.heap.size < W3.heap.size := by omega
  have l1 : w.heap.size + 1 < W3.heap.size := by omega
  have Hm := hidE m3
  have Hr := hidE r3
  have Hs := hidE (And.intro s3 s3')
  have Hn2 := hidE hn2
  clear m3 r3 k hn2
  go_enter Try.func100, Try.ntmps100
  go_wp2_with (fail)
  rw [← hW3]
  clear hW3
  refine (hI _).mono ?_
  rintro e w1 ⟨rfl, hw1⟩
  rw [hw1]
  clear hI hw1
  go_wp2_with (fail)
  refine hcall.mono ?_
  rintro e w4 ⟨vf, vg, rfl, hO, B4, T, cg', rfl, hcg, hR⟩
  obtain ⟨A1, cf', rfl, rfl, h9, k4⟩ := sep_of_ownS (s := (cg' - n) * 3) hO (by rw [show n * 3 + (cg' - n) * 3 = cg' * 3 by omega]; exact hR) hok hlen (Nat.le_refl _)
  have HSp := hidE (show Spare A1 n cg' from ⟨hcg, h9⟩)
  clear hcg h9
  have s4 := B4.size
  have hlow : ∀ x, x.ok n → W3.heap.size ≤ A1 x := fun x hx => (k4.low x (by rw [hlen]; exact hx)).1
  obtain ⟨q0, q1, q2, f0, f1, f2⟩ := Hr.out.belowK B4
  have l4 : w.heap.size + 2 < w4.heap.size := by omega
  have kz := fun x y t => (((k4.off (b := w.heap.size + 2) (j := 0) (fun z hz => by have := hlow z (by rw [← hlen]; exact hz); omega) x).off (b := w.heap.size + 2) (j := 1) (fun z hz => by have := hlow z (by rw [← hlen]; exact hz); omega) y).off (b := w.heap.size + 2) (j := 2) (fun z hz => by have := hlow z (by rw [← hlen]; exact hz); omega) t).lower (show N ≤ W3.heap.size by omega)
  have B04 : Below w.heap.size w w4 := HB3.out.trans (B4.mono (by omega))
  have Mz : Hid (∀ x y t, Mw w (((w4.setCell ⟨w.heap.size + 2, 0, none⟩ x).setCell ⟨w.heap.size + 2, 1, none⟩ y).setCell ⟨w.heap.size + 2, 2, none⟩ t) N n A A1 h1) := fun x y t =>
    have bz : Below w.heap.size w (((w4.setCell ⟨w.heap.size + 2, 0, none⟩ x).setCell ⟨w.heap.size + 2, 1, none⟩ y).setCell ⟨w.heap.size + 2, 2, none⟩ t) := ((B04.setCell (p := ⟨w.heap.size + 2, 0, none⟩) (by show w.heap.size ≤ w.heap.size + 2; omega) x).setCell (p := ⟨w.heap.size + 2, 1, none⟩) (by show w.heap.size ≤ w.heap.size + 2; omega) y).setCell (p := ⟨w.heap.size + 2, 2, none⟩) (by show w.heap.size ≤ w.heap.size + 2; omega) t
    ⟨fun z hz => Or.inr (by have := hlow z hz; omega), kz x y t, hlen, bz.mono hN, fun j hj _ => bz.block j hj⟩
  clear hcall hO B4 hR k4 kz B04 Hm Hr hAl x0 x1 x2 y0 y1 y2 y3 y4 hlow
  go_wp2
  refine bodyPost_ret (v := .tuple #[.agg #[.slice (some ⟨A1 .fr, 0, none⟩) 8 cf', .slice (some ⟨A1 .gs, 0, none⟩) n cg', .int .i64 0], .int .i64 0]) (by simp [results, Try.results100, go_sem, *]) rfl ?_
  exact ⟨A1, cf', cg', rfl, Mz.out _ _ _, HSp.out⟩

/-- What the given l21Do does. -/
theorem specDo21 (N : Nat) (A : Pl → Nat) (h : Hst) (a0 a1 a2 a3 a4 : Int) (n cf cg : Nat) (w : World) (k : SepH w N A h) (kk : OkH h) (hn : h.guests.length = n) (hN : N ≤ w.heap.size) (hsp : Spare A n cg) :
    Calls Try.prog 100 #[.agg #[.slice (some ⟨A .fr, 0, none⟩) 8 cf, .slice (some ⟨A .gs, 0, none⟩) n cg, .int .i64 h.hand], .agg #[.int .i64 a0, .int .i64 a1, .int .i64 a2, .int .i64 a3, .int .i64 a4]] w fun e w' => ∃ A' cf' cg', e = .returned (.tuple #[.agg #[.slice (some ⟨A' .fr, 0, none⟩) 8 cf', .slice (some ⟨A' .gs, 0, none⟩) n cg', .int .i64 (doH h (a0, a1, a2, a3, a4)).1.hand], .int .i64 (doH h (a0, a1, a2, a3, a4)).2]) ∧ Mw w w' N n A A' (doH h (a0, a1, a2, a3, a4)).1 ∧ Spare A' n cg' := by
  have key : ∀ (H : Hst) (G : Int), (Calls Try.prog 100 #[.agg #[.slice (some ⟨A .fr, 0, none⟩) 8 cf, .slice (some ⟨A .gs, 0, none⟩) n cg, .int .i64 h.hand], .agg #[.int .i64 a0, .int .i64 a1, .int .i64 a2, .int .i64 a3, .int .i64 a4]] w fun e w' => e = .returned (.tuple #[.agg #[.slice (some ⟨A .fr, 0, none⟩) 8 cf, .slice (some ⟨A .gs, 0, none⟩) n cg, .int .i64 H.hand], .int .i64 G]) ∧ ∃ A', Mv w w' w.heap.size N n A A' H) → doH h (a0, a1, a2, a3, a4) = (H, G) → Calls Try.prog 100 #[.agg #[.slice (some ⟨A .fr, 0, none⟩) 8 cf, .slice (some ⟨A .gs, 0, none⟩) n cg, .int .i64 h.hand], .agg #[.int .i64 a0, .int .i64 a1, .int .i64 a2, .int .i64 a3, .int .i64 a4]] w fun e w' => ∃ A' cf' cg', e = .returned (.tuple #[.agg #[.slice (some ⟨A' .fr, 0, none⟩) 8 cf', .slice (some ⟨A' .gs, 0, none⟩) n cg', .int .i64 (doH h (a0, a1, a2, a3, a4)).1.hand], .int .i64 (doH h (a0, a1, a2, a3, a4)).2]) ∧ Mw w w' N n A A' (doH h (a0, a1, a2, a3, a4)).1 ∧ Spare A' n cg' := fun H G hc hd => by
    rw [hd]
    refine hc.mono ?_
    rintro e w' ⟨rfl, A', M⟩
    exact ⟨A', cf, cg, by rw [M.fr, M.gs], M.mw, hsp.1, M.rm.trans hsp.2⟩
  by_cases h6 : a0 = 6
  · subst h6
    cases hb : inI a1 0 ((n : Int) - 1)
    · exact key _ _ (specDo_noout1 N A h a1 a2 a3 a4 n cf cg w k kk hn hN hb) (by simp [doH, actG, hn, hb])
    · cases hp : inI a2 0 5
      · exact key _ _ (specDo_noout2 N A h a1 a2 a3 a4 n cf cg w k kk hn hN hb hp) (by simp [doH, actG, hn, hb, hp])
      · have hd : doH h (6, a1, a2, a3, a4) = (outP h a1.toNat a2.toNat, 0) := by simp [doH, actG, hn, hb, hp]
        obtain ⟨b0, b1⟩ := inI_iff.1 hb
        obtain ⟨p0, p1⟩ := inI_iff.1 hp
        obtain ⟨g, rfl⟩ := Int.eq_ofNat_of_zero_le b0
        obtain ⟨p, rfl⟩ := Int.eq_ofNat_of_zero_le p0
        exact key _ _ (specDo_out N A h g p a3 a4 n cf cg w k kk hn hN (by omega) (by omega)) hd
  · by_cases h7 : a0 = 7
    · subst h7
      exact key _ _ (specDo_join N A h a1 a2 a3 a4 n cf cg w k kk hn hN) (by simp [doH])
    · by_cases h8 : a0 = 8
      · subst h8
        cases hp : inI a2 0 7
        · exact key _ _ (specDo_nomove N A h a1 a2 a3 a4 n cf cg w k kk hn hN hp) (by simp [doH, hp])
        · have hd : doH h (8, a1, a2, a3, a4) = (moveH h a2.toNat, bif moveB h a2.toNat then 0 else -3) := by simp [doH, hp]
          obtain ⟨p0, p1⟩ := inI_iff.1 hp
          obtain ⟨f, rfl⟩ := Int.eq_ofNat_of_zero_le p0
          exact key _ _ (specDo_move N A h a1 f a3 a4 n cf cg w k kk hn hN (by omega)) hd
      · by_cases h9 : a0 = 9
        · subst h9
          rw [show doH h (9, a1, a2, a3, a4) = (carP h, 0) by simp [doH]]
          exact specDo_carry N A h a1 a2 a3 a4 n cf cg w k kk hn hN
        · have e6 : (a0 == 6) = false := by simpa using h6
          have e7 : (a0 == 7) = false := by simpa using h7
          have e8 : (a0 == 8) = false := by simpa using h8
          have e9 : (a0 == 9) = false := by simpa using h9
          cases hb : inI a1 0 ((n : Int) - 1)
          · exact key _ _ (specDo_noguest N A h a0 a1 a2 a3 a4 n cf cg w k kk hn hN e6 e7 e8 e9 hb) (by simp [doH, actG, hn, hb, e6, e7, e8, e9])
          · cases ho : ownA (a0, a1, a2, a3, a4)
            · exact key _ _ (specDo_noown N A h a0 a1 a2 a3 a4 n cf cg w k kk hn hN e6 e7 e8 e9 hb ho) (by simp [doH, actG, hn, hb, ho, e6, e7, e8, e9])
            · exact key _ _ (specDo_guest N A h a0 a1 a2 a3 a4 n cf cg w k kk hn hN e6 e7 e8 e9 hb ho) (by simp [doH, actG, hn, hb, ho, e6, e7, e8, e9])
end Go.Proofs.Ytjegndgdpmlbaaa
