/-
  What the given l14Is says; hosts handed out with a number beside them.
-/
import Derived.Test.YtjegndgdpmlbaaaKOD
import Derived.Test.YtjegndgdpmlbaaaKOHQ
import Derived.Test.YtjegndgdpmlbaaaKOPB
set_option linter.unusedSimpArgs false
namespace Go.Proofs.Ytjegndgdpmlbaaa
open Go.RowKit
attribute [local go_sem ↓] Go.wp_at_zero Go.wp_at_succ exec_app
attribute [local go_sem] bigNext_ok

end Go.Proofs.Ytjegndgdpmlbaaa

/-
  What the given l14Read does.
-/
set_option linter.unusedSimpArgs false
namespace Go.Proofs.Ytjegndgdpmlbaaa
open Go.RowKit
attribute [local go_sem ↓] Go.wp_at_zero Go.wp_at_succ exec_app
attribute [local go_sem] bigNext_ok

theorem okH_fr {h : Hst} (k : OkH h) {g p : Nat} (hg : g < h.guests.length) (hp : p < 6) (hm : (mAt h g p).1 = true) : ∃ F : Nat, F < 8 ∧ (mAt h g p).2.1 = (F : Int) := by
  obtain ⟨a, b, _⟩ := k.mi g p hg hp hm
  exact ⟨(mAt h g p).2.1.toNat, by omega, by omega⟩
/-- What a page has, where it is in. -/
theorem zAt_in {h : Hst} {g p : Nat} {F : Nat} (hm : (mAt h g p).1 = true) (hF : (mAt h g p).2.1 = (F : Int)) (o : Nat) : zAt h g p o = (fAt h F).getD o 0 := by
  rw [zAt, pAt_eq, hm, cond_true, hF, Int.toNat_natCast]
theorem zAt_inP {h : Hst} (k : OkH h) {g p : Nat} (hg : g < h.guests.length) (hp : p < 6) {g' p' : Nat} (hg' : g' < h.guests.length) (hp' : p' < 6) (o : Nat) : zAt (inP h g p) g' p' o = zAt h g' p' o := by
  rw [zAt, (inP_ok k hg hp).2.1 g' p' hg' hp']
  rfl
theorem off3c {w : World} {b b' i : Nat} {u0 u1 u2 : Value} (h : b' ≠ b) : (((w.setCell ⟨b, 0, none⟩ u0).setCell ⟨b, 1, none⟩ u1).setCell ⟨b, 2, none⟩ u2).cell? ⟨b', i, none⟩ = w.cell? ⟨b', i, none⟩ := by rw [cell_off h, cell_off h, cell_off h]
/-- The cells that lead to a word of a page that is in. -/
theorem SepH.cells {w : World} {N : Nat} {A : Pl → Nat} {h : Hst} (k : SepH w N A h) {g p F : Nat} (hg : g < h.guests.length) (hp : p < 6) (hF8 : F < 8) (hF : (mAt h g p).2.1 = (F : Int)) {o : Nat} (ho : o < 4) :
    (∃ c, w.cell? ⟨A .gs, g * 3, none⟩ = some (.slice (some ⟨A (.maps g), 0, none⟩) 6 c)) ∧ w.cell? ⟨A (.maps g), p * 3, none⟩ = some (.bool (mAt h g p).1) ∧ w.cell? ⟨A (.maps g), p * 3 + 1, none⟩ = some (.int .i64 F) ∧ w.cell? ⟨A (.maps g), p * 3 + 2, none⟩ = some (.bool (mAt h g p).2.2) ∧ (∃ c, w.cell? ⟨A .fr, F, none⟩ = some (.slice (some ⟨A (.page F), 0, none⟩) 4 c)) ∧ w.cell? ⟨A (.page F), o, none⟩ = some (.int .i64 ((fAt h F).getD o 0)) := by
  obtain ⟨q1, _, _⟩ := (k.held .gs trivial).1 g hg
  obtain ⟨e0, e1, e2⟩ := (k.held (.maps g) hg).1 p (by rw [(k.sz g hg).1]; exact hp)
  rw [Nat.zero_add, show ((false, 0, false) : E3) = noM from rfl, show (gOf h g).maps.getD p noM = mAt h g p from rfl] at e0 e1 e2
  obtain ⟨x, _⟩ := k.held .fr trivial F hF8
  have y := (k.held (.page F) hF8).1 o (by rw [k.f4 F hF8]; exact ho)
  rw [Nat.zero_add] at y
  rw [hF] at e1
  exact ⟨q1, e0, e1, e2, x, y⟩

set_option maxRecDepth 100000 in
set_option maxHeartbeats 2000000 in
theorem specRead14 (N : Nat) (A : Pl → Nat) (h : Hst) (g p o : Nat) (n cf cg : Nat) (w : World) (k : SepH w N A h) (kk : OkH h) (hn : h.guests.length = n) (hg : g < n) (hp : p < 6) (ho4 : o < 4) (hN : N ≤ w.heap.size) :
    Calls Try.prog 120 #[.agg #[.slice (some ⟨A .fr, 0, none⟩) 8 cf, .slice (some ⟨A .gs, 0, none⟩) n cg, .int .i64 h.hand], .int .i64 g, .int .i64 p, .int .i64 o] w fun e w' => e = .returned (.tuple #[.agg #[.slice (some ⟨A .fr, 0, none⟩) 8 cf, .slice (some ⟨A .gs, 0, none⟩) n cg, .int .i64 (inP h g p).hand], .int .i64 (zAt h g p o)]) ∧ ∃ A', Mv w w' w.heap.size N n A A' (inP h g p) := by
  obtain ⟨W2, hW2⟩ : ∃ W2, W2 = (w.alloc (.cells #[.slice (some ⟨A .fr, 0, none⟩) 8 cf, .slice (some ⟨A .gs, 0, none⟩) n cg, .int .i64 h.hand] 26)).alloc (.cells #[.slice none 0 0, .slice none 0 0, .int .i64 0] 26) := ⟨_, rfl⟩
  have B2 : Below w.heap.size w W2 := by rw [hW2]; exact ((Below.refl _ _).alloc (Nat.le_refl _) _).alloc (by simp) _
  have s2 : W2.heap.size ≤ w.heap.size + 2 ∧ w.heap.size + 2 ≤ W2.heap.size := by rw [hW2]; simp
  have p2 : Var3 W2 w.heap.size (.slice (some ⟨A .fr, 0, none⟩) 8 cf) (.slice (some ⟨A .gs, 0, none⟩) n cg) (.int .i64 h.hand) := by rw [hW2]; exact (var3_new w _ _ _ _).allocK _
  have r2 : Var3 W2 (w.heap.size + 1) (.slice none 0 0) (.slice none 0 0) (.int .i64 0) := by rw [hW2]; exact var3_newK (by simp)
  have hAl : ∀ x, x.ok n → A x < w.heap.size := fun x hx => (k.low x (by rw [hn]; exact hx)).2
  have m2 : Mv w W2 (w.heap.size + 2) N n A A h := Mv.start k hn B2 hN (Nat.le_add_right _ _) s2.2
  have hin1 := specIn13 N A h g p n cf cg W2 m2.sep (okHost_mk kk) hn hg hp (by omega)
  obtain ⟨k1, _, hm1⟩ := inP_ok kk (show g < h.guests.length by omega) hp
  have l1 : (inP h g p).guests.length = n := by rw [inP_len kk, hn]
  have hz := zAt_inP kk (show g < h.guests.length by omega) hp (show g < h.guests.length by omega) hp o
  rw [← hz]
  clear hz
  generalize inP h g p = h1 at *
  obtain ⟨z, hzz⟩ : ∃ z, z = zAt h1 g p o := ⟨_, rfl⟩
  rw [← hzz]
  go_enter Try.func120, Try.ntmps120
  go_wp2_with (fail)
  rw [← hW2]
  clear hW2
  refine hin1.mono ?_
  rintro e w3 ⟨rfl, A1, M3⟩
  have s3 := M3.size
  have M03 := m2.call hAl M3
  have P3 := p2.same (m2.own hAl M3 (Nat.le_refl _) (by omega))
  have R3 := r2.same (m2.own hAl M3 (Nat.le_succ _) (by omega))
  have hg1 : g < h1.guests.length := by omega
  obtain ⟨F, hF8, hmF⟩ := okH_fr k1 hg1 hp hm1
  obtain ⟨⟨c1, q1⟩, e0, e1, e2, ⟨c2, q2⟩, q3⟩ := M03.sep.cells hg1 hp hF8 hmF ho4
  rw [← zAt_in hm1 hmF o, ← hzz] at q3
  have lG := (M03.sep.low .gs trivial).2
  have lF := (M03.sep.low .fr trivial).2
  have lM := (M03.sep.low (.maps g) hg1).2
  have lP := (M03.sep.low (.page F) hF8).2
  rw [M03.gs] at q1 lG
  rw [M03.fr] at q2 lF
  have lG0 := hAl .gs trivial
  have lF0 := hAl .fr trivial
  have nG : A .gs ≠ w.heap.size := by omega
  have nF : A .fr ≠ w.heap.size := by omega
  have nM : A1 (.maps g) ≠ w.heap.size := M03.ne (by omega) (fun x hx => by have := hAl x hx; omega) (.maps g) hg
  have nM1 : A1 (.maps g) ≠ w.heap.size + 1 := M03.ne (by omega) (fun x hx => by have := hAl x hx; omega) (.maps g) hg
  have nP1 : A1 (.page F) ≠ w.heap.size + 1 := M03.ne (by omega) (fun x hx => by have := hAl x hx; omega) (.page F) hF8
  have nP : A1 (.page F) ≠ w.heap.size := M03.ne (by omega) (fun x hx => by have := hAl x hx; omega) (.page F) hF8
  obtain ⟨pp0, pp1, pp2, ff0, ff1, ff2⟩ := P3
  have hgi : (g : Int) < (n : Int) := by omega
  have hpi : (p : Int) < 6 := by omega
  have hoi : (o : Int) < 4 := by omega
  have hFi : (F : Int) < 8 := by omega
  have l3 : w.heap.size < w3.heap.size := by omega
  have M4 := hidE (M03.off3 hAl (b := w.heap.size) (Nat.le_refl _) (by omega) hN (.slice (some ⟨A .fr, 0, none⟩) 8 cf) (.slice (some ⟨A .gs, 0, none⟩) n cg) (.int .i64 h1.hand))
  clear hzz
  clear hin1 m2 M3 M03 p2 r2 B2 k hm1 hmF k1
  have HR3 := hidE R3
  clear R3
  obtain ⟨y0, y1, y2, d0, d1, d2⟩ := HR3.out
  have lR : w.heap.size + 1 < w3.heap.size := by omega
  obtain ⟨W4, hW4⟩ : ∃ W4, W4 = ((w3.setCell ⟨w.heap.size, 0, none⟩ (.slice (some ⟨A .fr, 0, none⟩) 8 cf)).setCell ⟨w.heap.size, 1, none⟩ (.slice (some ⟨A .gs, 0, none⟩) n cg)).setCell ⟨w.heap.size, 2, none⟩ (.int .i64 h1.hand) := ⟨_, rfl⟩
  obtain ⟨S, hSE⟩ : ∃ S : World → Prop, S = fun W' => W'.cell? ⟨w.heap.size, 0, none⟩ = some (.slice (some ⟨A .fr, 0, none⟩) 8 cf) ∧ W'.cell? ⟨w.heap.size, 1, none⟩ = some (.slice (some ⟨A .gs, 0, none⟩) n cg) ∧ W'.cell? ⟨w.heap.size, 2, none⟩ = some (.int .i64 h1.hand) ∧ W'.cell? ⟨A .gs, g * 3, none⟩ = some (.slice (some ⟨A1 (.maps g), 0, none⟩) 6 c1) ∧ W'.cell? ⟨A1 (.maps g), p * 3 + 1, none⟩ = some (.int .i64 F) ∧ W'.cell? ⟨A .fr, F, none⟩ = some (.slice (some ⟨A1 (.page F), 0, none⟩) 4 c2) ∧ W'.cell? ⟨A1 (.page F), o, none⟩ = some (.int .i64 z) := ⟨_, rfl⟩
  have hcells : ∀ W', S W' → W'.cell? ⟨w.heap.size, 0, none⟩ = some (.slice (some ⟨A .fr, 0, none⟩) 8 cf) ∧ W'.cell? ⟨w.heap.size, 1, none⟩ = some (.slice (some ⟨A .gs, 0, none⟩) n cg) ∧ W'.cell? ⟨w.heap.size, 2, none⟩ = some (.int .i64 h1.hand) ∧ W'.cell? ⟨A .gs, g * 3, none⟩ = some (.slice (some ⟨A1 (.maps g), 0, none⟩) 6 c1) ∧ W'.cell? ⟨A1 (.maps g), p * 3 + 1, none⟩ = some (.int .i64 F) ∧ W'.cell? ⟨A .fr, F, none⟩ = some (.slice (some ⟨A1 (.page F), 0, none⟩) 4 c2) ∧ W'.cell? ⟨A1 (.page F), o, none⟩ = some (.int .i64 z) := fun W' h => by rw [hSE] at h; exact h
  have hS4 : S W4 := by
    rw [hSE]
    obtain ⟨x0, x1, x2, _⟩ := Var3.putAll (w := w3) ⟨pp0, pp1, pp2, ff0, ff1, ff2⟩ (.slice (some ⟨A .fr, 0, none⟩) 8 cf) (.slice (some ⟨A .gs, 0, none⟩) n cg) (.int .i64 h1.hand)
    rw [← hW4] at x0 x1 x2
    exact ⟨x0, x1, x2, by rw [hW4, off3c nG]; exact q1, by rw [hW4, off3c nM]; exact e1, by rw [hW4, off3c nF]; exact q2, by rw [hW4, off3c nP]; exact q3⟩
  have hSd : ∀ W', S W' → S W'.drew := fun W' h => by rw [hSE] at h ⊢; exact h
  have hS5 : ∀ u0 u1 u2, ∀ W', S W' → S (((W'.setCell ⟨w.heap.size + 1, 0, none⟩ u0).setCell ⟨w.heap.size + 1, 1, none⟩ u1).setCell ⟨w.heap.size + 1, 2, none⟩ u2).drew := fun u0 u1 u2 W' h => by
    refine hSd _ ?_
    rw [hSE] at h ⊢
    obtain ⟨x0, x1, x2, x3, x4, x5, x6⟩ := h
    have k1 : A .gs ≠ w.heap.size + 1 := by omega
    have k2 : A .fr ≠ w.heap.size + 1 := by omega
    have k0 : w.heap.size ≠ w.heap.size + 1 := by omega
    exact ⟨(off3c k0).trans x0, (off3c k0).trans x1, (off3c k0).trans x2, (off3c k1).trans x3, (off3c nM1).trans x4, (off3c k2).trans x5, (off3c nP1).trans x6⟩
  have M4 := M4.out
  rw [← hW4] at M4
  have M9 := hidE (show Mv w (((W4.setCell ⟨w.heap.size + 1, 0, none⟩ (.slice (some ⟨A .fr, 0, none⟩) 8 cf)).setCell ⟨w.heap.size + 1, 1, none⟩ (.slice (some ⟨A .gs, 0, none⟩) n cg)).setCell ⟨w.heap.size + 1, 2, none⟩ (.int .i64 h1.hand)).drew w.heap.size N n A A1 h1 from ((M4.off3 hAl (b := w.heap.size + 1) (by omega) (by omega) hN _ _ _).below hN (Below.refl _ _).drew).weak (Nat.le_refl _) (by omega))
  have R4 := HR3.out.same (w' := W4) (by rw [hW4, Below.heap_setCell _ _ _ _ (by simp), Below.heap_setCell _ _ _ _ (by simp), Below.heap_setCell _ _ _ _ (by simp)])
  have lR4 : w.heap.size + 1 < W4.heap.size := by rw [hW4]; simpa using lR
  clear y0 y1 y2 d0 d1 d2
  obtain ⟨r0, r1, r2, d0, d1, d2⟩ := R4
  clear M4 HR3 hSE
  go_wp2_with (fail)
  rw [← hW4]
  clear hW4 pp0 pp1 pp2 ff0 ff1 ff2 q1 q2 q3 e0 e1 e2
  refine wp_region_held_drew (S := S) (by kernel_rfl) (hSd _ hS4) (fun hHeld => ?_)
  refine wpAnyH_take (i := 0) (v := ?_) (by simp only [List.getElem?_toArray, List.getElem?_cons_succ, List.getElem?_cons_zero]; rfl) (by kernel_rfl) (by kernel_rfl) (by kernel_rfl) (by exact fun _ _ _ h => h) (Or.inl ⟨by rfl, ?_⟩) hHeld ?_
  rotate_left
  · intro W' hW'; obtain ⟨y0,y1,y2,y3,y4,y5,y6⟩ := hcells W' hW'; go_simp <;> with_reducible rfl
  simp only [Act.put, List.setIfInBounds_toArray, List.set_cons_zero, List.set_cons_succ]
  refine wpAnyH_take (i := 1) (v := ?_) (by simp only [List.getElem?_toArray, List.getElem?_cons_succ, List.getElem?_cons_zero]; rfl) (by kernel_rfl) (by kernel_rfl) (by kernel_rfl) (by exact fun _ _ _ h => h) (Or.inl ⟨by rfl, ?_⟩) hHeld ?_
  rotate_left
  · intro W' hW'; go_simp <;> with_reducible rfl
  simp only [Act.put, List.setIfInBounds_toArray, List.set_cons_zero, List.set_cons_succ]
  refine wpAnyH_take (i := 2) (v := ?_) (by simp only [List.getElem?_toArray, List.getElem?_cons_succ, List.getElem?_cons_zero]; rfl) (by kernel_rfl) (by kernel_rfl) (by kernel_rfl) (by exact fun _ _ _ h => h) (Or.inl ⟨by rfl, ?_⟩) hHeld ?_
  rotate_left
  · intro W' hW'; obtain ⟨y0,y1,y2,y3,y4,y5,y6⟩ := hcells W' hW'; go_simp <;> with_reducible rfl
  simp only [Act.put, List.setIfInBounds_toArray, List.set_cons_zero, List.set_cons_succ]
  refine wpAnyH_take (i := 3) (v := ?_) (by simp only [List.getElem?_toArray, List.getElem?_cons_succ, List.getElem?_cons_zero]; rfl) (by kernel_rfl) (by kernel_rfl) (by kernel_rfl) (by exact fun _ _ _ h => h) (Or.inl ⟨by rfl, ?_⟩) hHeld ?_
  rotate_left
  · intro W' hW'; go_simp <;> with_reducible rfl
  simp only [Act.put, List.setIfInBounds_toArray, List.set_cons_zero, List.set_cons_succ]
  refine wpAnyH_take (i := 4) (v := ?_) (by simp only [List.getElem?_toArray, List.getElem?_cons_succ, List.getElem?_cons_zero]; rfl) (by kernel_rfl) (by kernel_rfl) (by kernel_rfl) (by exact fun _ _ _ h => h) (Or.inl ⟨by rfl, ?_⟩) hHeld ?_
  rotate_left
  · intro W' hW'; obtain ⟨y0,y1,y2,y3,y4,y5,y6⟩ := hcells W' hW'; go_simp <;> with_reducible rfl
  simp only [Act.put, List.setIfInBounds_toArray, List.set_cons_zero, List.set_cons_succ]
  refine wpAnyH_take (i := 5) (v := ?_) (by simp only [List.getElem?_toArray, List.getElem?_cons_succ, List.getElem?_cons_zero]; rfl) (by kernel_rfl) (by kernel_rfl) (by kernel_rfl) (by exact fun _ _ _ h => h) (Or.inl ⟨by rfl, ?_⟩) hHeld ?_
  rotate_left
  · intro W' hW'; go_simp <;> with_reducible rfl
  simp only [Act.put, List.setIfInBounds_toArray, List.set_cons_zero, List.set_cons_succ]
  refine wpAnyH_take (i := 6) (v := ?_) (by simp only [List.getElem?_toArray, List.getElem?_cons_succ, List.getElem?_cons_zero]; rfl) (by kernel_rfl) (by kernel_rfl) (by kernel_rfl) (by exact fun _ _ _ h => h) (Or.inl ⟨by rfl, ?_⟩) hHeld ?_
  rotate_left
  · intro W' hW'; go_simp <;> with_reducible rfl
  simp only [Act.put, List.setIfInBounds_toArray, List.set_cons_zero, List.set_cons_succ]
  refine wpAnyH_take (i := 7) (v := ?_) (by simp only [List.getElem?_toArray, List.getElem?_cons_succ, List.getElem?_cons_zero]; rfl) (by kernel_rfl) (by kernel_rfl) (by kernel_rfl) (by exact fun _ _ _ h => h) (Or.inl ⟨by rfl, ?_⟩) hHeld ?_
  rotate_left
  · intro W' hW'; go_simp <;> with_reducible rfl
  simp only [Act.put, List.setIfInBounds_toArray, List.set_cons_zero, List.set_cons_succ]
  refine wpAnyH_take (i := 8) (v := ?_) (by simp only [List.getElem?_toArray, List.getElem?_cons_succ, List.getElem?_cons_zero]; rfl) (by kernel_rfl) (by kernel_rfl) (by kernel_rfl) (by exact fun _ _ _ h => h) (Or.inl ⟨by rfl, ?_⟩) hHeld ?_
  rotate_left
  · intro W' hW'; obtain ⟨y0,y1,y2,y3,y4,y5,y6⟩ := hcells W' hW'; go_simp <;> with_reducible rfl
  simp only [Act.put, List.setIfInBounds_toArray, List.set_cons_zero, List.set_cons_succ]
  refine wpAnyH_take (i := 9) (v := ?_) (by simp only [List.getElem?_toArray, List.getElem?_cons_succ, List.getElem?_cons_zero]; rfl) (by kernel_rfl) (by kernel_rfl) (by kernel_rfl) (by exact fun _ _ _ h => h) (Or.inl ⟨by rfl, ?_⟩) hHeld ?_
  rotate_left
  · intro W' hW'; go_simp <;> with_reducible rfl
  simp only [Act.put, List.setIfInBounds_toArray, List.set_cons_zero, List.set_cons_succ]
  refine wpAnyH_take (i := 10) (v := ?_) (by simp only [List.getElem?_toArray, List.getElem?_cons_succ, List.getElem?_cons_zero]; rfl) (by kernel_rfl) (by kernel_rfl) (by kernel_rfl) (by exact fun _ _ _ h => h) (Or.inl ⟨by rfl, ?_⟩) hHeld ?_
  rotate_left
  · intro W' hW'; go_simp <;> with_reducible rfl
  simp only [Act.put, List.setIfInBounds_toArray, List.set_cons_zero, List.set_cons_succ]
  refine wpAnyH_take (i := 11) (v := ?_) (by simp only [List.getElem?_toArray, List.getElem?_cons_succ, List.getElem?_cons_zero]; rfl) (by kernel_rfl) (by kernel_rfl) (by kernel_rfl) (by exact fun _ _ _ h => h) (Or.inl ⟨by rfl, ?_⟩) hHeld ?_
  rotate_left
  · intro W' hW'; go_simp <;> with_reducible rfl
  simp only [Act.put, List.setIfInBounds_toArray, List.set_cons_zero, List.set_cons_succ]
  refine wpAnyH_take (i := 12) (v := ?_) (by simp only [List.getElem?_toArray, List.getElem?_cons_succ, List.getElem?_cons_zero]; rfl) (by kernel_rfl) (by kernel_rfl) (by kernel_rfl) (by exact fun _ _ _ h => h) (Or.inl ⟨by rfl, ?_⟩) hHeld ?_
  rotate_left
  · intro W' hW'; obtain ⟨y0,y1,y2,y3,y4,y5,y6⟩ := hcells W' hW'; go_simp <;> with_reducible rfl
  simp only [Act.put, List.setIfInBounds_toArray, List.set_cons_zero, List.set_cons_succ]
  refine wpAnyH_take (i := 13) (v := ?_) (by simp only [List.getElem?_toArray, List.getElem?_cons_succ, List.getElem?_cons_zero]; rfl) (by kernel_rfl) (by kernel_rfl) (by kernel_rfl) (by exact fun _ _ _ h => h) (Or.inl ⟨by rfl, ?_⟩) hHeld ?_
  rotate_left
  · intro W' hW'; go_simp <;> with_reducible rfl
  simp only [Act.put, List.setIfInBounds_toArray, List.set_cons_zero, List.set_cons_succ]
  refine wpAnyH_take (i := 14) (v := ?_) (by simp only [List.getElem?_toArray, List.getElem?_cons_succ, List.getElem?_cons_zero]; rfl) (by kernel_rfl) (by kernel_rfl) (by kernel_rfl) (by exact fun _ _ _ h => h) (Or.inl ⟨by rfl, ?_⟩) hHeld ?_
  rotate_left
  · intro W' hW'; obtain ⟨y0,y1,y2,y3,y4,y5,y6⟩ := hcells W' hW'; go_simp <;> with_reducible rfl
  simp only [Act.put, List.setIfInBounds_toArray, List.set_cons_zero, List.set_cons_succ]
  refine wpAnyH_take (i := 15) (v := ?_) (by simp only [List.getElem?_toArray, List.getElem?_cons_succ, List.getElem?_cons_zero]; rfl) (by kernel_rfl) (by kernel_rfl) (by kernel_rfl) (by exact fun _ _ _ h => h) (Or.inl ⟨by rfl, ?_⟩) hHeld ?_
  rotate_left
  · intro W' hW'; go_simp <;> with_reducible rfl
  simp only [Act.put, List.setIfInBounds_toArray, List.set_cons_zero, List.set_cons_succ]
  refine wpAnyH_take (i := 16) (v := ?_) (by simp only [List.getElem?_toArray, List.getElem?_cons_succ, List.getElem?_cons_zero]; rfl) (by kernel_rfl) (by kernel_rfl) (by kernel_rfl) (by exact fun _ _ _ h => h) (Or.inl ⟨by rfl, ?_⟩) hHeld ?_
  rotate_left
  · intro W' hW'; go_simp <;> with_reducible rfl
  simp only [Act.put, List.setIfInBounds_toArray, List.set_cons_zero, List.set_cons_succ]
  refine wpAnyH_take (i := 17) (v := ?_) (by simp only [List.getElem?_toArray, List.getElem?_cons_succ, List.getElem?_cons_zero]; rfl) (by kernel_rfl) (by kernel_rfl) (by kernel_rfl) (by exact fun _ _ _ h => h) (Or.inl ⟨by rfl, ?_⟩) hHeld ?_
  rotate_left
  · intro W' hW'; obtain ⟨y0,y1,y2,y3,y4,y5,y6⟩ := hcells W' hW'; go_simp <;> with_reducible rfl
  simp only [Act.put, List.setIfInBounds_toArray, List.set_cons_zero, List.set_cons_succ]
  refine wpAnyH_ready (rs := [18]) (by kernel_rfl) (by simp) ?_
  refine AllReadyH.cons (by simp only [List.getElem?_toArray, List.getElem?_cons_succ, List.getElem?_cons_zero]; rfl) (fun K hK => ?_) AllReadyH.nil
  rw [if_pos (by rfl)]
  go_simp
  refine hK.out _ _ (hS5 _ _ _ _ hS4) (fun hHeld => ?_)
  clear hK K
  refine wpAnyH_take (i := 19) (v := ?_) (by simp only [List.getElem?_toArray, List.getElem?_cons_succ, List.getElem?_cons_zero]; rfl) (by kernel_rfl) (by kernel_rfl) (by kernel_rfl) (by exact fun _ _ _ h => h) (Or.inl ⟨by rfl, ?_⟩) hHeld ?_
  rotate_left
  · intro W' hW'; go_simp <;> with_reducible rfl
  simp only [Act.put, List.setIfInBounds_toArray, List.set_cons_zero, List.set_cons_succ]
  refine wpAnyH_done (by kernel_rfl) ?_ _
  have R9 := Var3.putAll (w := W4) ⟨r0, r1, r2, d0, d1, d2⟩ (.slice (some ⟨A .fr, 0, none⟩) 8 cf) (.slice (some ⟨A .gs, 0, none⟩) n cg) (.int .i64 h1.hand)
  have lR9 : w.heap.size + 1 < ((((W4.setCell ⟨w.heap.size + 1, 0, none⟩ (.slice (some ⟨A .fr, 0, none⟩) 8 cf)).setCell ⟨w.heap.size + 1, 1, none⟩ (.slice (some ⟨A .gs, 0, none⟩) n cg)).setCell ⟨w.heap.size + 1, 2, none⟩ (.int .i64 h1.hand)).drew).heap.size := by simpa using lR4
  have M9 := M9.out
  clear r0 r1 r2 d0 d1 d2 hHeld hS4 hS5 hSd hcells
  generalize ((W4.setCell ⟨w.heap.size + 1, 0, none⟩ (.slice (some ⟨A .fr, 0, none⟩) 8 cf)).setCell ⟨w.heap.size + 1, 1, none⟩ (.slice (some ⟨A .gs, 0, none⟩) n cg)).setCell ⟨w.heap.size + 1, 2, none⟩ (.int .i64 h1.hand) = W9 at *
  obtain ⟨r0, r1, r2, d0, d1, d2⟩ := Var3.same (w' := W9.drew) R9 rfl
  clear R9
  go_wp2
  refine bodyPost_ret (v := .tuple #[.agg #[.slice (some ⟨A .fr, 0, none⟩) 8 cf, .slice (some ⟨A .gs, 0, none⟩) n cg, .int .i64 h1.hand], .int .i64 z]) (by simp [results, Try.results120, go_sem, *]) rfl ?_
  exact ⟨rfl, A1, M9⟩
end Go.Proofs.Ytjegndgdpmlbaaa
