/-
  What the given l14Walk does.
-/
import Derived.Test.YtjegndgdpmlbaaaKOAC
import Derived.Test.YtjegndgdpmlbaaaKOPA
set_option linter.unusedSimpArgs false
namespace Go.Proofs.Ytjegndgdpmlbaaa
open Go.RowKit
attribute [local go_sem ↓] Go.wp_at_zero Go.wp_at_succ exec_app
attribute [local go_sem] bigNext_ok

theorem zAt_bd {h : Hst} (k : OkH h) {g p o : Nat} (hg : g < h.guests.length) (hp : p < 6) (ho : o < 4) : 0 ≤ zAt h g p o ∧ zAt h g p o ≤ 63 := by
  have e := pAt_ok k hg hp
  simp only [okP, Bool.and_eq_true, beq_iff_eq, List.all_eq_true] at e
  have hx := e.1 (zAt h g p o) (by rw [zAt, List.getD_eq_getElem?_getD, List.getElem?_eq_getElem (by omega), Option.getD_some]; exact List.getElem_mem _)
  simpa [okZ] using hx

set_option maxRecDepth 100000 in
set_option maxHeartbeats 4000000 in
theorem specWalk14 (N : Nat) (A : Pl → Nat) (h : Hst) (g i : Nat) (n cf cg : Nat) (w : World) (k : SepH w N A h) (kk : OkH h) (hn : h.guests.length = n) (hg : g < n) (hi : i < 6) (hN : N ≤ w.heap.size) :
    Calls Try.prog 127 #[.agg #[.slice (some ⟨A .fr, 0, none⟩) 8 cf, .slice (some ⟨A .gs, 0, none⟩) n cg, .int .i64 h.hand], .int .i64 g, .int .i64 i] w fun e w' => e = .returned (.tuple #[.agg #[.slice (some ⟨A .fr, 0, none⟩) 8 cf, .slice (some ⟨A .gs, 0, none⟩) n cg, .int .i64 (inP h g (i / 4)).hand], ent (eAt h g i).1 (eAt h g i).2.1 (eAt h g i).2.2]) ∧ ∃ A', Mv w w' w.heap.size N n A A' (inP h g (i / 4)) := by
  obtain ⟨W3, hW3⟩ : ∃ W3, W3 = ((w.alloc (.cells #[.slice (some ⟨A .fr, 0, none⟩) 8 cf, .slice (some ⟨A .gs, 0, none⟩) n cg, .int .i64 h.hand] 26)).alloc (.cells #[.slice none 0 0, .slice none 0 0, .int .i64 0] 26)).alloc (.cells #[.bool false, .int .i64 0, .bool false] 149) := ⟨_, rfl⟩
  have B3 : Below w.heap.size w W3 := by rw [hW3]; exact (((Below.refl _ _).alloc (Nat.le_refl _) _).alloc (by simp) _).alloc (by simp; omega) _
  have s3 : W3.heap.size = w.heap.size + 3 := by rw [hW3]; simp
  have p3 : Var3 W3 w.heap.size (.slice (some ⟨A .fr, 0, none⟩) 8 cf) (.slice (some ⟨A .gs, 0, none⟩) n cg) (.int .i64 h.hand) := by rw [hW3]; exact ((var3_new w _ _ _ _).allocK _).allocK _
  have r3 : Var3 W3 (w.heap.size + 1) (.slice none 0 0) (.slice none 0 0) (.int .i64 0) := by rw [hW3]; exact (var3_newK (by simp)).allocK _
  have e3 : Var3 W3 (w.heap.size + 2) (.bool false) (.int .i64 0) (.bool false) := by rw [hW3]; exact var3_newK (by simp)
  have hAl : ∀ x, x.ok n → A x < w.heap.size := fun x hx => (k.low x (by rw [hn]; exact hx)).2
  have m3 : Mv w W3 (w.heap.size + 3) N n A A h := Mv.start k hn B3 hN (Nat.le_add_right _ _) (by omega)
  have hr := specRead14 N A h g (i / 4) (i % 4) n cf cg W3 m3.sep kk hn hg (by omega) (by omega) (by omega)
  obtain ⟨hz0, hz1⟩ := zAt_bd kk (show g < h.guests.length by omega) (show i / 4 < 6 by omega) (show i % 4 < 4 by omega)
  have hE := fun W => specEntryOf (zAt h g (i / 4) (i % 4)) W (by omega) (by omega)
  rw [show ent (inW (zAt h g (i / 4) (i % 4))) (pgW (zAt h g (i / 4) (i % 4))) (wrW (zAt h g (i / 4) (i % 4))) = ent (eAt h g i).1 (eAt h g i).2.1 (eAt h g i).2.2 from rfl] at hE
  generalize (eAt h g i).1 = b0 at *
  generalize (eAt h g i).2.1 = b1 at *
  generalize (eAt h g i).2.2 = b2 at *
  generalize zAt h g (i / 4) (i % 4) = z at *
  generalize inP h g (i / 4) = h1 at *
  unfold ent at hE ⊢
  replace hE := hidE hE
  have ei : ((i : Int) / 4) = ((i / 4 : Nat) : Int) := by omega
  have ej : ((i : Int) % 4) = ((i % 4 : Nat) : Int) := by omega
  replace ei := hidE ei
  replace ej := hidE ej
  replace m3 := hidE m3
  replace p3 := hidE p3
  replace r3 := hidE r3
  replace e3 := hidE e3
  clear B3 kk k
  go_enter Try.func127, Try.ntmps127
  go_wp2_with (fail)
  rw [← hW3, ei.out, ej.out]
  clear hW3
  refine hr.mono ?_
  rintro e w4 ⟨rfl, A1, M4⟩
  have s4 := M4.size
  have M04 := hidE (m3.out.call hAl M4)
  have R4 := hidE (r3.out.same (m3.out.own hAl M4 (by omega) (by omega)))
  have E4 := hidE (e3.out.same (m3.out.own hAl M4 (by omega) (by omega)))
  obtain ⟨W5, hW5⟩ : ∃ W5, W5 = w4.alloc (.cells #[.slice (some ⟨A .fr, 0, none⟩) 8 cf, .slice (some ⟨A .gs, 0, none⟩) n cg, .int .i64 h1.hand] 26) := ⟨_, rfl⟩
  have B5 : Below w4.heap.size w4 W5 := by rw [hW5]; exact (Below.refl _ _).alloc (Nat.le_refl _) _
  have s5 : W5.heap.size = w4.heap.size + 1 := by rw [hW5]; simp
  have x5 : Var3 W5 w4.heap.size (.slice (some ⟨A .fr, 0, none⟩) 8 cf) (.slice (some ⟨A .gs, 0, none⟩) n cg) (.int .i64 h1.hand) := by rw [hW5]; exact var3_new _ _ _ _ _
  have R5 := hidE (R4.out.belowK B5)
  have E5 := hidE (E4.out.belowK B5)
  have M05 := hidE (M04.out.below hN B5)
  clear hr M4 M04 R4 E4 B5 m3 p3 r3 e3
  obtain ⟨y0, y1, y2, _, _, _⟩ := x5
  have lw : w.heap.size + 2 < w4.heap.size := by omega
  have l45 : w4.heap.size < W5.heap.size := by omega
  go_wp2_with (fail)
  rw [← hW5]
  clear hW5
  go_region_with (go_at_call 129; refine (hE.out _).mono ?_; rintro e w6 ⟨rfl, B6⟩; replace B6 := hidE (((Below.refl _ W5).drew).trans B6); have v0 := (B6.out.cell (p := ⟨w4.heap.size, 0, none⟩) l45).trans y0; have v1 := (B6.out.cell (p := ⟨w4.heap.size, 1, none⟩) l45).trans y1; have v2 := (B6.out.cell (p := ⟨w4.heap.size, 2, none⟩) l45).trans y2; obtain ⟨r0, r1, r2, f0, f1, f2⟩ := R5.out.belowK B6.out; obtain ⟨e0, e1, e2, g0, g1, g2⟩ := E5.out.belowK B6.out)
  all_goals
    have M06 := hidE (M05.out.below hN B6.out)
    have RV := hidE (show Var3 w6 (w.heap.size + 1) (.slice none 0 0) (.slice none 0 0) (.int .i64 0) from ⟨r0, r1, r2, f0, f1, f2⟩)
    have EV := hidE (show Var3 w6 (w.heap.size + 1 + 1) (.bool false) (.int .i64 0) (.bool false) from ⟨e0, e1, e2, g0, g1, g2⟩)
    clear B6 v0 v1 v2 r0 r1 r2 f0 f1 f2 e0 e1 e2 g0 g1 g2
    obtain ⟨Wa, hWa⟩ : ∃ Wa, Wa = ((w6.setCell ⟨w.heap.size + 1, 0, none⟩ (.slice (some ⟨A .fr, 0, none⟩) 8 cf)).setCell ⟨w.heap.size + 1, 1, none⟩ (.slice (some ⟨A .gs, 0, none⟩) n cg)).setCell ⟨w.heap.size + 1, 2, none⟩ (.int .i64 h1.hand) := ⟨_, rfl⟩
    have Ra := hidE (RV.out.putAll (.slice (some ⟨A .fr, 0, none⟩) 8 cf) (.slice (some ⟨A .gs, 0, none⟩) n cg) (.int .i64 h1.hand))
    have Ma := hidE (M06.out.off3 hAl (b := w.heap.size + 1) (by omega) (by omega) hN (.slice (some ⟨A .fr, 0, none⟩) 8 cf) (.slice (some ⟨A .gs, 0, none⟩) n cg) (.int .i64 h1.hand))
    rw [← hWa] at Ra Ma
    have Ea := hidE (EV.out.same (w' := Wa) (by rw [hWa, Below.heap_setCell _ _ _ _ (by simp), Below.heap_setCell _ _ _ _ (by simp), Below.heap_setCell _ _ _ _ (by simp)]))
    rw [← hWa]
    clear hWa RV EV M06
    obtain ⟨Wb, hWb⟩ : ∃ Wb, Wb = ((Wa.setCell ⟨w.heap.size + 1 + 1, 0, none⟩ (.bool b0)).setCell ⟨w.heap.size + 1 + 1, 1, none⟩ (.int .i64 b1)).setCell ⟨w.heap.size + 1 + 1, 2, none⟩ (.bool b2) := ⟨_, rfl⟩
    have Eb := Ea.out.putAll (.bool b0) (.int .i64 b1) (.bool b2)
    have Mb := hidE ((Ma.out.off3 hAl (b := w.heap.size + 1 + 1) (by omega) (by omega) hN (.bool b0) (.int .i64 b1) (.bool b2)).weak (Nat.le_refl _) (by omega))
    rw [← hWb] at Eb Mb
    have Rb := Ra.out.same (w' := Wb) (by rw [hWb, Below.heap_setCell _ _ _ _ (by simp), Below.heap_setCell _ _ _ _ (by simp), Below.heap_setCell _ _ _ _ (by simp)])
    rw [← hWb]
    clear hWb Ra Ma Ea
    obtain ⟨r0, r1, r2, _, _, _⟩ := Rb
    obtain ⟨e0, e1, e2, _, _, _⟩ := Eb
    go_wp2
    refine bodyPost_ret (v := .tuple #[.agg #[.slice (some ⟨A .fr, 0, none⟩) 8 cf, .slice (some ⟨A .gs, 0, none⟩) n cg, .int .i64 h1.hand], .agg #[.bool b0, .int .i64 b1, .bool b2]]) (by simp [results, Try.results127, go_sem, *]) rfl ?_
    exact ⟨rfl, A1, Mb.out⟩
end Go.Proofs.Ytjegndgdpmlbaaa

/-
  What the given l14ReadIn does.
-/
set_option linter.unusedSimpArgs false
namespace Go.Proofs.Ytjegndgdpmlbaaa
open Go.RowKit
attribute [local go_sem ↓] Go.wp_at_zero Go.wp_at_succ exec_app
attribute [local go_sem] bigNext_ok

/-- The cells that lead to a shade. -/
theorem SepH.shadeC {w : World} {N : Nat} {A : Pl → Nat} {h : Hst} (k : SepH w N A h) {g i : Nat} (hg : g < h.guests.length) (hi : i < 6) :
    (∃ c, w.cell? ⟨A .gs, g * 3 + 2, none⟩ = some (.slice (some ⟨A (.shd g), 0, none⟩) 6 c)) ∧ w.cell? ⟨A (.shd g), i * 4, none⟩ = some (.bool (sAt h g i).1) ∧ w.cell? ⟨A (.shd g), i * 4 + 1, none⟩ = some (.int .i64 (sAt h g i).2.1) ∧ w.cell? ⟨A (.shd g), i * 4 + 2, none⟩ = some (.int .i64 (sAt h g i).2.2.1) ∧ w.cell? ⟨A (.shd g), i * 4 + 3, none⟩ = some (.bool (sAt h g i).2.2.2) := by
  obtain ⟨_, _, q⟩ := (k.held .gs trivial).1 g hg
  obtain ⟨e0, e1, e2, e3⟩ := (k.held (.shd g) hg).1 i (by rw [(k.sz g hg).2.2.2]; exact hi)
  simp only [Nat.zero_add] at e0 e1 e2 e3
  exact ⟨q, e0, e1, e2, e3⟩

set_option maxRecDepth 100000 in
set_option maxHeartbeats 4000000 in
theorem specReadIn_has (N : Nat) (A : Pl → Nat) (h : Hst) (g i o : Nat) (n cf cg : Nat) (w : World) (k : SepH w N A h) (kk : OkH h) (hn : h.guests.length = n) (hg : g < n) (hi : i < 6) (ho4 : o < 4) (hN : N ≤ w.heap.size) (hs : (sAt h g i).1 = true) :
    Calls Try.prog 121 #[.agg #[.slice (some ⟨A .fr, 0, none⟩) 8 cf, .slice (some ⟨A .gs, 0, none⟩) n cg, .int .i64 h.hand], .int .i64 g, .int .i64 i, .int .i64 o] w fun e w' => e = .returned (.tuple #[.agg #[.slice (some ⟨A .fr, 0, none⟩) 8 cf, .slice (some ⟨A .gs, 0, none⟩) n cg, .int .i64 h.hand], .int .i64 (zAt h g (sAt h g i).2.1.toNat o)]) ∧ Mv w w' w.heap.size N n A A h := by
  obtain ⟨W2, hW2⟩ : ∃ W2, W2 = (w.alloc (.cells #[.slice (some ⟨A .fr, 0, none⟩) 8 cf, .slice (some ⟨A .gs, 0, none⟩) n cg, .int .i64 h.hand] 26)).alloc (.cells #[.slice none 0 0, .slice none 0 0, .int .i64 0] 26) := ⟨_, rfl⟩
  have B2 : Below w.heap.size w W2 := by rw [hW2]; exact ((Below.refl _ _).alloc (Nat.le_refl _) _).alloc (by simp) _
  have s2 : W2.heap.size = w.heap.size + 2 := by rw [hW2]; simp
  have p2 : Var3 W2 w.heap.size (.slice (some ⟨A .fr, 0, none⟩) 8 cf) (.slice (some ⟨A .gs, 0, none⟩) n cg) (.int .i64 h.hand) := by rw [hW2]; exact (var3_new w _ _ _ _).allocK _
  have r2 : Var3 W2 (w.heap.size + 1) (.slice none 0 0) (.slice none 0 0) (.int .i64 0) := by rw [hW2]; exact var3_newK (by simp)
  have hAl : ∀ x, x.ok n → A x < w.heap.size := fun x hx => (k.low x (by rw [hn]; exact hx)).2
  have m2 : Mv w W2 (w.heap.size + 2) N n A A h := Mv.start k hn B2 hN (Nat.le_add_right _ _) (by omega)
  have hgh : g < h.guests.length := by omega
  obtain ⟨si2, si5, sim, sif, _⟩ := kk.si g i hgh hi hs
  obtain ⟨F, hF8, hmF⟩ := okH_fr kk hgh (show (sAt h g i).2.1.toNat < 6 by omega) sim
  obtain ⟨_, _, _, _, ⟨c2, q2⟩, q3⟩ := m2.sep.cells hgh (show (sAt h g i).2.1.toNat < 6 by omega) hF8 hmF ho4
  rw [← zAt_in sim hmF o] at q3
  rw [hmF] at sif
  obtain ⟨⟨c1, q1⟩, e0, e1, e2, e3⟩ := m2.sep.shadeC hgh hi
  rw [hs] at e0
  rw [← sif] at e2
  generalize zAt h g (sAt h g i).2.1.toNat o = z at *
  generalize (sAt h g i).2.1 = P at *
  generalize (sAt h g i).2.2.2 = wb at *
  have lG0 := hAl .gs trivial
  have lF0 := hAl .fr trivial
  have lP0 := hAl (.page F) hF8
  obtain ⟨W3, hW3⟩ : ∃ W3, W3 = W2.alloc (.cells #[.bool true, .int .i64 P, .int .i64 F, .bool wb] 49) := ⟨_, rfl⟩
  have B3 : Below W2.heap.size W2 W3 := by rw [hW3]; exact (Below.refl _ _).alloc (Nat.le_refl _) _
  have s3 : W3.heap.size = w.heap.size + 3 := by rw [hW3]; simp; omega
  have x3 : W3.cell? ⟨w.heap.size + 1 + 1, 0, none⟩ = some (.bool true) ∧ W3.cell? ⟨w.heap.size + 1 + 1, 2, none⟩ = some (.int .i64 F) := by rw [show w.heap.size + 1 + 1 = W2.heap.size from s2.symm, hW3]; simp
  have M3 := hidE (m2.below hN B3)
  have R3 := hidE (r2.belowK B3)
  obtain ⟨S, hSE⟩ : ∃ S : World → Prop, S = fun W' => W'.cell? ⟨w.heap.size, 0, none⟩ = some (.slice (some ⟨A .fr, 0, none⟩) 8 cf) ∧ W'.cell? ⟨w.heap.size, 1, none⟩ = some (.slice (some ⟨A .gs, 0, none⟩) n cg) ∧ W'.cell? ⟨w.heap.size, 2, none⟩ = some (.int .i64 h.hand) ∧ W'.cell? ⟨w.heap.size + 1 + 1, 2, none⟩ = some (.int .i64 F) ∧ W'.cell? ⟨A .fr, F, none⟩ = some (.slice (some ⟨A (.page F), 0, none⟩) 4 c2) ∧ W'.cell? ⟨A (.page F), o, none⟩ = some (.int .i64 z) := ⟨_, rfl⟩
  have hcells : ∀ W', S W' → W'.cell? ⟨w.heap.size, 0, none⟩ = some (.slice (some ⟨A .fr, 0, none⟩) 8 cf) ∧ W'.cell? ⟨w.heap.size, 1, none⟩ = some (.slice (some ⟨A .gs, 0, none⟩) n cg) ∧ W'.cell? ⟨w.heap.size, 2, none⟩ = some (.int .i64 h.hand) ∧ W'.cell? ⟨w.heap.size + 1 + 1, 2, none⟩ = some (.int .i64 F) ∧ W'.cell? ⟨A .fr, F, none⟩ = some (.slice (some ⟨A (.page F), 0, none⟩) 4 c2) ∧ W'.cell? ⟨A (.page F), o, none⟩ = some (.int .i64 z) := fun W' h => by rw [hSE] at h; exact h
  have hS3 : S W3 := by
    rw [hSE]
    have l2 : ∀ b, b < w.heap.size + 2 → b < W2.heap.size := fun b hb => by omega
    exact ⟨(B3.cell (p := ⟨w.heap.size, 0, none⟩) (l2 _ (by show w.heap.size < _; omega))).trans p2.1, (B3.cell (p := ⟨w.heap.size, 1, none⟩) (l2 _ (by show w.heap.size < _; omega))).trans p2.2.1, (B3.cell (p := ⟨w.heap.size, 2, none⟩) (l2 _ (by show w.heap.size < _; omega))).trans p2.2.2.1, x3.2, (B3.cell (p := ⟨A .fr, F, none⟩) (l2 _ (by show A .fr < _; omega))).trans q2, (B3.cell (p := ⟨A (.page F), o, none⟩) (l2 _ (by show A (.page F) < _; omega))).trans q3⟩
  have hSd : ∀ W', S W' → S W'.drew := fun W' h => by rw [hSE] at h ⊢; exact h
  have hS5 : ∀ u0 u1 u2, ∀ W', S W' → S (((W'.setCell ⟨w.heap.size + 1, 0, none⟩ u0).setCell ⟨w.heap.size + 1, 1, none⟩ u1).setCell ⟨w.heap.size + 1, 2, none⟩ u2).drew := fun u0 u1 u2 W' h => by
    refine hSd _ ?_
    rw [hSE] at h ⊢
    obtain ⟨x0, x1, x2, x3, x4, x5⟩ := h
    have k0 : w.heap.size ≠ w.heap.size + 1 := by omega
    have k1 : w.heap.size + 1 + 1 ≠ w.heap.size + 1 := by omega
    have k2 : A .fr ≠ w.heap.size + 1 := by omega
    have k3 : A (.page F) ≠ w.heap.size + 1 := by omega
    exact ⟨(off3c k0).trans x0, (off3c k0).trans x1, (off3c k0).trans x2, (off3c k1).trans x3, (off3c k2).trans x4, (off3c k3).trans x5⟩
  have M9 := hidE (show Mv w (((W3.setCell ⟨w.heap.size + 1, 0, none⟩ (.slice (some ⟨A .fr, 0, none⟩) 8 cf)).setCell ⟨w.heap.size + 1, 1, none⟩ (.slice (some ⟨A .gs, 0, none⟩) n cg)).setCell ⟨w.heap.size + 1, 2, none⟩ (.int .i64 h.hand)).drew w.heap.size N n A A h from ((M3.out.off3 hAl (b := w.heap.size + 1) (by omega) (by omega) hN _ _ _).below hN (Below.refl _ _).drew).weak (Nat.le_refl _) (by omega))
  have hgi : (g : Int) < (n : Int) := by omega
  have hii : (i : Int) < 6 := by omega
  have hoi : (o : Int) < 4 := by omega
  have hFi : (F : Int) < 8 := by omega
  obtain ⟨pp0, pp1, pp2, _, _, _⟩ := p2
  obtain ⟨x30, _⟩ := x3
  rw [hW2] at q1 e0 e1 e2 e3
  clear hSE m2 M3 B3 B2 k kk sim sif si2 si5 hmF r2 q2 q3
  go_enter Try.func121, Try.ntmps121
  go_wp2_with (fail)
  rw [← hW2, ← hW3]
  have lR3 : w.heap.size + 1 < W3.heap.size := by omega
  clear hW2 hW3 pp0 pp1 pp2 q1 e0 e1 e2 e3 x30
  obtain ⟨r0, r1, r2, d0, d1, d2⟩ := R3.out
  refine wp_region_held_drew (S := S) (by kernel_rfl) (hSd _ hS3) (fun hHeld => ?_)
  refine wpAnyH_take (i := 0) (v := ?_) (by simp only [List.getElem?_toArray, List.getElem?_cons_succ, List.getElem?_cons_zero]; rfl) (by kernel_rfl) (by kernel_rfl) (by kernel_rfl) (by exact fun _ _ _ h => h) (Or.inl ⟨by rfl, ?_⟩) hHeld ?_
  rotate_left
  · intro W' hW'; obtain ⟨y0,y1,y2,y3,y4,y5⟩ := hcells W' hW'; go_simp <;> with_reducible rfl
  simp only [Act.put, List.setIfInBounds_toArray, List.set_cons_zero, List.set_cons_succ]
  refine wpAnyH_take (i := 1) (v := ?_) (by simp only [List.getElem?_toArray, List.getElem?_cons_succ, List.getElem?_cons_zero]; rfl) (by kernel_rfl) (by kernel_rfl) (by kernel_rfl) (by exact fun _ _ _ h => h) (Or.inl ⟨by rfl, ?_⟩) hHeld ?_
  rotate_left
  · intro W' hW'; go_simp <;> with_reducible rfl
  simp only [Act.put, List.setIfInBounds_toArray, List.set_cons_zero, List.set_cons_succ]
  refine wpAnyH_take (i := 2) (v := ?_) (by simp only [List.getElem?_toArray, List.getElem?_cons_succ, List.getElem?_cons_zero]; rfl) (by kernel_rfl) (by kernel_rfl) (by kernel_rfl) (by exact fun _ _ _ h => h) (Or.inl ⟨by rfl, ?_⟩) hHeld ?_
  rotate_left
  · intro W' hW'; obtain ⟨y0,y1,y2,y3,y4,y5⟩ := hcells W' hW'; go_simp <;> with_reducible rfl
  simp only [Act.put, List.setIfInBounds_toArray, List.set_cons_zero, List.set_cons_succ]
  refine wpAnyH_take (i := 3) (v := ?_) (by simp only [List.getElem?_toArray, List.getElem?_cons_succ, List.getElem?_cons_zero]; rfl) (by kernel_rfl) (by kernel_rfl) (by kernel_rfl) (by exact fun _ _ _ h => h) (Or.inl ⟨by rfl, ?_⟩) hHeld ?_
  rotate_left
  · intro W' hW'; go_simp <;> with_reducible rfl
  simp only [Act.put, List.setIfInBounds_toArray, List.set_cons_zero, List.set_cons_succ]
  refine wpAnyH_take (i := 4) (v := ?_) (by simp only [List.getElem?_toArray, List.getElem?_cons_succ, List.getElem?_cons_zero]; rfl) (by kernel_rfl) (by kernel_rfl) (by kernel_rfl) (by exact fun _ _ _ h => h) (Or.inl ⟨by rfl, ?_⟩) hHeld ?_
  rotate_left
  · intro W' hW'; obtain ⟨y0,y1,y2,y3,y4,y5⟩ := hcells W' hW'; go_simp <;> with_reducible rfl
  simp only [Act.put, List.setIfInBounds_toArray, List.set_cons_zero, List.set_cons_succ]
  refine wpAnyH_take (i := 5) (v := ?_) (by simp only [List.getElem?_toArray, List.getElem?_cons_succ, List.getElem?_cons_zero]; rfl) (by kernel_rfl) (by kernel_rfl) (by kernel_rfl) (by exact fun _ _ _ h => h) (Or.inl ⟨by rfl, ?_⟩) hHeld ?_
  rotate_left
  · intro W' hW'; go_simp <;> with_reducible rfl
  simp only [Act.put, List.setIfInBounds_toArray, List.set_cons_zero, List.set_cons_succ]
  refine wpAnyH_take (i := 6) (v := ?_) (by simp only [List.getElem?_toArray, List.getElem?_cons_succ, List.getElem?_cons_zero]; rfl) (by kernel_rfl) (by kernel_rfl) (by kernel_rfl) (by exact fun _ _ _ h => h) (Or.inl ⟨by rfl, ?_⟩) hHeld ?_
  rotate_left
  · intro W' hW'; obtain ⟨y0,y1,y2,y3,y4,y5⟩ := hcells W' hW'; go_simp <;> with_reducible rfl
  simp only [Act.put, List.setIfInBounds_toArray, List.set_cons_zero, List.set_cons_succ]
  refine wpAnyH_take (i := 7) (v := ?_) (by simp only [List.getElem?_toArray, List.getElem?_cons_succ, List.getElem?_cons_zero]; rfl) (by kernel_rfl) (by kernel_rfl) (by kernel_rfl) (by exact fun _ _ _ h => h) (Or.inl ⟨by rfl, ?_⟩) hHeld ?_
  rotate_left
  · intro W' hW'; go_simp <;> with_reducible rfl
  simp only [Act.put, List.setIfInBounds_toArray, List.set_cons_zero, List.set_cons_succ]
  refine wpAnyH_take (i := 8) (v := ?_) (by simp only [List.getElem?_toArray, List.getElem?_cons_succ, List.getElem?_cons_zero]; rfl) (by kernel_rfl) (by kernel_rfl) (by kernel_rfl) (by exact fun _ _ _ h => h) (Or.inl ⟨by rfl, ?_⟩) hHeld ?_
  rotate_left
  · intro W' hW'; go_simp <;> with_reducible rfl
  simp only [Act.put, List.setIfInBounds_toArray, List.set_cons_zero, List.set_cons_succ]
  refine wpAnyH_take (i := 9) (v := ?_) (by simp only [List.getElem?_toArray, List.getElem?_cons_succ, List.getElem?_cons_zero]; rfl) (by kernel_rfl) (by kernel_rfl) (by kernel_rfl) (by exact fun _ _ _ h => h) (Or.inl ⟨by rfl, ?_⟩) hHeld ?_
  rotate_left
  · intro W' hW'; obtain ⟨y0,y1,y2,y3,y4,y5⟩ := hcells W' hW'; go_simp <;> with_reducible rfl
  simp only [Act.put, List.setIfInBounds_toArray, List.set_cons_zero, List.set_cons_succ]
  refine wpAnyH_ready (rs := [10]) (by kernel_rfl) (by simp) ?_
  refine AllReadyH.cons (by simp only [List.getElem?_toArray, List.getElem?_cons_succ, List.getElem?_cons_zero]; rfl) (fun K hK => ?_) AllReadyH.nil
  rw [if_pos (by rfl)]
  go_simp
  refine hK.out _ _ (hS5 _ _ _ _ hS3) (fun hHeld => ?_)
  clear hK K
  refine wpAnyH_take (i := 11) (v := ?_) (by simp only [List.getElem?_toArray, List.getElem?_cons_succ, List.getElem?_cons_zero]; rfl) (by kernel_rfl) (by kernel_rfl) (by kernel_rfl) (by exact fun _ _ _ h => h) (Or.inl ⟨by rfl, ?_⟩) hHeld ?_
  rotate_left
  · intro W' hW'; go_simp <;> with_reducible rfl
  simp only [Act.put, List.setIfInBounds_toArray, List.set_cons_zero, List.set_cons_succ]
  refine wpAnyH_done (by kernel_rfl) ?_ _
  have R9 := Var3.putAll (w := W3) ⟨r0, r1, r2, d0, d1, d2⟩ (.slice (some ⟨A .fr, 0, none⟩) 8 cf) (.slice (some ⟨A .gs, 0, none⟩) n cg) (.int .i64 h.hand)
  have M9 := M9.out
  clear r0 r1 r2 d0 d1 d2 hHeld hS3 hS5 hSd hcells R3
  generalize ((W3.setCell ⟨w.heap.size + 1, 0, none⟩ (.slice (some ⟨A .fr, 0, none⟩) 8 cf)).setCell ⟨w.heap.size + 1, 1, none⟩ (.slice (some ⟨A .gs, 0, none⟩) n cg)).setCell ⟨w.heap.size + 1, 2, none⟩ (.int .i64 h.hand) = W9 at *
  obtain ⟨r0, r1, r2, d0, d1, d2⟩ := Var3.same (w' := W9.drew) R9 rfl
  clear R9
  go_wp2
  refine bodyPost_ret (v := .tuple #[.agg #[.slice (some ⟨A .fr, 0, none⟩) 8 cf, .slice (some ⟨A .gs, 0, none⟩) n cg, .int .i64 h.hand], .int .i64 z]) (by simp [results, Try.results121, go_sem, *]) rfl ?_
  exact ⟨rfl, M9⟩
end Go.Proofs.Ytjegndgdpmlbaaa

/-
  What the given l14ReadIn does where there is no shade.
-/
set_option linter.unusedSimpArgs false
namespace Go.Proofs.Ytjegndgdpmlbaaa
open Go.RowKit
attribute [local go_sem ↓] Go.wp_at_zero Go.wp_at_succ exec_app
attribute [local go_sem] bigNext_ok

set_option maxRecDepth 100000 in
set_option maxHeartbeats 4000000 in
theorem specReadIn_not (N : Nat) (A : Pl → Nat) (h : Hst) (g i o : Nat) (n cf cg : Nat) (w : World) (k : SepH w N A h) (kk : OkH h) (hn : h.guests.length = n) (hg : g < n) (hi : i < 6) (ho4 : o < 4) (hN : N ≤ w.heap.size) (hs : (sAt h g i).1 = false) :
    Calls Try.prog 121 #[.agg #[.slice (some ⟨A .fr, 0, none⟩) 8 cf, .slice (some ⟨A .gs, 0, none⟩) n cg, .int .i64 h.hand], .int .i64 g, .int .i64 i, .int .i64 o] w fun e w' => e = .returned (.tuple #[.agg #[.slice (some ⟨A .fr, 0, none⟩) 8 cf, .slice (some ⟨A .gs, 0, none⟩) n cg, .int .i64 (rinH h g i).hand], .int .i64 (rinG h g i o)]) ∧ ∃ A', Mv w w' w.heap.size N n A A' (rinH h g i) := by
  obtain ⟨W2, hW2⟩ : ∃ W2, W2 = (w.alloc (.cells #[.slice (some ⟨A .fr, 0, none⟩) 8 cf, .slice (some ⟨A .gs, 0, none⟩) n cg, .int .i64 h.hand] 26)).alloc (.cells #[.slice none 0 0, .slice none 0 0, .int .i64 0] 26) := ⟨_, rfl⟩
  have B2 : Below w.heap.size w W2 := by rw [hW2]; exact ((Below.refl _ _).alloc (Nat.le_refl _) _).alloc (by simp) _
  have s2 : W2.heap.size = w.heap.size + 2 := by rw [hW2]; simp
  have p2 : Var3 W2 w.heap.size (.slice (some ⟨A .fr, 0, none⟩) 8 cf) (.slice (some ⟨A .gs, 0, none⟩) n cg) (.int .i64 h.hand) := by rw [hW2]; exact (var3_new w _ _ _ _).allocK _
  have r2 : Var3 W2 (w.heap.size + 1) (.slice none 0 0) (.slice none 0 0) (.int .i64 0) := by rw [hW2]; exact var3_newK (by simp)
  have hAl : ∀ x, x.ok n → A x < w.heap.size := fun x hx => (k.low x (by rw [hn]; exact hx)).2
  have m2 : Mv w W2 (w.heap.size + 2) N n A A h := Mv.start k hn B2 hN (Nat.le_add_right _ _) (by omega)
  have hgh : g < h.guests.length := by omega
  obtain ⟨⟨c1, q1⟩, e0, e1, e2, e3⟩ := m2.sep.shadeC hgh hi
  rw [kk.so g i hgh hi hs] at e0 e1 e2 e3
  simp only [noS] at e0 e1 e2 e3
  have lG0 := hAl .gs trivial
  obtain ⟨W3, hW3⟩ : ∃ W3, W3 = W2.alloc (.cells #[.bool false, .int .i64 0, .int .i64 0, .bool false] 49) := ⟨_, rfl⟩
  have B3 : Below W2.heap.size W2 W3 := by rw [hW3]; exact (Below.refl _ _).alloc (Nat.le_refl _) _
  have s3 : W3.heap.size = w.heap.size + 3 := by rw [hW3]; simp; omega
  have p3 := hidE (p2.belowK B3)
  have r3 := hidE (r2.belowK B3)
  have m3 : Mv w W3 (w.heap.size + 3) N n A A h := Mv.start k hn (B2.trans (B3.mono B2.size)) hN (Nat.le_add_right _ _) (by omega)
  have hwalk := specWalk14 N A h g i n cf cg W3 m3.sep kk hn hg hi (by omega)
  obtain ⟨k1, _, _⟩ := inP_ok kk hgh (show i / 4 < 6 by omega)
  have l1 := inP_len kk g (i / 4)
  have hrH : rinH h g i = bif (eAt h g i).1 then setS (inP (inP h g (i / 4)) g (eAt h g i).2.1.toNat) g i (castS (inP (inP h g (i / 4)) g (eAt h g i).2.1.toNat) g (eAt h g i).2.1.toNat (eAt h g i).2.2) else inP h g (i / 4) := by rw [rinH, hs]; rfl
  have hrG : rinG h g i o = bif (eAt h g i).1 then zAt h g (eAt h g i).2.1.toNat o else -1 := by rw [rinG, hs]; rfl
  have hent := entE_in (z := zAt h g (i / 4) (i % 4))
  rw [show entE (zAt h g (i / 4) (i % 4)) = eAt h g i from rfl] at hent
  have hzz : ∀ p, p < 6 → zAt (inP h g (i / 4)) g p o = zAt h g p o := fun p hp => zAt_inP kk hgh (show i / 4 < 6 by omega) hgh hp o
  rw [hrH, hrG]
  clear hrH hrG
  unfold ent at hwalk
  generalize inP h g (i / 4) = h1 at *
  generalize eAt h g i = E at *
  obtain ⟨b0, b1, b2⟩ := E
  simp only at hwalk hent ⊢
  have m3' := hidE m3
  have k1 := hidE k1
  have hent := hidE hent
  have hzz := hidE hzz
  rw [hW2] at q1 e0 e1 e2 e3
  obtain ⟨pp0, pp1, pp2, _, _, _⟩ := p2
  rw [hW2] at hW3
  clear m2 B3 B2 kk k m3 r2 hW2 pp0 pp1 pp2
  go_enter Try.func121, Try.ntmps121
  go_wp2_with (fail)
  rw [← hW3]
  clear hW3 q1 e0 e1 e2 e3
  refine hwalk.mono ?_
  rintro e w4 ⟨rfl, A1, M4⟩
  have s4 := M4.size
  have hN4 : N ≤ w4.heap.size := by omega
  have M04 := hidE (m3'.out.call hAl M4)
  have R4 := r3.out.same (m3'.out.own hAl M4 (by omega) (by omega))
  have hAl1 : ∀ x, x.ok n → A1 x < w4.heap.size := fun x hx => (M4.sep.low x (by rw [M4.len]; exact hx)).2
  obtain ⟨W5, hW5⟩ : ∃ W5, W5 = (w4.alloc (.cells #[.slice (some ⟨A .fr, 0, none⟩) 8 cf, .slice (some ⟨A .gs, 0, none⟩) n cg, .int .i64 h1.hand] 26)).alloc (.cells #[.bool b0, .int .i64 b1, .bool b2] 149) := ⟨_, rfl⟩
  have B5 : Below w4.heap.size w4 W5 := by rw [hW5]; exact ((Below.refl _ _).alloc (Nat.le_refl _) _).alloc (by simp) _
  have s5 : W5.heap.size = w4.heap.size + 2 := by rw [hW5]; simp
  have X5 := hidE (show Var3 W5 w4.heap.size (.slice (some ⟨A .fr, 0, none⟩) 8 cf) (.slice (some ⟨A .gs, 0, none⟩) n cg) (.int .i64 h1.hand) by rw [hW5]; exact (var3_new w4 _ _ _ _).allocK _)
  have E5 := hidE (show Var3 W5 (w4.heap.size + 1) (.bool b0) (.int .i64 b1) (.bool b2) by rw [hW5]; exact var3_newK (by simp))
  have R5 := hidE (R4.belowK B5)
  have n5 := hidE (Mv.start M4.sep M4.len B5 hN4 (Nat.le_add_right _ 2) (by omega))
  have fgs := hidE (show A1 .gs = A .gs ∧ A1 .fr = A .fr from ⟨M4.gs, M4.fr⟩)
  have k5 := hidE n5.out.sep
  have l5 : h1.guests.length = n := M4.len
  have B5 := hidE B5
  have R4 := hidE R4
  clear hwalk M4 m3' p3 r3 l1
  cases b0
  · obtain ⟨r0, r1, r2, f0, f1, f2⟩ := R5.out
    obtain ⟨x0, x1, x2, _, _, _⟩ := X5.out
    rw [hW5] at r0 r1 r2 f0 f1 f2 x0 x1 x2
    have Mf := hidE (((M04.out.below hN B5.out).off3 hAl (b := w.heap.size + 1) (by omega) (by omega) hN (.slice (some ⟨A .fr, 0, none⟩) 8 cf) (.slice (some ⟨A .gs, 0, none⟩) n cg) (.int .i64 h1.hand)).weak (Nat.le_refl _) (by omega))
    have Rf := hidE (R5.out.putAll (.slice (some ⟨A .fr, 0, none⟩) 8 cf) (.slice (some ⟨A .gs, 0, none⟩) n cg) (.int .i64 h1.hand))
    clear X5 E5 R5 n5 k5 M04 B5
    have lR : w.heap.size + 1 < w4.heap.size := by omega
    go_wp2_with (fail)
    rw [← hW5]
    clear hW5 r0 r1 r2 f0 f1 f2 x0 x1 x2
    generalize ((W5.setCell ⟨w.heap.size + 1, 0, none⟩ (.slice (some ⟨A .fr, 0, none⟩) 8 cf)).setCell ⟨w.heap.size + 1, 1, none⟩ (.slice (some ⟨A .gs, 0, none⟩) n cg)).setCell ⟨w.heap.size + 1, 2, none⟩ (.int .i64 h1.hand) = W9 at *
    obtain ⟨r0, r1, r2, _, _, _⟩ := Rf.out
    refine bodyPost_ret (v := .tuple #[.agg #[.slice (some ⟨A .fr, 0, none⟩) 8 cf, .slice (some ⟨A .gs, 0, none⟩) n cg, .int .i64 h1.hand], .int .i64 (-1)]) (by simp [results, Try.results121, go_sem, *]) rfl ?_
    exact ⟨rfl, A1, Mf.out⟩
  · obtain ⟨p, rfl⟩ : ∃ p : Nat, b1 = (p : Int) := ⟨b1.toNat, by have := (hent.out rfl).1; omega⟩
    have hp2 : 2 ≤ p := by have := (hent.out rfl).1; omega
    have hp5 : p ≤ 5 := by have := (hent.out rfl).2; omega
    have hin := specIn13 N A1 h1 g p n cf cg W5 k5.out (okHost_mk k1.out) l5 hg (by omega) (by omega)
    rw [fgs.out.1, fgs.out.2] at hin
    obtain ⟨kk2, _, hm2⟩ := inP_ok k1.out (show g < h1.guests.length by omega) (show p < 6 by omega)
    have hz2 := zAt_inP k1.out (show g < h1.guests.length by omega) (show p < 6 by omega) (show g < h1.guests.length by omega) (show p < 6 by omega) o
    have l2 := inP_len k1.out g p
    rw [hzz.out p (by omega)] at hz2
    obtain ⟨h2, hh2⟩ : ∃ h2, h2 = inP h1 g p := ⟨_, rfl⟩
    rw [← hh2] at hin kk2 hm2 hz2 l2
    have hend := hidE (And.intro hh2 hz2)
    clear hh2 hz2
    obtain ⟨F, hF8, hmF⟩ := okH_fr kk2 (show g < h2.guests.length by omega) (show p < 6 by omega) hm2
    obtain ⟨x0, x1, x2, _, _, _⟩ := X5.out
    obtain ⟨y0, y1, y2, _, _, _⟩ := E5.out
    rw [hW5] at x0 x1 x2 y0 y1 y2
    go_wp2_with (fail)
    rw [← hW5]
    clear hW5 x0 x1 x2 y0 y1 y2
    refine hin.mono ?_
    rintro e w6 ⟨rfl, A2, M6⟩
    have s6 := M6.size
    have N6 := n5.out.call hAl1 M6
    have X6 := X5.out.same (n5.out.own hAl1 M6 (j := w4.heap.size) (Nat.le_refl _) (by omega))
    have E6 := E5.out.same (n5.out.own hAl1 M6 (j := w4.heap.size + 1) (by omega) (by omega))
    obtain ⟨W7, hW7⟩ : ∃ W7, W7 = ((w6.setCell ⟨w4.heap.size, 0, none⟩ (.slice (some ⟨A .fr, 0, none⟩) 8 cf)).setCell ⟨w4.heap.size, 1, none⟩ (.slice (some ⟨A .gs, 0, none⟩) n cg)).setCell ⟨w4.heap.size, 2, none⟩ (.int .i64 h2.hand) := ⟨_, rfl⟩
    have N7 := N6.off3 hAl1 (b := w4.heap.size) (Nat.le_refl _) (by omega) hN4 (.slice (some ⟨A .fr, 0, none⟩) 8 cf) (.slice (some ⟨A .gs, 0, none⟩) n cg) (.int .i64 h2.hand)
    have X7 := X6.putAll (.slice (some ⟨A .fr, 0, none⟩) 8 cf) (.slice (some ⟨A .gs, 0, none⟩) n cg) (.int .i64 h2.hand)
    rw [← hW7] at N7 X7
    have E7 := E6.same (w' := W7) (by rw [hW7, Below.heap_setCell _ _ _ _ (by simp), Below.heap_setCell _ _ _ _ (by simp), Below.heap_setCell _ _ _ _ (by simp)])
    have s7 : W7.heap.size = w6.heap.size := by rw [hW7]; simp
    have hg2 : g < h2.guests.length := by omega
    obtain ⟨⟨c2, q1⟩, e0, e1, e2, ⟨c3, q2⟩, q3⟩ := N7.sep.cells hg2 (show p < 6 by omega) hF8 hmF ho4
    rw [N7.gs.trans fgs.out.1] at q1
    rw [N7.fr.trans fgs.out.2] at q2
    rw [hm2] at e0
    generalize hwr : (mAt h2 g p).2.2 = wr at *
    obtain ⟨W8, hW8⟩ : ∃ W8, W8 = W7.alloc (.cells #[.bool true, .int .i64 F, .bool wr] 35) := ⟨_, rfl⟩
    have B8 : Below W7.heap.size W7 W8 := by rw [hW8]; exact (Below.refl _ _).alloc (Nat.le_refl _) _
    have s8 : W8.heap.size = W7.heap.size + 1 := by rw [hW8]; simp
    have Y8 := hidE (show Var3 W8 w6.heap.size (.bool true) (.int .i64 F) (.bool wr) by rw [hW8]; exact var3_newK s7)
    have N8 := hidE (N7.below hN4 B8)
    have X8 := hidE (X7.belowK B8)
    have E8 := hidE (E7.belowK B8)
    obtain ⟨x0, x1, x2, xf0, xf1, xf2⟩ := X6
    obtain ⟨z0, z1, z2, _, _, _⟩ := X7
    obtain ⟨y0, y1, y2, _, _, _⟩ := E7
    have hpi : (p : Int) < 6 := by omega
    have hgi : (g : Int) < (n : Int) := by omega
    have lG7 := (N7.sep.low .gs trivial).2
    have lM7 := (N7.sep.low (.maps g) hg2).2
    obtain ⟨S, hSE⟩ : ∃ S : World → Prop, S = fun W' => W'.cell? ⟨w4.heap.size, 1, none⟩ = some (.slice (some ⟨A .gs, 0, none⟩) n cg) ∧ W'.cell? ⟨A .gs, g * 3, none⟩ = some (.slice (some ⟨A2 (.maps g), 0, none⟩) 6 c2) ∧ W'.cell? ⟨w4.heap.size + 1, 1, none⟩ = some (.int .i64 p) ∧ W'.cell? ⟨A2 (.maps g), p * 3, none⟩ = some (.bool true) ∧ W'.cell? ⟨A2 (.maps g), p * 3 + 1, none⟩ = some (.int .i64 F) ∧ W'.cell? ⟨A2 (.maps g), p * 3 + 2, none⟩ = some (.bool wr) := ⟨_, rfl⟩
    have hcells : ∀ W', S W' → W'.cell? ⟨w4.heap.size, 1, none⟩ = some (.slice (some ⟨A .gs, 0, none⟩) n cg) ∧ W'.cell? ⟨A .gs, g * 3, none⟩ = some (.slice (some ⟨A2 (.maps g), 0, none⟩) 6 c2) ∧ W'.cell? ⟨w4.heap.size + 1, 1, none⟩ = some (.int .i64 p) ∧ W'.cell? ⟨A2 (.maps g), p * 3, none⟩ = some (.bool true) ∧ W'.cell? ⟨A2 (.maps g), p * 3 + 1, none⟩ = some (.int .i64 F) ∧ W'.cell? ⟨A2 (.maps g), p * 3 + 2, none⟩ = some (.bool wr) := fun W' h => by rw [hSE] at h; exact h
    have hSB : ∀ W', Below W7.heap.size W7 W' → S W' := fun W' B => by
      rw [hSE]
      rw [N7.gs.trans fgs.out.1] at lG7
      exact ⟨(B.cell (p := ⟨w4.heap.size, 1, none⟩) (show w4.heap.size < W7.heap.size by omega)).trans z1, (B.cell (p := ⟨A .gs, g * 3, none⟩) lG7).trans q1, (B.cell (p := ⟨w4.heap.size + 1, 1, none⟩) (show w4.heap.size + 1 < W7.heap.size by omega)).trans y1, (B.cell (p := ⟨A2 (.maps g), p * 3, none⟩) lM7).trans e0, (B.cell (p := ⟨A2 (.maps g), p * 3 + 1, none⟩) lM7).trans e1, (B.cell (p := ⟨A2 (.maps g), p * 3 + 2, none⟩) lM7).trans e2⟩
    have fgs2 := hidE (And.intro (N7.gs.trans fgs.out.1) (N7.fr.trans fgs.out.2))
    have lo7 := hidE (fun x (hx : x.ok n) => (show A2 x < W7.heap.size from (N7.sep.low x (by rw [N7.len]; exact hx)).2))
    clear N6 B8 M6 E6 hin q2 q3 z0 z1 z2 y0 y1 y2 q1 e0 e1 e2 lG7 lM7 hSE
    go_wp2_with (fail)
    rw [← hW7]
    clear hW7 x0 x1 x2 xf0 xf1 xf2
    refine wp_region_held_drew (S := S) (by kernel_rfl) (hSB _ (Below.refl _ _).drew) (fun hHeld => ?_)
    refine wpAnyH_take (i := 0) (v := ?_) (by simp only [List.getElem?_toArray, List.getElem?_cons_succ, List.getElem?_cons_zero]; rfl) (by kernel_rfl) (by kernel_rfl) (by kernel_rfl) (by exact fun _ _ _ h => h) (Or.inl ⟨by rfl, ?_⟩) hHeld ?_
    rotate_left
    · intro W' hW'; go_simp <;> with_reducible rfl
    simp only [Act.put, List.setIfInBounds_toArray, List.set_cons_zero, List.set_cons_succ]
    refine wpAnyH_take (i := 1) (v := ?_) (by simp only [List.getElem?_toArray, List.getElem?_cons_succ, List.getElem?_cons_zero]; rfl) (by kernel_rfl) (by kernel_rfl) (by kernel_rfl) (by exact fun _ _ _ h => h) (Or.inl ⟨by rfl, ?_⟩) hHeld ?_
    rotate_left
    · intro W' hW'; obtain ⟨v0,v1,v2,v3,v4,v5⟩ := hcells W' hW'; go_simp <;> with_reducible rfl
    simp only [Act.put, List.setIfInBounds_toArray, List.set_cons_zero, List.set_cons_succ]
    refine wpAnyH_take (i := 2) (v := ?_) (by simp only [List.getElem?_toArray, List.getElem?_cons_succ, List.getElem?_cons_zero]; rfl) (by kernel_rfl) (by kernel_rfl) (by kernel_rfl) (by exact fun _ _ _ h => h) (Or.inl ⟨by rfl, ?_⟩) hHeld ?_
    rotate_left
    · intro W' hW'; go_simp <;> with_reducible rfl
    simp only [Act.put, List.setIfInBounds_toArray, List.set_cons_zero, List.set_cons_succ]
    refine wpAnyH_take (i := 3) (v := ?_) (by simp only [List.getElem?_toArray, List.getElem?_cons_succ, List.getElem?_cons_zero]; rfl) (by kernel_rfl) (by kernel_rfl) (by kernel_rfl) (by exact fun _ _ _ h => h) (Or.inl ⟨by rfl, ?_⟩) hHeld ?_
    rotate_left
    · intro W' hW'; go_simp <;> with_reducible rfl
    simp only [Act.put, List.setIfInBounds_toArray, List.set_cons_zero, List.set_cons_succ]
    refine wpAnyH_take (i := 4) (v := ?_) (by simp only [List.getElem?_toArray, List.getElem?_cons_succ, List.getElem?_cons_zero]; rfl) (by kernel_rfl) (by kernel_rfl) (by kernel_rfl) (by exact fun _ _ _ h => h) (Or.inl ⟨by rfl, ?_⟩) hHeld ?_
    rotate_left
    · intro W' hW'; go_simp <;> with_reducible rfl
    simp only [Act.put, List.setIfInBounds_toArray, List.set_cons_zero, List.set_cons_succ]
    refine wpAnyH_take (i := 5) (v := ?_) (by simp only [List.getElem?_toArray, List.getElem?_cons_succ, List.getElem?_cons_zero]; rfl) (by kernel_rfl) (by kernel_rfl) (by kernel_rfl) (by exact fun _ _ _ h => h) (Or.inl ⟨by rfl, ?_⟩) hHeld ?_
    rotate_left
    · intro W' hW'; obtain ⟨v0,v1,v2,v3,v4,v5⟩ := hcells W' hW'; go_simp <;> with_reducible rfl
    simp only [Act.put, List.setIfInBounds_toArray, List.set_cons_zero, List.set_cons_succ]
    refine wpAnyH_take (i := 6) (v := ?_) (by simp only [List.getElem?_toArray, List.getElem?_cons_succ, List.getElem?_cons_zero]; rfl) (by kernel_rfl) (by kernel_rfl) (by kernel_rfl) (by exact fun _ _ _ h => h) (Or.inl ⟨by rfl, ?_⟩) hHeld ?_
    rotate_left
    · intro W' hW'; go_simp <;> with_reducible rfl
    simp only [Act.put, List.setIfInBounds_toArray, List.set_cons_zero, List.set_cons_succ]
    refine wpAnyH_take (i := 7) (v := ?_) (by simp only [List.getElem?_toArray, List.getElem?_cons_succ, List.getElem?_cons_zero]; rfl) (by kernel_rfl) (by kernel_rfl) (by kernel_rfl) (by exact fun _ _ _ h => h) (Or.inl ⟨by rfl, ?_⟩) hHeld ?_
    rotate_left
    · intro W' hW'; obtain ⟨v0,v1,v2,v3,v4,v5⟩ := hcells W' hW'; go_simp <;> with_reducible rfl
    simp only [Act.put, List.setIfInBounds_toArray, List.set_cons_zero, List.set_cons_succ]
    refine wpAnyH_take (i := 8) (v := ?_) (by simp only [List.getElem?_toArray, List.getElem?_cons_succ, List.getElem?_cons_zero]; rfl) (by kernel_rfl) (by kernel_rfl) (by kernel_rfl) (by exact fun _ _ _ h => h) (Or.inl ⟨by rfl, ?_⟩) hHeld ?_
    rotate_left
    · intro W' hW'; go_simp <;> with_reducible rfl
    simp only [Act.put, List.setIfInBounds_toArray, List.set_cons_zero, List.set_cons_succ]
    refine wpAnyH_take (i := 9) (v := ?_) (by simp only [List.getElem?_toArray, List.getElem?_cons_succ, List.getElem?_cons_zero]; rfl) (by kernel_rfl) (by kernel_rfl) (by kernel_rfl) (by exact fun _ _ _ h => h) (Or.inl ⟨by rfl, ?_⟩) hHeld ?_
    rotate_left
    · intro W' hW'; obtain ⟨v0,v1,v2,v3,v4,v5⟩ := hcells W' hW'; go_simp <;> with_reducible rfl
    simp only [Act.put, List.setIfInBounds_toArray, List.set_cons_zero, List.set_cons_succ]
    refine wpAnyH_ready (rs := [10]) (by kernel_rfl) (by simp) ?_
    refine AllReadyH.cons (by simp only [List.getElem?_toArray, List.getElem?_cons_succ, List.getElem?_cons_zero]; rfl) (fun K hK => ?_) AllReadyH.nil
    rw [if_pos (by rfl)]
    go_simp
    refine hK.out _ _ (hSB _ (((Below.refl W7.heap.size W7).alloc (Nat.le_refl _) _).drew)) (fun hHeld => ?_)
    clear hK K
    try simp only [Act.put, List.setIfInBounds_toArray, List.set_cons_zero, List.set_cons_succ]
    refine wpAnyH_ready (rs := [11]) (by kernel_rfl) (by simp) ?_
    refine AllReadyH.cons (by simp only [List.getElem?_toArray, List.getElem?_cons_succ, List.getElem?_cons_zero]; rfl) (fun K hK => ?_) AllReadyH.nil
    rw [if_pos (by rfl)]
    go_simp
    refine hK.out _ _ (hSB _ (((Below.refl W7.heap.size W7).alloc (Nat.le_refl _) _).drew)) (fun hHeld => ?_)
    clear hK K
    refine wpAnyH_done (by kernel_rfl) ?_ _
    have e67 : w6.heap.size = W7.heap.size := s7.symm
    rw [e67, ← hW8]
    rw [e67] at Y8
    clear hHeld hcells hSB hW8
    -- the shade is cast
    obtain ⟨⟨c4, q4⟩, _⟩ := N8.out.sep.shadeC hg2 hi
    rw [fgs2.out.1] at q4
    have lS := (N8.out.sep.low (.shd g) hg2).2
    have lSN := (N8.out.sep.low (.shd g) hg2).1
    have hRm := (N8.out.sep.held (.shd g) hg2).2
    obtain ⟨⟨u0, t0⟩, o0⟩ := hRm (i * 4) (by omega)
    obtain ⟨⟨u1, t1⟩, o1⟩ := hRm (i * 4 + 1) (by omega)
    obtain ⟨⟨u2, t2⟩, o2⟩ := hRm (i * 4 + 2) (by omega)
    obtain ⟨⟨u3, t3⟩, o3⟩ := hRm (i * 4 + 3) (by omega)
    obtain ⟨_, _, _, _, ⟨c3, q2⟩, q3⟩ := N8.out.sep.cells hg2 (show p < 6 by omega) hF8 hmF ho4
    rw [fgs2.out.2] at q2
    rw [← zAt_in hm2 hmF o] at q3
    obtain ⟨z, hz⟩ : ∃ z, z = zAt h2 g p o := ⟨_, rfl⟩
    rw [← hz] at q3
    have lo7 := lo7.out
    have nFrS : A .fr ≠ A2 (.shd g) := fun e => by
      have := N8.out.sep.inj .fr (.shd g) trivial hg2 (by rw [fgs2.out.2]; exact e)
      cases this
    have nPgS : A2 (.page F) ≠ A2 (.shd g) := fun e => by
      have := N8.out.sep.inj (.page F) (.shd g) hF8 hg2 e
      cases this
    have nB3 : w4.heap.size ≠ A2 (.shd g) := Ne.symm (N8.out.ne (by omega) (fun x hx => by have := hAl1 x hx; omega) (.shd g) hg)
    have nB5 : W7.heap.size ≠ A2 (.shd g) := by have := lo7 (.shd g) hg; omega
    obtain ⟨bw, hbw⟩ : ∃ bw, bw = (b2 && wr) := ⟨_, rfl⟩
    have hcast : castS h2 g p b2 = (true, (p : Int), (F : Int), bw) := by rw [castS, hmF, hwr, hbw]
    have hSep := N8.out.sep.shade hg2 hi (castS h2 g p b2)
    rw [hcast] at hSep
    simp only at hSep
    obtain ⟨W9, hW9⟩ : ∃ W9, W9 = (((W8.setCell ⟨A2 (.shd g), i * 4, none⟩ (.bool true)).setCell ⟨A2 (.shd g), i * 4 + 1, none⟩ (.int .i64 p)).setCell ⟨A2 (.shd g), i * 4 + 2, none⟩ (.int .i64 F)).setCell ⟨A2 (.shd g), i * 4 + 3, none⟩ (.bool bw) := ⟨_, rfl⟩
    rw [← hW9] at hSep
    have e9 : ∀ j, j ≠ A2 (.shd g) → W9.heap[j]? = W8.heap[j]? := fun j hj => by rw [hW9, Below.heap_setCell _ _ _ _ (by simpa using hj), Below.heap_setCell _ _ _ _ (by simpa using hj), Below.heap_setCell _ _ _ _ (by simpa using hj), Below.heap_setCell _ _ _ _ (by simpa using hj)]
    have s9 : W9.heap.size = W8.heap.size := by rw [hW9]; simp
    have B9 : Below N W8 W9 := by rw [hW9]; exact ((((Below.refl N W8).setCell (p := ⟨A2 (.shd g), i * 4, none⟩) lSN _).setCell (p := ⟨A2 (.shd g), i * 4 + 1, none⟩) lSN _).setCell (p := ⟨A2 (.shd g), i * 4 + 2, none⟩) lSN _).setCell (p := ⟨A2 (.shd g), i * 4 + 3, none⟩) lSN _
    obtain ⟨h3, hh3⟩ : ∃ h3, h3 = setS h2 g i (castS h2 g p b2) := ⟨_, rfl⟩
    have l3 : h3.guests.length = n := by rw [hh3, setS_len]; omega
    have N9 := hidE (N8.out.put (x0 := .shd g) (h2 := h3) (by rw [hh3, setS, hcast]; exact hSep) l3 B9 hg (by omega) (fun j _ hj => e9 j hj))
    have T9 := hidE (M04.out.call hAl (N9.out.weak (Nat.le_refl _) (by omega)))
    have R9 := hidE (R4.out.same (M04.out.own hAl (N9.out.weak (Nat.le_refl _) (by omega)) (j := w.heap.size + 1) (by omega) (by omega)))
    obtain ⟨x0, x1, x2, _, _, _⟩ := X8.out
    obtain ⟨y0, y1, y2, _, _, _⟩ := E8.out
    obtain ⟨m0, m1, m2, _, _, _⟩ := Y8.out
    obtain ⟨S9, hSE9⟩ : ∃ S9 : World → Prop, S9 = fun W' => W'.cell? ⟨w4.heap.size, 1, none⟩ = some (.slice (some ⟨A .gs, 0, none⟩) n cg) ∧ W'.cell? ⟨A .gs, g * 3 + 2, none⟩ = some (.slice (some ⟨A2 (.shd g), 0, none⟩) 6 c4) ∧ W'.cell? ⟨w4.heap.size + 1, 1, none⟩ = some (.int .i64 p) ∧ W'.cell? ⟨w4.heap.size + 1, 2, none⟩ = some (.bool b2) ∧ W'.cell? ⟨W7.heap.size, 1, none⟩ = some (.int .i64 F) ∧ W'.cell? ⟨W7.heap.size, 2, none⟩ = some (.bool wr) := ⟨_, rfl⟩
    have hcells : ∀ W', S9 W' → W'.cell? ⟨w4.heap.size, 1, none⟩ = some (.slice (some ⟨A .gs, 0, none⟩) n cg) ∧ W'.cell? ⟨A .gs, g * 3 + 2, none⟩ = some (.slice (some ⟨A2 (.shd g), 0, none⟩) 6 c4) ∧ W'.cell? ⟨w4.heap.size + 1, 1, none⟩ = some (.int .i64 p) ∧ W'.cell? ⟨w4.heap.size + 1, 2, none⟩ = some (.bool b2) ∧ W'.cell? ⟨W7.heap.size, 1, none⟩ = some (.int .i64 F) ∧ W'.cell? ⟨W7.heap.size, 2, none⟩ = some (.bool wr) := fun W' h => by rw [hSE9] at h; exact h
    have hS9 : S9 W8.drew.drew := by rw [hSE9]; exact ⟨x1, q4, y1, y2, m1, m2⟩
    have hS99 : S9 W9.drew.drew := by
      rw [hSE9]
      have nG : A .gs ≠ A2 (.shd g) := fun e => by
        have := N8.out.sep.inj .gs (.shd g) trivial hg2 (by rw [fgs2.out.1]; exact e)
        cases this
      have nB4 : w4.heap.size + 1 ≠ A2 (.shd g) := Ne.symm (N8.out.ne (by omega) (fun x hx => by have := hAl1 x hx; omega) (.shd g) hg)
      have e := fun (b j : Nat) (hb : b ≠ A2 (.shd g)) => World.cell?_of_block (a := ⟨b, j, none⟩) (e9 b hb)
      exact ⟨(e _ _ nB3).trans x1, (e _ _ nG).trans q4, (e _ _ nB4).trans y1, (e _ _ nB4).trans y2, (e _ _ nB5).trans m1, (e _ _ nB5).trans m2⟩
    obtain ⟨Sa, hSEa⟩ : ∃ Sa : World → Prop, Sa = fun W' => W'.cell? ⟨w4.heap.size, 0, none⟩ = some (.slice (some ⟨A .fr, 0, none⟩) 8 cf) ∧ W'.cell? ⟨w4.heap.size, 1, none⟩ = some (.slice (some ⟨A .gs, 0, none⟩) n cg) ∧ W'.cell? ⟨w4.heap.size, 2, none⟩ = some (.int .i64 h2.hand) ∧ W'.cell? ⟨W7.heap.size, 1, none⟩ = some (.int .i64 F) ∧ W'.cell? ⟨A .fr, F, none⟩ = some (.slice (some ⟨A2 (.page F), 0, none⟩) 4 c3) ∧ W'.cell? ⟨A2 (.page F), o, none⟩ = some (.int .i64 z) := ⟨_, rfl⟩
    have hca : ∀ W', Sa W' → W'.cell? ⟨w4.heap.size, 0, none⟩ = some (.slice (some ⟨A .fr, 0, none⟩) 8 cf) ∧ W'.cell? ⟨w4.heap.size, 1, none⟩ = some (.slice (some ⟨A .gs, 0, none⟩) n cg) ∧ W'.cell? ⟨w4.heap.size, 2, none⟩ = some (.int .i64 h2.hand) ∧ W'.cell? ⟨W7.heap.size, 1, none⟩ = some (.int .i64 F) ∧ W'.cell? ⟨A .fr, F, none⟩ = some (.slice (some ⟨A2 (.page F), 0, none⟩) 4 c3) ∧ W'.cell? ⟨A2 (.page F), o, none⟩ = some (.int .i64 z) := fun W' h => by rw [hSEa] at h; exact h
    have hSad : ∀ W', Sa W' → Sa W'.drew := fun W' h => by rw [hSEa] at h ⊢; exact h
    have nRP : A2 (.page F) ≠ w.heap.size + 1 := T9.out.ne (by omega) (fun x hx => by have := hAl x hx; omega) (.page F) hF8
    have hSa5 : ∀ u0 u1 u2, ∀ W', Sa W' → Sa (((W'.setCell ⟨w.heap.size + 1, 0, none⟩ u0).setCell ⟨w.heap.size + 1, 1, none⟩ u1).setCell ⟨w.heap.size + 1, 2, none⟩ u2).drew := fun u0 u1 u2 W' h => by
      refine hSad _ ?_
      rw [hSEa] at h ⊢
      obtain ⟨x0, x1, x2, x3, x4, x5⟩ := h
      have k0 : w4.heap.size ≠ w.heap.size + 1 := by omega
      have k1 : W7.heap.size ≠ w.heap.size + 1 := by omega
      have k2 : A .fr ≠ w.heap.size + 1 := by have := hAl .fr trivial; omega
      exact ⟨(off3c k0).trans x0, (off3c k0).trans x1, (off3c k0).trans x2, (off3c k1).trans x3, (off3c k2).trans x4, (off3c nRP).trans x5⟩
    have hSa : Sa W9 := by
      rw [hSEa]
      have e := fun (b j : Nat) (hb : b ≠ A2 (.shd g)) => World.cell?_of_block (a := ⟨b, j, none⟩) (e9 b hb)
      exact ⟨(e _ _ nB3).trans x0, (e _ _ nB3).trans x1, (e _ _ nB3).trans x2, (e _ _ nB5).trans m1, (e _ _ nFrS).trans q2, (e _ _ nPgS).trans q3⟩
    have Mz := hidE (show Mv w (((W9.setCell ⟨w.heap.size + 1, 0, none⟩ (.slice (some ⟨A .fr, 0, none⟩) 8 cf)).setCell ⟨w.heap.size + 1, 1, none⟩ (.slice (some ⟨A .gs, 0, none⟩) n cg)).setCell ⟨w.heap.size + 1, 2, none⟩ (.int .i64 h2.hand)).drew w.heap.size N n A A2 h3 from ((T9.out.off3 hAl (b := w.heap.size + 1) (by omega) (by omega) hN _ _ _).below hN (Below.refl _ _).drew).weak (Nat.le_refl _) (by omega))
    have hii : (i : Int) < 6 := by omega
    have hFi : (F : Int) < 8 := by omega
    have hoi : (o : Int) < 4 := by omega
    have Hz := hidE hz
    have Hh3 := hidE (And.intro hh3 hcast)
    clear x0 x1 x2 y0 y1 y2 m0 m1 m2 q2 q3 q4 hSE9 hSEa hRm e9 B9 hSep N8 X8 E8 Y8 hz hcast nFrS nPgS nB3 nB5
    have hsz := hidE (And.intro s7 (And.intro s8 s9))
    clear e67 s7 s8 s9 hh3 hwr hmF l2 l3 l5
    cases b2
    · simp only [Bool.false_and] at hbw
      subst hbw
      go_wp2_with (fail)
      refine wp_region_held_drew (S := S9) (by kernel_rfl) hS9 (fun hHeld => ?_)
      refine wpAnyH_take (i := 0) (v := ?_) (by simp only [List.getElem?_toArray, List.getElem?_cons_succ, List.getElem?_cons_zero]; rfl) (by kernel_rfl) (by kernel_rfl) (by kernel_rfl) (by exact fun _ _ _ h => h) (Or.inl ⟨by rfl, ?_⟩) hHeld ?_
      rotate_left
      · intro W' hW'; go_simp <;> with_reducible rfl
      simp only [Act.put, List.setIfInBounds_toArray, List.set_cons_zero, List.set_cons_succ]
      refine wpAnyH_take (i := 1) (v := ?_) (by simp only [List.getElem?_toArray, List.getElem?_cons_succ, List.getElem?_cons_zero]; rfl) (by kernel_rfl) (by kernel_rfl) (by kernel_rfl) (by exact fun _ _ _ h => h) (Or.inl ⟨by rfl, ?_⟩) hHeld ?_
      rotate_left
      · intro W' hW'; obtain ⟨v0,v1,v2,v3,v4,v5⟩ := hcells W' hW'; go_simp <;> with_reducible rfl
      simp only [Act.put, List.setIfInBounds_toArray, List.set_cons_zero, List.set_cons_succ]
      refine wpAnyH_take (i := 2) (v := ?_) (by simp only [List.getElem?_toArray, List.getElem?_cons_succ, List.getElem?_cons_zero]; rfl) (by kernel_rfl) (by kernel_rfl) (by kernel_rfl) (by exact fun _ _ _ h => h) (Or.inl ⟨by rfl, ?_⟩) hHeld ?_
      rotate_left
      · intro W' hW'; go_simp <;> with_reducible rfl
      simp only [Act.put, List.setIfInBounds_toArray, List.set_cons_zero, List.set_cons_succ]
      refine wpAnyH_take (i := 3) (v := ?_) (by simp only [List.getElem?_toArray, List.getElem?_cons_succ, List.getElem?_cons_zero]; rfl) (by kernel_rfl) (by kernel_rfl) (by kernel_rfl) (by exact fun _ _ _ h => h) (Or.inl ⟨by rfl, ?_⟩) hHeld ?_
      rotate_left
      · intro W' hW'; go_simp <;> with_reducible rfl
      simp only [Act.put, List.setIfInBounds_toArray, List.set_cons_zero, List.set_cons_succ]
      refine wpAnyH_take (i := 4) (v := ?_) (by simp only [List.getElem?_toArray, List.getElem?_cons_succ, List.getElem?_cons_zero]; rfl) (by kernel_rfl) (by kernel_rfl) (by kernel_rfl) (by exact fun _ _ _ h => h) (Or.inl ⟨by rfl, ?_⟩) hHeld ?_
      rotate_left
      · intro W' hW'; go_simp <;> with_reducible rfl
      simp only [Act.put, List.setIfInBounds_toArray, List.set_cons_zero, List.set_cons_succ]
      refine wpAnyH_take (i := 5) (v := ?_) (by simp only [List.getElem?_toArray, List.getElem?_cons_succ, List.getElem?_cons_zero]; rfl) (by kernel_rfl) (by kernel_rfl) (by kernel_rfl) (by exact fun _ _ _ h => h) (Or.inl ⟨by rfl, ?_⟩) hHeld ?_
      rotate_left
      · intro W' hW'; obtain ⟨v0,v1,v2,v3,v4,v5⟩ := hcells W' hW'; go_simp <;> with_reducible rfl
      simp only [Act.put, List.setIfInBounds_toArray, List.set_cons_zero, List.set_cons_succ]
      refine wpAnyH_take (i := 6) (v := ?_) (by simp only [List.getElem?_toArray, List.getElem?_cons_succ, List.getElem?_cons_zero]; rfl) (by kernel_rfl) (by kernel_rfl) (by kernel_rfl) (by exact fun _ _ _ h => h) (Or.inl ⟨by rfl, ?_⟩) hHeld ?_
      rotate_left
      · intro W' hW'; go_simp <;> with_reducible rfl
      simp only [Act.put, List.setIfInBounds_toArray, List.set_cons_zero, List.set_cons_succ]
      refine wpAnyH_take (i := 7) (v := ?_) (by simp only [List.getElem?_toArray, List.getElem?_cons_succ, List.getElem?_cons_zero]; rfl) (by kernel_rfl) (by kernel_rfl) (by kernel_rfl) (by exact fun _ _ _ h => h) (Or.inl ⟨by rfl, ?_⟩) hHeld ?_
      rotate_left
      · intro W' hW'; go_simp <;> with_reducible rfl
      simp only [Act.put, List.setIfInBounds_toArray, List.set_cons_zero, List.set_cons_succ]
      refine wpAnyH_take (i := 8) (v := ?_) (by simp only [List.getElem?_toArray, List.getElem?_cons_succ, List.getElem?_cons_zero]; rfl) (by kernel_rfl) (by kernel_rfl) (by kernel_rfl) (by exact fun _ _ _ h => h) (Or.inl ⟨by rfl, ?_⟩) hHeld ?_
      rotate_left
      · intro W' hW'; obtain ⟨v0,v1,v2,v3,v4,v5⟩ := hcells W' hW'; go_simp <;> with_reducible rfl
      simp only [Act.put, List.setIfInBounds_toArray, List.set_cons_zero, List.set_cons_succ]
      refine wpAnyH_take (i := 9) (v := ?_) (by simp only [List.getElem?_toArray, List.getElem?_cons_succ, List.getElem?_cons_zero]; rfl) (by kernel_rfl) (by kernel_rfl) (by kernel_rfl) (by exact fun _ _ _ h => h) (Or.inl ⟨by rfl, ?_⟩) hHeld ?_
      rotate_left
      · intro W' hW'; go_simp <;> with_reducible rfl
      simp only [Act.put, List.setIfInBounds_toArray, List.set_cons_zero, List.set_cons_succ]
      refine wpAnyH_take (i := 10) (v := ?_) (by simp only [List.getElem?_toArray, List.getElem?_cons_succ, List.getElem?_cons_zero]; rfl) (by kernel_rfl) (by kernel_rfl) (by kernel_rfl) (by exact fun _ _ _ h => h) (Or.inl ⟨by rfl, ?_⟩) hHeld ?_
      rotate_left
      · intro W' hW'; obtain ⟨v0,v1,v2,v3,v4,v5⟩ := hcells W' hW'; go_simp <;> with_reducible rfl
      simp only [Act.put, List.setIfInBounds_toArray, List.set_cons_zero, List.set_cons_succ]
      refine wpAnyH_take (i := 11) (v := ?_) (by simp only [List.getElem?_toArray, List.getElem?_cons_succ, List.getElem?_cons_zero]; rfl) (by kernel_rfl) (by kernel_rfl) (by kernel_rfl) (by exact fun _ _ _ h => h) (Or.inl ⟨by rfl, ?_⟩) hHeld ?_
      rotate_left
      · intro W' hW'; go_simp <;> with_reducible rfl
      simp only [Act.put, List.setIfInBounds_toArray, List.set_cons_zero, List.set_cons_succ]
      refine wpAnyH_take (i := 12) (v := ?_) (by simp only [List.getElem?_toArray, List.getElem?_cons_succ, List.getElem?_cons_zero]; rfl) (by kernel_rfl) (by kernel_rfl) (by kernel_rfl) (by exact fun _ _ _ h => h) (Or.inl ⟨by rfl, ?_⟩) hHeld ?_
      rotate_left
      · intro W' hW'; obtain ⟨v0,v1,v2,v3,v4,v5⟩ := hcells W' hW'; go_simp <;> with_reducible rfl
      simp only [Act.put, List.setIfInBounds_toArray, List.set_cons_zero, List.set_cons_succ]
      refine wpAnyH_take (i := 13) (v := ?_) (by simp only [List.getElem?_toArray, List.getElem?_cons_succ, List.getElem?_cons_zero]; rfl) (by kernel_rfl) (by kernel_rfl) (by kernel_rfl) (by exact fun _ _ _ h => h) (Or.inl ⟨by rfl, ?_⟩) hHeld ?_
      rotate_left
      · intro W' hW'; go_simp <;> with_reducible rfl
      simp only [Act.put, List.setIfInBounds_toArray, List.set_cons_zero, List.set_cons_succ]
      refine wpAnyH_take (i := 14) (v := undef) (by simp only [List.getElem?_toArray, List.getElem?_cons_succ, List.getElem?_cons_zero]; rfl) (by kernel_rfl) (by kernel_rfl) (by kernel_rfl) (by exact fun _ _ _ h => h) (Or.inr ⟨by rfl, rfl⟩) hHeld ?_
      try simp only [Act.put, List.setIfInBounds_toArray, List.set_cons_zero, List.set_cons_succ]
      refine wpAnyH_take (i := 15) (v := undef) (by simp only [List.getElem?_toArray, List.getElem?_cons_succ, List.getElem?_cons_zero]; rfl) (by kernel_rfl) (by kernel_rfl) (by kernel_rfl) (by exact fun _ _ _ h => h) (Or.inr ⟨by rfl, rfl⟩) hHeld ?_
      try simp only [Act.put, List.setIfInBounds_toArray, List.set_cons_zero, List.set_cons_succ]
      refine wpAnyH_take (i := 16) (v := ?_) (by simp only [List.getElem?_toArray, List.getElem?_cons_succ, List.getElem?_cons_zero]; rfl) (by kernel_rfl) (by kernel_rfl) (by kernel_rfl) (by exact fun _ _ _ h => h) (Or.inl ⟨by rfl, ?_⟩) hHeld ?_
      rotate_left
      · intro W' hW'; go_simp <;> with_reducible rfl
      simp only [Act.put, List.setIfInBounds_toArray, List.set_cons_zero, List.set_cons_succ]
      refine wpAnyH_take (i := 17) (v := ?_) (by simp only [List.getElem?_toArray, List.getElem?_cons_succ, List.getElem?_cons_zero]; rfl) (by kernel_rfl) (by kernel_rfl) (by kernel_rfl) (by exact fun _ _ _ h => h) (Or.inl ⟨by rfl, ?_⟩) hHeld ?_
      rotate_left
      · intro W' hW'; go_simp <;> with_reducible rfl
      simp only [Act.put, List.setIfInBounds_toArray, List.set_cons_zero, List.set_cons_succ]
      refine wpAnyH_take (i := 18) (v := ?_) (by simp only [List.getElem?_toArray, List.getElem?_cons_succ, List.getElem?_cons_zero]; rfl) (by kernel_rfl) (by kernel_rfl) (by kernel_rfl) (by exact fun _ _ _ h => h) (Or.inl ⟨by rfl, ?_⟩) hHeld ?_
      rotate_left
      · intro W' hW'; go_simp <;> with_reducible rfl
      simp only [Act.put, List.setIfInBounds_toArray, List.set_cons_zero, List.set_cons_succ]
      refine wpAnyH_ready (rs := [19]) (by kernel_rfl) (by simp) ?_
      refine AllReadyH.cons (by simp only [List.getElem?_toArray, List.getElem?_cons_succ, List.getElem?_cons_zero]; rfl) (fun K hK => ?_) AllReadyH.nil
      rw [if_pos (by rfl)]
      go_simp
      rw [← hW9]
      refine hK.out _ _ hS99 (fun hHeld => ?_)
      clear hK K
      refine wpAnyH_done (by kernel_rfl) ?_ _
      clear hHeld hS9 hS99 t0 t1 t2 t3 o0 o1 o2 o3 hcells hW9
      have hcells := hca
      clear hca
      go_wp2_with (fail)
      obtain ⟨r0, r1, r2, d0, d1, d2⟩ := R9.out
      refine wp_region_held_drew (S := Sa) (by kernel_rfl) (hSad _ (hSad _ (hSad _ hSa))) (fun hHeld => ?_)
      refine wpAnyH_take (i := 0) (v := ?_) (by simp only [List.getElem?_toArray, List.getElem?_cons_succ, List.getElem?_cons_zero]; rfl) (by kernel_rfl) (by kernel_rfl) (by kernel_rfl) (by exact fun _ _ _ h => h) (Or.inl ⟨by rfl, ?_⟩) hHeld ?_
      rotate_left
      · intro W' hW'; obtain ⟨v0,v1,v2,v3,v4,v5⟩ := hcells W' hW'; go_simp <;> with_reducible rfl
      simp only [Act.put, List.setIfInBounds_toArray, List.set_cons_zero, List.set_cons_succ]
      refine wpAnyH_take (i := 1) (v := ?_) (by simp only [List.getElem?_toArray, List.getElem?_cons_succ, List.getElem?_cons_zero]; rfl) (by kernel_rfl) (by kernel_rfl) (by kernel_rfl) (by exact fun _ _ _ h => h) (Or.inl ⟨by rfl, ?_⟩) hHeld ?_
      rotate_left
      · intro W' hW'; go_simp <;> with_reducible rfl
      simp only [Act.put, List.setIfInBounds_toArray, List.set_cons_zero, List.set_cons_succ]
      refine wpAnyH_take (i := 2) (v := ?_) (by simp only [List.getElem?_toArray, List.getElem?_cons_succ, List.getElem?_cons_zero]; rfl) (by kernel_rfl) (by kernel_rfl) (by kernel_rfl) (by exact fun _ _ _ h => h) (Or.inl ⟨by rfl, ?_⟩) hHeld ?_
      rotate_left
      · intro W' hW'; obtain ⟨v0,v1,v2,v3,v4,v5⟩ := hcells W' hW'; go_simp <;> with_reducible rfl
      simp only [Act.put, List.setIfInBounds_toArray, List.set_cons_zero, List.set_cons_succ]
      refine wpAnyH_take (i := 3) (v := ?_) (by simp only [List.getElem?_toArray, List.getElem?_cons_succ, List.getElem?_cons_zero]; rfl) (by kernel_rfl) (by kernel_rfl) (by kernel_rfl) (by exact fun _ _ _ h => h) (Or.inl ⟨by rfl, ?_⟩) hHeld ?_
      rotate_left
      · intro W' hW'; go_simp <;> with_reducible rfl
      simp only [Act.put, List.setIfInBounds_toArray, List.set_cons_zero, List.set_cons_succ]
      refine wpAnyH_take (i := 4) (v := ?_) (by simp only [List.getElem?_toArray, List.getElem?_cons_succ, List.getElem?_cons_zero]; rfl) (by kernel_rfl) (by kernel_rfl) (by kernel_rfl) (by exact fun _ _ _ h => h) (Or.inl ⟨by rfl, ?_⟩) hHeld ?_
      rotate_left
      · intro W' hW'; obtain ⟨v0,v1,v2,v3,v4,v5⟩ := hcells W' hW'; go_simp <;> with_reducible rfl
      simp only [Act.put, List.setIfInBounds_toArray, List.set_cons_zero, List.set_cons_succ]
      refine wpAnyH_take (i := 5) (v := ?_) (by simp only [List.getElem?_toArray, List.getElem?_cons_succ, List.getElem?_cons_zero]; rfl) (by kernel_rfl) (by kernel_rfl) (by kernel_rfl) (by exact fun _ _ _ h => h) (Or.inl ⟨by rfl, ?_⟩) hHeld ?_
      rotate_left
      · intro W' hW'; go_simp <;> with_reducible rfl
      simp only [Act.put, List.setIfInBounds_toArray, List.set_cons_zero, List.set_cons_succ]
      refine wpAnyH_take (i := 6) (v := ?_) (by simp only [List.getElem?_toArray, List.getElem?_cons_succ, List.getElem?_cons_zero]; rfl) (by kernel_rfl) (by kernel_rfl) (by kernel_rfl) (by exact fun _ _ _ h => h) (Or.inl ⟨by rfl, ?_⟩) hHeld ?_
      rotate_left
      · intro W' hW'; obtain ⟨v0,v1,v2,v3,v4,v5⟩ := hcells W' hW'; go_simp <;> with_reducible rfl
      simp only [Act.put, List.setIfInBounds_toArray, List.set_cons_zero, List.set_cons_succ]
      refine wpAnyH_take (i := 7) (v := ?_) (by simp only [List.getElem?_toArray, List.getElem?_cons_succ, List.getElem?_cons_zero]; rfl) (by kernel_rfl) (by kernel_rfl) (by kernel_rfl) (by exact fun _ _ _ h => h) (Or.inl ⟨by rfl, ?_⟩) hHeld ?_
      rotate_left
      · intro W' hW'; go_simp <;> with_reducible rfl
      simp only [Act.put, List.setIfInBounds_toArray, List.set_cons_zero, List.set_cons_succ]
      refine wpAnyH_take (i := 8) (v := ?_) (by simp only [List.getElem?_toArray, List.getElem?_cons_succ, List.getElem?_cons_zero]; rfl) (by kernel_rfl) (by kernel_rfl) (by kernel_rfl) (by exact fun _ _ _ h => h) (Or.inl ⟨by rfl, ?_⟩) hHeld ?_
      rotate_left
      · intro W' hW'; go_simp <;> with_reducible rfl
      simp only [Act.put, List.setIfInBounds_toArray, List.set_cons_zero, List.set_cons_succ]
      refine wpAnyH_take (i := 9) (v := ?_) (by simp only [List.getElem?_toArray, List.getElem?_cons_succ, List.getElem?_cons_zero]; rfl) (by kernel_rfl) (by kernel_rfl) (by kernel_rfl) (by exact fun _ _ _ h => h) (Or.inl ⟨by rfl, ?_⟩) hHeld ?_
      rotate_left
      · intro W' hW'; obtain ⟨v0,v1,v2,v3,v4,v5⟩ := hcells W' hW'; go_simp <;> with_reducible rfl
      simp only [Act.put, List.setIfInBounds_toArray, List.set_cons_zero, List.set_cons_succ]
      refine wpAnyH_ready (rs := [10]) (by kernel_rfl) (by simp) ?_
      refine AllReadyH.cons (by simp only [List.getElem?_toArray, List.getElem?_cons_succ, List.getElem?_cons_zero]; rfl) (fun K hK => ?_) AllReadyH.nil
      rw [if_pos (by rfl)]
      go_simp
      refine hK.out _ _ (hSad _ (hSad _ (hSa5 _ _ _ _ hSa))) (fun hHeld => ?_)
      clear hK K
      refine wpAnyH_take (i := 11) (v := ?_) (by simp only [List.getElem?_toArray, List.getElem?_cons_succ, List.getElem?_cons_zero]; rfl) (by kernel_rfl) (by kernel_rfl) (by kernel_rfl) (by exact fun _ _ _ h => h) (Or.inl ⟨by rfl, ?_⟩) hHeld ?_
      rotate_left
      · intro W' hW'; go_simp <;> with_reducible rfl
      simp only [Act.put, List.setIfInBounds_toArray, List.set_cons_zero, List.set_cons_succ]
      refine wpAnyH_done (by kernel_rfl) ?_ _
      have Rz := Var3.putAll (w := W9) ⟨r0, r1, r2, d0, d1, d2⟩ (.slice (some ⟨A .fr, 0, none⟩) 8 cf) (.slice (some ⟨A .gs, 0, none⟩) n cg) (.int .i64 h2.hand)
      have Mz := Mz.out
      clear r0 r1 r2 d0 d1 d2 hHeld hSa hSa5 hSad hcells R9
      generalize ((W9.setCell ⟨w.heap.size + 1, 0, none⟩ (.slice (some ⟨A .fr, 0, none⟩) 8 cf)).setCell ⟨w.heap.size + 1, 1, none⟩ (.slice (some ⟨A .gs, 0, none⟩) n cg)).setCell ⟨w.heap.size + 1, 2, none⟩ (.int .i64 h2.hand) = Wz at *
      obtain ⟨r0, r1, r2, _, _, _⟩ := Var3.same (w' := Wz.drew) Rz rfl
      clear Rz
      go_wp2
      refine bodyPost_ret (v := .tuple #[.agg #[.slice (some ⟨A .fr, 0, none⟩) 8 cf, .slice (some ⟨A .gs, 0, none⟩) n cg, .int .i64 h2.hand], .int .i64 z]) (by simp [results, Try.results121, go_sem, *]) rfl ?_
      rw [cond_true, cond_true, Int.toNat_natCast, ← hend.out.1]
      rw [← Hh3.out.1]
      exact ⟨by rw [← hend.out.2, Hz.out, show h3.hand = h2.hand by rw [Hh3.out.1]; rfl], A2, Mz.below hN ((Below.refl _ _).drew.drew)⟩
    · simp only [Bool.true_and] at hbw
      subst hbw
      go_wp2_with (fail)
      refine wp_region_held_drew (S := S9) (by kernel_rfl) hS9 (fun hHeld => ?_)
      refine wpAnyH_take (i := 0) (v := ?_) (by simp only [List.getElem?_toArray, List.getElem?_cons_succ, List.getElem?_cons_zero]; rfl) (by kernel_rfl) (by kernel_rfl) (by kernel_rfl) (by exact fun _ _ _ h => h) (Or.inl ⟨by rfl, ?_⟩) hHeld ?_
      rotate_left
      · intro W' hW'; go_simp <;> with_reducible rfl
      simp only [Act.put, List.setIfInBounds_toArray, List.set_cons_zero, List.set_cons_succ]
      refine wpAnyH_take (i := 1) (v := ?_) (by simp only [List.getElem?_toArray, List.getElem?_cons_succ, List.getElem?_cons_zero]; rfl) (by kernel_rfl) (by kernel_rfl) (by kernel_rfl) (by exact fun _ _ _ h => h) (Or.inl ⟨by rfl, ?_⟩) hHeld ?_
      rotate_left
      · intro W' hW'; obtain ⟨v0,v1,v2,v3,v4,v5⟩ := hcells W' hW'; go_simp <;> with_reducible rfl
      simp only [Act.put, List.setIfInBounds_toArray, List.set_cons_zero, List.set_cons_succ]
      refine wpAnyH_take (i := 2) (v := ?_) (by simp only [List.getElem?_toArray, List.getElem?_cons_succ, List.getElem?_cons_zero]; rfl) (by kernel_rfl) (by kernel_rfl) (by kernel_rfl) (by exact fun _ _ _ h => h) (Or.inl ⟨by rfl, ?_⟩) hHeld ?_
      rotate_left
      · intro W' hW'; go_simp <;> with_reducible rfl
      simp only [Act.put, List.setIfInBounds_toArray, List.set_cons_zero, List.set_cons_succ]
      refine wpAnyH_take (i := 3) (v := ?_) (by simp only [List.getElem?_toArray, List.getElem?_cons_succ, List.getElem?_cons_zero]; rfl) (by kernel_rfl) (by kernel_rfl) (by kernel_rfl) (by exact fun _ _ _ h => h) (Or.inl ⟨by rfl, ?_⟩) hHeld ?_
      rotate_left
      · intro W' hW'; go_simp <;> with_reducible rfl
      simp only [Act.put, List.setIfInBounds_toArray, List.set_cons_zero, List.set_cons_succ]
      refine wpAnyH_take (i := 4) (v := ?_) (by simp only [List.getElem?_toArray, List.getElem?_cons_succ, List.getElem?_cons_zero]; rfl) (by kernel_rfl) (by kernel_rfl) (by kernel_rfl) (by exact fun _ _ _ h => h) (Or.inl ⟨by rfl, ?_⟩) hHeld ?_
      rotate_left
      · intro W' hW'; go_simp <;> with_reducible rfl
      simp only [Act.put, List.setIfInBounds_toArray, List.set_cons_zero, List.set_cons_succ]
      refine wpAnyH_take (i := 5) (v := ?_) (by simp only [List.getElem?_toArray, List.getElem?_cons_succ, List.getElem?_cons_zero]; rfl) (by kernel_rfl) (by kernel_rfl) (by kernel_rfl) (by exact fun _ _ _ h => h) (Or.inl ⟨by rfl, ?_⟩) hHeld ?_
      rotate_left
      · intro W' hW'; obtain ⟨v0,v1,v2,v3,v4,v5⟩ := hcells W' hW'; go_simp <;> with_reducible rfl
      simp only [Act.put, List.setIfInBounds_toArray, List.set_cons_zero, List.set_cons_succ]
      refine wpAnyH_take (i := 6) (v := ?_) (by simp only [List.getElem?_toArray, List.getElem?_cons_succ, List.getElem?_cons_zero]; rfl) (by kernel_rfl) (by kernel_rfl) (by kernel_rfl) (by exact fun _ _ _ h => h) (Or.inl ⟨by rfl, ?_⟩) hHeld ?_
      rotate_left
      · intro W' hW'; go_simp <;> with_reducible rfl
      simp only [Act.put, List.setIfInBounds_toArray, List.set_cons_zero, List.set_cons_succ]
      refine wpAnyH_take (i := 7) (v := ?_) (by simp only [List.getElem?_toArray, List.getElem?_cons_succ, List.getElem?_cons_zero]; rfl) (by kernel_rfl) (by kernel_rfl) (by kernel_rfl) (by exact fun _ _ _ h => h) (Or.inl ⟨by rfl, ?_⟩) hHeld ?_
      rotate_left
      · intro W' hW'; go_simp <;> with_reducible rfl
      simp only [Act.put, List.setIfInBounds_toArray, List.set_cons_zero, List.set_cons_succ]
      refine wpAnyH_take (i := 8) (v := ?_) (by simp only [List.getElem?_toArray, List.getElem?_cons_succ, List.getElem?_cons_zero]; rfl) (by kernel_rfl) (by kernel_rfl) (by kernel_rfl) (by exact fun _ _ _ h => h) (Or.inl ⟨by rfl, ?_⟩) hHeld ?_
      rotate_left
      · intro W' hW'; obtain ⟨v0,v1,v2,v3,v4,v5⟩ := hcells W' hW'; go_simp <;> with_reducible rfl
      simp only [Act.put, List.setIfInBounds_toArray, List.set_cons_zero, List.set_cons_succ]
      refine wpAnyH_take (i := 9) (v := ?_) (by simp only [List.getElem?_toArray, List.getElem?_cons_succ, List.getElem?_cons_zero]; rfl) (by kernel_rfl) (by kernel_rfl) (by kernel_rfl) (by exact fun _ _ _ h => h) (Or.inl ⟨by rfl, ?_⟩) hHeld ?_
      rotate_left
      · intro W' hW'; go_simp <;> with_reducible rfl
      simp only [Act.put, List.setIfInBounds_toArray, List.set_cons_zero, List.set_cons_succ]
      refine wpAnyH_take (i := 10) (v := ?_) (by simp only [List.getElem?_toArray, List.getElem?_cons_succ, List.getElem?_cons_zero]; rfl) (by kernel_rfl) (by kernel_rfl) (by kernel_rfl) (by exact fun _ _ _ h => h) (Or.inl ⟨by rfl, ?_⟩) hHeld ?_
      rotate_left
      · intro W' hW'; obtain ⟨v0,v1,v2,v3,v4,v5⟩ := hcells W' hW'; go_simp <;> with_reducible rfl
      simp only [Act.put, List.setIfInBounds_toArray, List.set_cons_zero, List.set_cons_succ]
      refine wpAnyH_take (i := 11) (v := ?_) (by simp only [List.getElem?_toArray, List.getElem?_cons_succ, List.getElem?_cons_zero]; rfl) (by kernel_rfl) (by kernel_rfl) (by kernel_rfl) (by exact fun _ _ _ h => h) (Or.inl ⟨by rfl, ?_⟩) hHeld ?_
      rotate_left
      · intro W' hW'; go_simp <;> with_reducible rfl
      simp only [Act.put, List.setIfInBounds_toArray, List.set_cons_zero, List.set_cons_succ]
      refine wpAnyH_take (i := 12) (v := ?_) (by simp only [List.getElem?_toArray, List.getElem?_cons_succ, List.getElem?_cons_zero]; rfl) (by kernel_rfl) (by kernel_rfl) (by kernel_rfl) (by exact fun _ _ _ h => h) (Or.inl ⟨by rfl, ?_⟩) hHeld ?_
      rotate_left
      · intro W' hW'; obtain ⟨v0,v1,v2,v3,v4,v5⟩ := hcells W' hW'; go_simp <;> with_reducible rfl
      simp only [Act.put, List.setIfInBounds_toArray, List.set_cons_zero, List.set_cons_succ]
      refine wpAnyH_take (i := 13) (v := ?_) (by simp only [List.getElem?_toArray, List.getElem?_cons_succ, List.getElem?_cons_zero]; rfl) (by kernel_rfl) (by kernel_rfl) (by kernel_rfl) (by exact fun _ _ _ h => h) (Or.inl ⟨by rfl, ?_⟩) hHeld ?_
      rotate_left
      · intro W' hW'; go_simp <;> with_reducible rfl
      simp only [Act.put, List.setIfInBounds_toArray, List.set_cons_zero, List.set_cons_succ]
      refine wpAnyH_take (i := 14) (v := ?_) (by simp only [List.getElem?_toArray, List.getElem?_cons_succ, List.getElem?_cons_zero]; rfl) (by kernel_rfl) (by kernel_rfl) (by kernel_rfl) (by exact fun _ _ _ h => h) (Or.inl ⟨by rfl, ?_⟩) hHeld ?_
      rotate_left
      · intro W' hW'; go_simp <;> with_reducible rfl
      simp only [Act.put, List.setIfInBounds_toArray, List.set_cons_zero, List.set_cons_succ]
      refine wpAnyH_take (i := 15) (v := ?_) (by simp only [List.getElem?_toArray, List.getElem?_cons_succ, List.getElem?_cons_zero]; rfl) (by kernel_rfl) (by kernel_rfl) (by kernel_rfl) (by exact fun _ _ _ h => h) (Or.inl ⟨by rfl, ?_⟩) hHeld ?_
      rotate_left
      · intro W' hW'; obtain ⟨v0,v1,v2,v3,v4,v5⟩ := hcells W' hW'; go_simp <;> with_reducible rfl
      simp only [Act.put, List.setIfInBounds_toArray, List.set_cons_zero, List.set_cons_succ]
      refine wpAnyH_take (i := 16) (v := ?_) (by simp only [List.getElem?_toArray, List.getElem?_cons_succ, List.getElem?_cons_zero]; rfl) (by kernel_rfl) (by kernel_rfl) (by kernel_rfl) (by exact fun _ _ _ h => h) (Or.inl ⟨by rfl, ?_⟩) hHeld ?_
      rotate_left
      · intro W' hW'; go_simp <;> with_reducible rfl
      simp only [Act.put, List.setIfInBounds_toArray, List.set_cons_zero, List.set_cons_succ]
      refine wpAnyH_take (i := 17) (v := ?_) (by simp only [List.getElem?_toArray, List.getElem?_cons_succ, List.getElem?_cons_zero]; rfl) (by kernel_rfl) (by kernel_rfl) (by kernel_rfl) (by exact fun _ _ _ h => h) (Or.inl ⟨by rfl, ?_⟩) hHeld ?_
      rotate_left
      · intro W' hW'; go_simp <;> with_reducible rfl
      simp only [Act.put, List.setIfInBounds_toArray, List.set_cons_zero, List.set_cons_succ]
      refine wpAnyH_take (i := 18) (v := ?_) (by simp only [List.getElem?_toArray, List.getElem?_cons_succ, List.getElem?_cons_zero]; rfl) (by kernel_rfl) (by kernel_rfl) (by kernel_rfl) (by exact fun _ _ _ h => h) (Or.inl ⟨by rfl, ?_⟩) hHeld ?_
      rotate_left
      · intro W' hW'; go_simp <;> with_reducible rfl
      simp only [Act.put, List.setIfInBounds_toArray, List.set_cons_zero, List.set_cons_succ]
      refine wpAnyH_ready (rs := [19]) (by kernel_rfl) (by simp) ?_
      refine AllReadyH.cons (by simp only [List.getElem?_toArray, List.getElem?_cons_succ, List.getElem?_cons_zero]; rfl) (fun K hK => ?_) AllReadyH.nil
      rw [if_pos (by rfl)]
      go_simp
      rw [← hW9]
      refine hK.out _ _ hS99 (fun hHeld => ?_)
      clear hK K
      refine wpAnyH_done (by kernel_rfl) ?_ _
      clear hHeld hS9 hS99 t0 t1 t2 t3 o0 o1 o2 o3 hcells hW9
      have hcells := hca
      clear hca
      go_wp2_with (fail)
      obtain ⟨r0, r1, r2, d0, d1, d2⟩ := R9.out
      refine wp_region_held_drew (S := Sa) (by kernel_rfl) (hSad _ (hSad _ (hSad _ hSa))) (fun hHeld => ?_)
      refine wpAnyH_take (i := 0) (v := ?_) (by simp only [List.getElem?_toArray, List.getElem?_cons_succ, List.getElem?_cons_zero]; rfl) (by kernel_rfl) (by kernel_rfl) (by kernel_rfl) (by exact fun _ _ _ h => h) (Or.inl ⟨by rfl, ?_⟩) hHeld ?_
      rotate_left
      · intro W' hW'; obtain ⟨v0,v1,v2,v3,v4,v5⟩ := hcells W' hW'; go_simp <;> with_reducible rfl
      simp only [Act.put, List.setIfInBounds_toArray, List.set_cons_zero, List.set_cons_succ]
      refine wpAnyH_take (i := 1) (v := ?_) (by simp only [List.getElem?_toArray, List.getElem?_cons_succ, List.getElem?_cons_zero]; rfl) (by kernel_rfl) (by kernel_rfl) (by kernel_rfl) (by exact fun _ _ _ h => h) (Or.inl ⟨by rfl, ?_⟩) hHeld ?_
      rotate_left
      · intro W' hW'; go_simp <;> with_reducible rfl
      simp only [Act.put, List.setIfInBounds_toArray, List.set_cons_zero, List.set_cons_succ]
      refine wpAnyH_take (i := 2) (v := ?_) (by simp only [List.getElem?_toArray, List.getElem?_cons_succ, List.getElem?_cons_zero]; rfl) (by kernel_rfl) (by kernel_rfl) (by kernel_rfl) (by exact fun _ _ _ h => h) (Or.inl ⟨by rfl, ?_⟩) hHeld ?_
      rotate_left
      · intro W' hW'; obtain ⟨v0,v1,v2,v3,v4,v5⟩ := hcells W' hW'; go_simp <;> with_reducible rfl
      simp only [Act.put, List.setIfInBounds_toArray, List.set_cons_zero, List.set_cons_succ]
      refine wpAnyH_take (i := 3) (v := ?_) (by simp only [List.getElem?_toArray, List.getElem?_cons_succ, List.getElem?_cons_zero]; rfl) (by kernel_rfl) (by kernel_rfl) (by kernel_rfl) (by exact fun _ _ _ h => h) (Or.inl ⟨by rfl, ?_⟩) hHeld ?_
      rotate_left
      · intro W' hW'; go_simp <;> with_reducible rfl
      simp only [Act.put, List.setIfInBounds_toArray, List.set_cons_zero, List.set_cons_succ]
      refine wpAnyH_take (i := 4) (v := ?_) (by simp only [List.getElem?_toArray, List.getElem?_cons_succ, List.getElem?_cons_zero]; rfl) (by kernel_rfl) (by kernel_rfl) (by kernel_rfl) (by exact fun _ _ _ h => h) (Or.inl ⟨by rfl, ?_⟩) hHeld ?_
      rotate_left
      · intro W' hW'; obtain ⟨v0,v1,v2,v3,v4,v5⟩ := hcells W' hW'; go_simp <;> with_reducible rfl
      simp only [Act.put, List.setIfInBounds_toArray, List.set_cons_zero, List.set_cons_succ]
      refine wpAnyH_take (i := 5) (v := ?_) (by simp only [List.getElem?_toArray, List.getElem?_cons_succ, List.getElem?_cons_zero]; rfl) (by kernel_rfl) (by kernel_rfl) (by kernel_rfl) (by exact fun _ _ _ h => h) (Or.inl ⟨by rfl, ?_⟩) hHeld ?_
      rotate_left
      · intro W' hW'; go_simp <;> with_reducible rfl
      simp only [Act.put, List.setIfInBounds_toArray, List.set_cons_zero, List.set_cons_succ]
      refine wpAnyH_take (i := 6) (v := ?_) (by simp only [List.getElem?_toArray, List.getElem?_cons_succ, List.getElem?_cons_zero]; rfl) (by kernel_rfl) (by kernel_rfl) (by kernel_rfl) (by exact fun _ _ _ h => h) (Or.inl ⟨by rfl, ?_⟩) hHeld ?_
      rotate_left
      · intro W' hW'; obtain ⟨v0,v1,v2,v3,v4,v5⟩ := hcells W' hW'; go_simp <;> with_reducible rfl
      simp only [Act.put, List.setIfInBounds_toArray, List.set_cons_zero, List.set_cons_succ]
      refine wpAnyH_take (i := 7) (v := ?_) (by simp only [List.getElem?_toArray, List.getElem?_cons_succ, List.getElem?_cons_zero]; rfl) (by kernel_rfl) (by kernel_rfl) (by kernel_rfl) (by exact fun _ _ _ h => h) (Or.inl ⟨by rfl, ?_⟩) hHeld ?_
      rotate_left
      · intro W' hW'; go_simp <;> with_reducible rfl
      simp only [Act.put, List.setIfInBounds_toArray, List.set_cons_zero, List.set_cons_succ]
      refine wpAnyH_take (i := 8) (v := ?_) (by simp only [List.getElem?_toArray, List.getElem?_cons_succ, List.getElem?_cons_zero]; rfl) (by kernel_rfl) (by kernel_rfl) (by kernel_rfl) (by exact fun _ _ _ h => h) (Or.inl ⟨by rfl, ?_⟩) hHeld ?_
      rotate_left
      · intro W' hW'; go_simp <;> with_reducible rfl
      simp only [Act.put, List.setIfInBounds_toArray, List.set_cons_zero, List.set_cons_succ]
      refine wpAnyH_take (i := 9) (v := ?_) (by simp only [List.getElem?_toArray, List.getElem?_cons_succ, List.getElem?_cons_zero]; rfl) (by kernel_rfl) (by kernel_rfl) (by kernel_rfl) (by exact fun _ _ _ h => h) (Or.inl ⟨by rfl, ?_⟩) hHeld ?_
      rotate_left
      · intro W' hW'; obtain ⟨v0,v1,v2,v3,v4,v5⟩ := hcells W' hW'; go_simp <;> with_reducible rfl
      simp only [Act.put, List.setIfInBounds_toArray, List.set_cons_zero, List.set_cons_succ]
      refine wpAnyH_ready (rs := [10]) (by kernel_rfl) (by simp) ?_
      refine AllReadyH.cons (by simp only [List.getElem?_toArray, List.getElem?_cons_succ, List.getElem?_cons_zero]; rfl) (fun K hK => ?_) AllReadyH.nil
      rw [if_pos (by rfl)]
      go_simp
      refine hK.out _ _ (hSad _ (hSad _ (hSa5 _ _ _ _ hSa))) (fun hHeld => ?_)
      clear hK K
      refine wpAnyH_take (i := 11) (v := ?_) (by simp only [List.getElem?_toArray, List.getElem?_cons_succ, List.getElem?_cons_zero]; rfl) (by kernel_rfl) (by kernel_rfl) (by kernel_rfl) (by exact fun _ _ _ h => h) (Or.inl ⟨by rfl, ?_⟩) hHeld ?_
      rotate_left
      · intro W' hW'; go_simp <;> with_reducible rfl
      simp only [Act.put, List.setIfInBounds_toArray, List.set_cons_zero, List.set_cons_succ]
      refine wpAnyH_done (by kernel_rfl) ?_ _
      have Rz := Var3.putAll (w := W9) ⟨r0, r1, r2, d0, d1, d2⟩ (.slice (some ⟨A .fr, 0, none⟩) 8 cf) (.slice (some ⟨A .gs, 0, none⟩) n cg) (.int .i64 h2.hand)
      have Mz := Mz.out
      clear r0 r1 r2 d0 d1 d2 hHeld hSa hSa5 hSad hcells R9
      generalize ((W9.setCell ⟨w.heap.size + 1, 0, none⟩ (.slice (some ⟨A .fr, 0, none⟩) 8 cf)).setCell ⟨w.heap.size + 1, 1, none⟩ (.slice (some ⟨A .gs, 0, none⟩) n cg)).setCell ⟨w.heap.size + 1, 2, none⟩ (.int .i64 h2.hand) = Wz at *
      obtain ⟨r0, r1, r2, _, _, _⟩ := Var3.same (w' := Wz.drew) Rz rfl
      clear Rz
      go_wp2
      refine bodyPost_ret (v := .tuple #[.agg #[.slice (some ⟨A .fr, 0, none⟩) 8 cf, .slice (some ⟨A .gs, 0, none⟩) n cg, .int .i64 h2.hand], .int .i64 z]) (by simp [results, Try.results121, go_sem, *]) rfl ?_
      rw [cond_true, cond_true, Int.toNat_natCast, ← hend.out.1]
      rw [← Hh3.out.1]
      exact ⟨by rw [← hend.out.2, Hz.out, show h3.hand = h2.hand by rw [Hh3.out.1]; rfl], A2, Mz.below hN ((Below.refl _ _).drew.drew)⟩
/-- What the given l14ReadIn does. -/
theorem specReadIn14 (N : Nat) (A : Pl → Nat) (h : Hst) (g i o : Nat) (n cf cg : Nat) (w : World) (k : SepH w N A h) (kk : OkH h) (hn : h.guests.length = n) (hg : g < n) (hi : i < 6) (ho4 : o < 4) (hN : N ≤ w.heap.size) :
    Calls Try.prog 121 #[.agg #[.slice (some ⟨A .fr, 0, none⟩) 8 cf, .slice (some ⟨A .gs, 0, none⟩) n cg, .int .i64 h.hand], .int .i64 g, .int .i64 i, .int .i64 o] w fun e w' => e = .returned (.tuple #[.agg #[.slice (some ⟨A .fr, 0, none⟩) 8 cf, .slice (some ⟨A .gs, 0, none⟩) n cg, .int .i64 (rinH h g i).hand], .int .i64 (rinG h g i o)]) ∧ ∃ A', Mv w w' w.heap.size N n A A' (rinH h g i) := by
  cases hs : (sAt h g i).1
  · exact specReadIn_not N A h g i o n cf cg w k kk hn hg hi ho4 hN hs
  · have e := specReadIn_has N A h g i o n cf cg w k kk hn hg hi ho4 hN hs
    rw [rinH, rinG, hs, cond_true, cond_true]
    exact e.mono fun e w' hx => ⟨hx.1, A, hx.2⟩
end Go.Proofs.Ytjegndgdpmlbaaa
