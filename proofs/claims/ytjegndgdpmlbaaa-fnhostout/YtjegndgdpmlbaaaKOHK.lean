/-
  What the given l14WriteIn does by a shade that may be written.
-/
import Derived.Test.YtjegndgdpmlbaaaKOHJ
import Derived.Test.YtjegndgdpmlbaaaKOAG
import Derived.Deep.DeepCutAuto
set_option linter.unusedSimpArgs false
namespace Go.Proofs.Ytjegndgdpmlbaaa
open Go.RowKit
attribute [local go_sem ↓] Go.wp_at_zero Go.wp_at_succ exec_app
attribute [local go_sem] bigNext_ok

set_option maxRecDepth 100000 in
set_option maxHeartbeats 4000000 in
theorem specWriteIn_has (N : Nat) (A : Pl → Nat) (h : Hst) (g i o : Nat) (y : Int) (n cf cg : Nat) (w : World) (k : SepH w N A h) (kk : OkH h) (hn : h.guests.length = n) (hg : g < n) (hi : i < 6) (ho4 : o < 4) (hN : N ≤ w.heap.size) (hs : (sAt h g i).1 = true) (hw : (sAt h g i).2.2.2 = true) :
    Calls Try.prog 123 #[.agg #[.slice (some ⟨A .fr, 0, none⟩) 8 cf, .slice (some ⟨A .gs, 0, none⟩) n cg, .int .i64 h.hand], .int .i64 g, .int .i64 i, .int .i64 o, .int .i64 y] w fun e w' => e = .returned (.tuple #[.agg #[.slice (some ⟨A .fr, 0, none⟩) 8 cf, .slice (some ⟨A .gs, 0, none⟩) n cg, .int .i64 h.hand], .int .i64 (zAt h g (sAt h g i).2.1.toNat o)]) ∧ Mv w w' w.heap.size N n A A (wordP h (sAt h g i).2.2.1.toNat o y) := by
  obtain ⟨W2, hW2⟩ : ∃ W2, W2 = (w.alloc (.cells #[.slice (some ⟨A .fr, 0, none⟩) 8 cf, .slice (some ⟨A .gs, 0, none⟩) n cg, .int .i64 h.hand] 26)).alloc (.cells #[.slice none 0 0, .slice none 0 0, .int .i64 0] 26) := ⟨_, rfl⟩
  have B2 : Below w.heap.size w W2 := by rw [hW2]; exact ((Below.refl _ _).alloc (Nat.le_refl _) _).alloc (by simp) _
  have s2 : W2.heap.size = w.heap.size + 2 := by rw [hW2]; simp
  have p2 : Var3 W2 w.heap.size (.slice (some ⟨A .fr, 0, none⟩) 8 cf) (.slice (some ⟨A .gs, 0, none⟩) n cg) (.int .i64 h.hand) := by rw [hW2]; exact (var3_new w _ _ _ _).allocK _
  have r2 : Var3 W2 (w.heap.size + 1) (.slice none 0 0) (.slice none 0 0) (.int .i64 0) := by rw [hW2]; exact var3_newK (by simp)
  have hAl : ∀ x, x.ok n → A x < w.heap.size := fun x hx => (k.low x (by rw [hn]; exact hx)).2
  have m2 : Mv w W2 (w.heap.size + 2) N n A A h := Mv.start k hn B2 hN (Nat.le_add_right _ _) (by omega)
  have hgh : g < h.guests.length := by omega
  obtain ⟨si2, si5, sim, sif, _⟩ := kk.si g i hgh hi hs
  obtain ⟨F, hF8, hmF⟩ := okH_fr kk hgh (show (sAt h g i).2.1.toNat < 6 by omega) sim
  obtain ⟨_, _, _, _, ⟨c2, q2⟩, q3⟩ := m2.sep.cells hgh (show (sAt h g i).2.1.toNat < 6 by omega) hF8 hmF ho4
  rw [← zAt_in sim hmF o] at q3
  rw [hmF] at sif
  obtain ⟨⟨c1, q1⟩, e0, e1, e2, e3⟩ := m2.sep.shadeC hgh hi
  rw [hs] at e0
  rw [← sif] at e2
  rw [hw] at e3
  rw [← sif, Int.toNat_natCast]
  generalize zAt h g (sAt h g i).2.1.toNat o = z at *
  generalize (sAt h g i).2.1 = P at *
  have lG0 := hAl .gs trivial
  have lF0 := hAl .fr trivial
  have lP0 := hAl (.page F) hF8
  obtain ⟨W3, hW3⟩ : ∃ W3, W3 = W2.alloc (.cells #[.bool true, .int .i64 P, .int .i64 F, .bool true] 49) := ⟨_, rfl⟩
  have B3 : Below W2.heap.size W2 W3 := by rw [hW3]; exact (Below.refl _ _).alloc (Nat.le_refl _) _
  have s3 : W3.heap.size = w.heap.size + 3 := by rw [hW3]; simp; omega
  have x3 : W3.cell? ⟨w.heap.size + 1 + 1, 0, none⟩ = some (.bool true) ∧ W3.cell? ⟨w.heap.size + 1 + 1, 2, none⟩ = some (.int .i64 F) := by rw [show w.heap.size + 1 + 1 = W2.heap.size from s2.symm, hW3]; simp
  have M3 := m2.below hN B3
  have R3 := hidE (r2.belowK B3)
  have P3 := hidE (p2.belowK B3)
  have l2 : ∀ b, b < w.heap.size + 2 → b < W2.heap.size := fun b hb => by omega
  have q23 := hidE ((B3.cell (p := ⟨A .fr, F, none⟩) (l2 _ (by show A .fr < _; omega))).trans q2)
  have q33 := hidE ((B3.cell (p := ⟨A (.page F), o, none⟩) (l2 _ (by show A (.page F) < _; omega))).trans q3)
  have f33 := hidE (((M3.sep.held (.page F) hF8).2 o ho4).2)
  have lPN := (M3.sep.low (.page F) hF8).1
  have M5 := M3.put (M3.sep.word hF8 o y) (by exact hn) ((Below.refl N _).setCell (p := ⟨A (.page F), o, none⟩) lPN _) (x0 := .page F) hF8 (by simp) (fun j _ h2 => Below.heap_setCell _ _ _ _ (by simpa using h2))
  have M9 := hidE ((M5.off3 hAl (b := w.heap.size + 1) (by omega) (by omega) hN (.slice (some ⟨A .fr, 0, none⟩) 8 cf) (.slice (some ⟨A .gs, 0, none⟩) n cg) (.int .i64 h.hand)).weak (M' := w.heap.size) (Nat.le_refl _) (by omega))
  have hgi : (g : Int) < (n : Int) := by omega
  have hii : (i : Int) < 6 := by omega
  have hoi : (o : Int) < 4 := by omega
  have hFi : (F : Int) < 8 := by omega
  have nP0 : A (.page F) ≠ w.heap.size := by omega
  have nP1 : A (.page F) ≠ w.heap.size + 1 := by omega
  have nP2 : A (.page F) ≠ w.heap.size + 1 + 1 := by omega
  have X3 := hidE x3
  rw [hW2] at q1 e0 e1 e2 e3
  replace s2 := hidE s2
  replace s3 := hidE s3
  obtain ⟨pp0, pp1, pp2, _, _, _⟩ := p2
  clear m2 M3 M5 B3 B2 k kk sim si2 si5 hmF r2 q2 q3 x3 hs hw sif
  go_enter Try.func123, Try.ntmps123
  go_upto_region 12 with fail
  rw [← hW2, ← hW3]
  clear hW2 hW3 pp0 pp1 pp2 q1 e0 e1 e2 e3 lP0
  have hl3 := hidE s3.out
  have lR3 : w.heap.size + 1 < W3.heap.size := by have := s3.out; omega
  obtain ⟨r0, r1, r2, d0, d1, d2⟩ := R3.out
  obtain ⟨p0, p1, p2, _, _, _⟩ := P3.out
  obtain ⟨x0, x2⟩ := X3.out
  have q2 := q23.out
  have q3 := q33.out
  have f3 := f33.out
  go_wp2_with (fail)
  have R5 := (R3.out.same (w' := W3.setCell ⟨A (.page F), o, none⟩ (.int .i64 y)) (by rw [Below.heap_setCell _ _ _ _ (by simpa using Ne.symm nP1)])).putAll (.slice (some ⟨A .fr, 0, none⟩) 8 cf) (.slice (some ⟨A .gs, 0, none⟩) n cg) (.int .i64 h.hand)
  clear r0 r1 r2 d0 d1 d2 p0 p1 p2 x0 x2 q2 q3 f3
  generalize (((W3.setCell ⟨A (.page F), o, none⟩ (.int .i64 y)).setCell ⟨w.heap.size + 1, 0, none⟩ (.slice (some ⟨A .fr, 0, none⟩) 8 cf)).setCell ⟨w.heap.size + 1, 1, none⟩ (.slice (some ⟨A .gs, 0, none⟩) n cg)).setCell ⟨w.heap.size + 1, 2, none⟩ (.int .i64 h.hand) = W9 at *
  obtain ⟨r0, r1, r2, _, _, _⟩ := R5
  refine bodyPost_ret (v := .tuple #[.agg #[.slice (some ⟨A .fr, 0, none⟩) 8 cf, .slice (some ⟨A .gs, 0, none⟩) n cg, .int .i64 h.hand], .int .i64 z]) (by simp [results, Try.results123, go_sem, *]) rfl ?_
  exact ⟨rfl, M9.out⟩
end Go.Proofs.Ytjegndgdpmlbaaa

/-
  What the given l14WriteIn does where there is no shade that may be written.
-/
set_option linter.unusedSimpArgs false
namespace Go.Proofs.Ytjegndgdpmlbaaa
open Go.RowKit
attribute [local go_sem ↓] Go.wp_at_zero Go.wp_at_succ exec_app
attribute [local go_sem] bigNext_ok

set_option maxRecDepth 100000 in
set_option maxHeartbeats 8000000 in
theorem specWriteIn_not (N : Nat) (A : Pl → Nat) (h : Hst) (g i o : Nat) (y : Int) (n cf cg : Nat) (w : World) (k : SepH w N A h) (kk : OkH h) (hn : h.guests.length = n) (hg : g < n) (hi : i < 6) (ho4 : o < 4) (hN : N ≤ w.heap.size) (hs : winW h g i = false) :
    Calls Try.prog 123 #[.agg #[.slice (some ⟨A .fr, 0, none⟩) 8 cf, .slice (some ⟨A .gs, 0, none⟩) n cg, .int .i64 h.hand], .int .i64 g, .int .i64 i, .int .i64 o, .int .i64 y] w fun e w' => e = .returned (.tuple #[.agg #[.slice (some ⟨A .fr, 0, none⟩) 8 cf, .slice (some ⟨A .gs, 0, none⟩) n cg, .int .i64 (winH h g i o y).hand], .int .i64 (winG h g i o)]) ∧ ∃ A', Mv w w' w.heap.size N n A A' (winH h g i o y) := by
  obtain ⟨W2, hW2⟩ : ∃ W2, W2 = (w.alloc (.cells #[.slice (some ⟨A .fr, 0, none⟩) 8 cf, .slice (some ⟨A .gs, 0, none⟩) n cg, .int .i64 h.hand] 26)).alloc (.cells #[.slice none 0 0, .slice none 0 0, .int .i64 0] 26) := ⟨_, rfl⟩
  have B2 : Below w.heap.size w W2 := by rw [hW2]; exact ((Below.refl _ _).alloc (Nat.le_refl _) _).alloc (by simp) _
  have s2 : W2.heap.size = w.heap.size + 2 := by rw [hW2]; simp
  have p2 : Var3 W2 w.heap.size (.slice (some ⟨A .fr, 0, none⟩) 8 cf) (.slice (some ⟨A .gs, 0, none⟩) n cg) (.int .i64 h.hand) := by rw [hW2]; exact (var3_new w _ _ _ _).allocK _
  have r2 : Var3 W2 (w.heap.size + 1) (.slice none 0 0) (.slice none 0 0) (.int .i64 0) := by rw [hW2]; exact var3_newK (by simp)
  have hAl : ∀ x, x.ok n → A x < w.heap.size := fun x hx => (k.low x (by rw [hn]; exact hx)).2
  have m2 : Mv w W2 (w.heap.size + 2) N n A A h := Mv.start k hn B2 hN (Nat.le_add_right _ _) (by omega)
  have hgh : g < h.guests.length := by omega
  obtain ⟨⟨c1, q1⟩, e0, e1, e2, e3⟩ := m2.sep.shadeC hgh hi
  have hrH : winH h g i o y = bif (eAt h g i).1 && (eAt h g i).2.2 then wordP (winY h g i) (mAt (winY h g i) g (eAt h g i).2.1.toNat).2.1.toNat o y else winX h g i := by rw [winH, hs]; rfl
  have hrG : winG h g i o = bif (eAt h g i).1 then (bif (eAt h g i).2.2 then zAt h g (eAt h g i).2.1.toNat o else -2) else -1 := by rw [winG, hs]; rfl
  rw [hrH, hrG]
  clear hrH hrG
  rw [winW] at hs
  generalize (sAt h g i).1 = t0 at *
  generalize (sAt h g i).2.1 = t1 at *
  generalize (sAt h g i).2.2.1 = t2 at *
  generalize (sAt h g i).2.2.2 = t3 at *
  have lG0 := hAl .gs trivial
  have lS0 := hAl (.shd g) hg
  obtain ⟨W3, hW3⟩ : ∃ W3, W3 = W2.alloc (.cells #[.bool t0, .int .i64 t1, .int .i64 t2, .bool t3] 49) := ⟨_, rfl⟩
  have B3 : Below W2.heap.size W2 W3 := by rw [hW3]; exact (Below.refl _ _).alloc (Nat.le_refl _) _
  have s3 : W3.heap.size = w.heap.size + 3 := by rw [hW3]; simp; omega
  have p3 := hidE (p2.belowK B3)
  have r3 := hidE (r2.belowK B3)
  have m3 : Mv w W3 (w.heap.size + 3) N n A A h := Mv.start k hn (B2.trans (B3.mono B2.size)) hN (Nat.le_add_right _ _) (by omega)
  have V3 : Room W3 (w.heap.size + 2) 4 := by
    intro j hj
    rw [show w.heap.size + 2 = W2.heap.size from s2.symm, hW3]
    rcases (by omega : j = 0 ∨ j = 1 ∨ j = 2 ∨ j = 3) with e | e | e | e <;> subst e <;> exact ⟨⟨_, by simp; rfl⟩, by simp⟩
  have q13 := hidE (m3.sep.shadeC hgh hi).1
  have hRm := hidE ((m3.sep.held (.shd g) hgh).2)
  have lSN := (m3.sep.low (.shd g) hgh).1
  -- the shade is struck
  obtain ⟨k0, c0⟩ := setS_ok kk hgh hi (s := noS) (fun _ => rfl) (fun hc => by cases hc)
  have l0 := setS_len h g i noS
  have hSep := m3.sep.shade hgh hi noS
  simp only [noS] at hSep
  obtain ⟨W4, hW4⟩ : ∃ W4, W4 = (((W3.setCell ⟨A (.shd g), i * 4, none⟩ (.bool false)).setCell ⟨A (.shd g), i * 4 + 1, none⟩ (.int .i64 0)).setCell ⟨A (.shd g), i * 4 + 2, none⟩ (.int .i64 0)).setCell ⟨A (.shd g), i * 4 + 3, none⟩ (.bool false) := ⟨_, rfl⟩
  rw [← hW4] at hSep
  have e4 : ∀ j, j ≠ A (.shd g) → W4.heap[j]? = W3.heap[j]? := fun j hj => by rw [hW4, Below.heap_setCell _ _ _ _ (by simpa using hj), Below.heap_setCell _ _ _ _ (by simpa using hj), Below.heap_setCell _ _ _ _ (by simpa using hj), Below.heap_setCell _ _ _ _ (by simpa using hj)]
  have s4 : W4.heap.size = W3.heap.size := by rw [hW4]; simp
  have B4 : Below N W3 W4 := by rw [hW4]; exact ((((Below.refl N W3).setCell (p := ⟨A (.shd g), i * 4, none⟩) lSN _).setCell (p := ⟨A (.shd g), i * 4 + 1, none⟩) lSN _).setCell (p := ⟨A (.shd g), i * 4 + 2, none⟩) lSN _).setCell (p := ⟨A (.shd g), i * 4 + 3, none⟩) lSN _
  have m4 : Mv w W4 (w.heap.size + 3) N n A A (setS h g i noS) := m3.put (x0 := .shd g) (h2 := setS h g i noS) hSep (by rw [l0]; exact hn) B4 hg (by omega) (fun j _ hj => e4 j hj)
  have p4 := hidE (p3.out.same (e4 _ (by omega)))
  have V4 := hidE (V3.same (same_block (e4 (w.heap.size + 2) (by omega))) (Nat.le_refl _) (Nat.lt_succ_self _))
  have r4 := hidE (r3.out.same (e4 _ (by omega)))
  have hwalk := specWalk14 N A (setS h g i noS) g i n cf cg W4 m4.sep k0 (by rw [l0]; exact hn) hg hi (by omega)
  have hee : eAt (setS h g i noS) g i = eAt h g i := by rw [eAt, eAt, zAt, zAt, c0]
  rw [hee, show inP (setS h g i noS) g (i / 4) = winX h g i from rfl] at hwalk
  obtain ⟨k1, l1, c1X⟩ := winX_ok kk hgh hi
  have hent := entE_in (z := zAt h g (i / 4) (i % 4))
  rw [show entE (zAt h g (i / 4) (i % 4)) = eAt h g i from rfl] at hent
  unfold ent at hwalk
  have hY : winY h g i = setS (ownP (winX h g i) g (eAt h g i).2.1.toNat) g i (castS (ownP (winX h g i) g (eAt h g i).2.1.toNat) g (eAt h g i).2.1.toNat true) := rfl
  rw [hY]
  have hzz : ∀ p, p < 6 → zAt (winX h g i) g p o = zAt h g p o := fun p hp => by rw [zAt, c1X g p hgh hp]; rfl
  clear hY hee c1X
  generalize winX h g i = h1 at *
  generalize eAt h g i = E at *
  obtain ⟨b0, b1, b2⟩ := E
  simp only at hwalk hent ⊢
  have hh4 : (setS h g i noS).hand = h.hand := rfl
  rw [hh4] at hwalk
  have hwalk := hidE hwalk
  have m4 := hidE m4
  have k1 := hidE k1
  have hent := hidE hent
  have hzz := hidE hzz
  obtain ⟨pp0, pp1, pp2, _, _, _⟩ := p2
  rw [hW2] at q1 e0 e1 e2 e3
  have S2 := hidE s2
  have S3 := hidE s3
  have S4 := hidE s4
  have hgi : (g : Int) < (n : Int) := by omega
  have hii : (i : Int) < 6 := by omega
  have lS3 : A (.shd g) < W3.heap.size := by omega
  have nS0 : A (.shd g) ≠ w.heap.size := by omega
  clear m2 B3 B2 kk k m3 r2 s2 s3 s4 hSep e4 B4 k0 c0 l0 hh4 V3
  cases t0 <;> cases t3
  case true.true => cases hs
  all_goals
    go_enter Try.func123, Try.ntmps123
    go_upto_region 3 with fail
    rw [← hW2, ← hW3]
    clear hW2 hW3 q1 e0 e1 e2 e3 pp0 pp1 pp2
    obtain ⟨c2, q3⟩ := q13.out
    obtain ⟨⟨⟨u0, v0⟩, f0⟩, ⟨⟨u1, v1⟩, f1⟩, ⟨⟨u2, v2⟩, f2⟩, ⟨⟨u3, v3⟩, f3⟩⟩ := And.intro (hRm.out (i * 4) (by omega)) (And.intro (hRm.out (i * 4 + 1) (by omega)) (And.intro (hRm.out (i * 4 + 2) (by omega)) (hRm.out (i * 4 + 3) (by omega))))
    obtain ⟨z0, z1, z2, _, _, _⟩ := p3.out
    obtain ⟨x0, x1, x2, _, _, _⟩ := p4.out
    rw [hW4] at x0 x1 x2
    go_wp2_with (fail)
    rw [← hW4]
    clear hW4 v0 v1 v2 v3 f0 f1 f2 f3 z0 z1 z2 x0 x1 x2
    refine hwalk.out.mono ?_
    rintro e w4 ⟨rfl, A1, M4⟩
    have s4 := M4.size
    have e2w := S2.out
    have e3w := S3.out
    have e4w := S4.out
    have hN4 : N ≤ w4.heap.size := by omega
    have M04 := hidE (m4.out.call hAl M4)
    have R4 := hidE (r4.out.same (m4.out.own hAl M4 (j := w.heap.size + 1) (by omega) (by omega)))
    have P4 := hidE (p4.out.same (m4.out.own hAl M4 (j := w.heap.size) (by omega) (by omega)))
    have Vw := hidE (V4.out.same (same_block (m4.out.own hAl M4 (j := w.heap.size + 2) (by omega) (by omega))) (Nat.le_refl _) (Nat.lt_succ_self _))
    have hAl1 : ∀ x, x.ok n → A1 x < w4.heap.size := fun x hx => (M4.sep.low x (by rw [M4.len]; exact hx)).2
    obtain ⟨W5, hW5⟩ : ∃ W5, W5 = (w4.alloc (.cells #[.slice (some ⟨A .fr, 0, none⟩) 8 cf, .slice (some ⟨A .gs, 0, none⟩) n cg, .int .i64 h1.hand] 26)).alloc (.cells #[.bool b0, .int .i64 b1, .bool b2] 149) := ⟨_, rfl⟩
    have B5 : Below w4.heap.size w4 W5 := by rw [hW5]; exact ((Below.refl _ _).alloc (Nat.le_refl _) _).alloc (by simp) _
    have s5 : W5.heap.size = w4.heap.size + 2 := by rw [hW5]; simp
    have X5 := hidE (show Var3 W5 w4.heap.size (.slice (some ⟨A .fr, 0, none⟩) 8 cf) (.slice (some ⟨A .gs, 0, none⟩) n cg) (.int .i64 h1.hand) by rw [hW5]; exact (var3_new w4 _ _ _ _).allocK _)
    have E5 := hidE (show Var3 W5 (w4.heap.size + 1) (.bool b0) (.int .i64 b1) (.bool b2) by rw [hW5]; exact var3_newK (by simp))
    have R5 := hidE (R4.out.belowK B5)
    have P5 := hidE (P4.out.belowK B5)
    have n5 := hidE (Mv.start M4.sep M4.len B5 hN4 (Nat.le_add_right _ 2) (by omega))
    have fgs := hidE (show A1 .gs = A .gs ∧ A1 .fr = A .fr from ⟨M4.gs, M4.fr⟩)
    have k5 := hidE n5.out.sep
    have l5 : h1.guests.length = n := M4.len
    have lR : w.heap.size + 1 < w4.heap.size := by omega
    have Mf := hidE (((M04.out.below hN B5).off3 hAl (b := w.heap.size + 1) (by omega) (by omega) hN (.slice (some ⟨A .fr, 0, none⟩) 8 cf) (.slice (some ⟨A .gs, 0, none⟩) n cg) (.int .i64 h1.hand)).weak (Nat.le_refl _) (by omega))
    have Rf := hidE (R5.out.putAll (.slice (some ⟨A .fr, 0, none⟩) 8 cf) (.slice (some ⟨A .gs, 0, none⟩) n cg) (.int .i64 h1.hand))
    have B5 := hidE B5
    clear hwalk M4 m4 p3 r3 p4 r4 l1 e2w e3w e4w
    cases b0
    · obtain ⟨r0, r1, r2, f0, f1, f2⟩ := R5.out
      obtain ⟨x0, x1, x2, _, _, _⟩ := X5.out
      rw [hW5] at r0 r1 r2 f0 f1 f2 x0 x1 x2
      clear X5 E5 R5 P5 n5 k5 M04 B5
      go_wp2_with (fail)
      rw [← hW5]
      clear hW5 r0 r1 r2 f0 f1 f2 x0 x1 x2
      generalize ((W5.setCell ⟨w.heap.size + 1, 0, none⟩ (.slice (some ⟨A .fr, 0, none⟩) 8 cf)).setCell ⟨w.heap.size + 1, 1, none⟩ (.slice (some ⟨A .gs, 0, none⟩) n cg)).setCell ⟨w.heap.size + 1, 2, none⟩ (.int .i64 h1.hand) = W9 at *
      obtain ⟨r0, r1, r2, _, _, _⟩ := Rf.out
      refine bodyPost_ret (v := .tuple #[.agg #[.slice (some ⟨A .fr, 0, none⟩) 8 cf, .slice (some ⟨A .gs, 0, none⟩) n cg, .int .i64 h1.hand], .int .i64 (-1)]) (by simp [results, Try.results123, go_sem, *]) rfl ?_
      exact ⟨rfl, A1, Mf.out⟩
    cases b2
    · obtain ⟨r0, r1, r2, f0, f1, f2⟩ := R5.out
      obtain ⟨x0, x1, x2, _, _, _⟩ := X5.out
      obtain ⟨y0, y1, y2, _, _, _⟩ := E5.out
      rw [hW5] at r0 r1 r2 f0 f1 f2 x0 x1 x2 y0 y1 y2
      clear X5 E5 R5 P5 n5 k5 M04 B5
      go_wp2_with (fail)
      rw [← hW5]
      clear hW5 r0 r1 r2 f0 f1 f2 x0 x1 x2 y0 y1 y2
      generalize ((W5.setCell ⟨w.heap.size + 1, 0, none⟩ (.slice (some ⟨A .fr, 0, none⟩) 8 cf)).setCell ⟨w.heap.size + 1, 1, none⟩ (.slice (some ⟨A .gs, 0, none⟩) n cg)).setCell ⟨w.heap.size + 1, 2, none⟩ (.int .i64 h1.hand) = W9 at *
      obtain ⟨r0, r1, r2, _, _, _⟩ := Rf.out
      refine bodyPost_ret (v := .tuple #[.agg #[.slice (some ⟨A .fr, 0, none⟩) 8 cf, .slice (some ⟨A .gs, 0, none⟩) n cg, .int .i64 h1.hand], .int .i64 (-2)]) (by simp [results, Try.results123, go_sem, *]) rfl ?_
      exact ⟨rfl, A1, Mf.out⟩
    obtain ⟨p, rfl⟩ : ∃ p : Nat, b1 = (p : Int) := ⟨b1.toNat, by have := (hent.out rfl).1; omega⟩
    have hp2 : 2 ≤ p := by have := (hent.out rfl).1; omega
    have hp5 : p ≤ 5 := by have := (hent.out rfl).2; omega
    have hown := specOwn13 N A1 h1 g p n cf cg W5 k5.out (okHost_mk k1.out) l5 hg (by omega) (by omega)
    rw [fgs.out.1, fgs.out.2] at hown
    obtain ⟨kk2, l2, c2p, hm2, hw2⟩ := ownP_ok k1.out (show g < h1.guests.length by omega) (show p < 6 by omega)
    have hz2 : zAt (ownP h1 g p) g p o = zAt h1 g p o := by rw [zAt, c2p g p (by omega) (by omega)]; rfl
    rw [hzz.out p (by omega)] at hz2
    obtain ⟨h2, hh2⟩ : ∃ h2, h2 = ownP h1 g p := ⟨_, rfl⟩
    rw [← hh2] at hown kk2 hm2 hz2 l2 hw2
    have hend := hidE (And.intro hh2 hz2)
    clear hh2 hz2 c2p
    obtain ⟨F, hF8, hmF⟩ := okH_fr kk2 (show g < h2.guests.length by omega) (show p < 6 by omega) hm2
    obtain ⟨x0, x1, x2, _, _, _⟩ := X5.out
    obtain ⟨y0, y1, y2, _, _, _⟩ := E5.out
    rw [hW5] at x0 x1 x2 y0 y1 y2
    go_wp2_with (fail)
    rw [← hW5]
    clear hW5 x0 x1 x2 y0 y1 y2
    refine hown.mono ?_
    rintro e w6 ⟨rfl, A2, M6⟩
    have s6 := M6.size
    have N6 := n5.out.call hAl1 M6
    have N6w := N6.weak (Nat.le_refl _) (show w4.heap.size ≤ w4.heap.size + 2 by omega)
    have T6 := M04.out.call hAl N6w
    have R6 := R4.out.same (M04.out.own hAl N6w (j := w.heap.size + 1) (by omega) (by omega))
    have P6 := P4.out.same (M04.out.own hAl N6w (j := w.heap.size) (by omega) (by omega))
    have V6 := Vw.out.same (same_block (M04.out.own hAl N6w (j := w.heap.size + 2) (by omega) (by omega))) (Nat.le_refl _) (Nat.lt_succ_self _)
    have E6 := E5.out.same (n5.out.own hAl1 M6 (j := w4.heap.size + 1) (by omega) (by omega))
    obtain ⟨W7, hW7⟩ : ∃ W7, W7 = ((w6.setCell ⟨w.heap.size, 0, none⟩ (.slice (some ⟨A .fr, 0, none⟩) 8 cf)).setCell ⟨w.heap.size, 1, none⟩ (.slice (some ⟨A .gs, 0, none⟩) n cg)).setCell ⟨w.heap.size, 2, none⟩ (.int .i64 h2.hand) := ⟨_, rfl⟩
    have e7 : ∀ j, j ≠ w.heap.size → W7.heap[j]? = w6.heap[j]? := fun j hj => by rw [hW7, Below.heap_setCell _ _ _ _ (by simpa using hj), Below.heap_setCell _ _ _ _ (by simpa using hj), Below.heap_setCell _ _ _ _ (by simpa using hj)]
    have T7 := T6.off3 hAl (b := w.heap.size) (Nat.le_refl _) (by omega) hN (.slice (some ⟨A .fr, 0, none⟩) 8 cf) (.slice (some ⟨A .gs, 0, none⟩) n cg) (.int .i64 h2.hand)
    have P7 := P6.putAll (.slice (some ⟨A .fr, 0, none⟩) 8 cf) (.slice (some ⟨A .gs, 0, none⟩) n cg) (.int .i64 h2.hand)
    rw [← hW7] at T7 P7
    have R7 := hidE (R6.same (e7 _ (by omega)))
    have V7 := V6.same (same_block (e7 (w.heap.size + 2) (by omega))) (Nat.le_refl _) (Nat.lt_succ_self _)
    have E7 := E6.same (e7 _ (by omega))
    have s7 : W7.heap.size = w6.heap.size := by rw [hW7]; simp
    have hg2 : g < h2.guests.length := by omega
    obtain ⟨⟨c3, q1⟩, e0, e1, e2, ⟨c4, q2⟩, q3⟩ := T7.sep.cells hg2 (show p < 6 by omega) hF8 hmF ho4
    have fgs2 := hidE (And.intro T7.gs T7.fr)
    rw [T7.gs] at q1
    have lG7 := (T7.sep.low .gs trivial).2
    rw [T7.gs] at lG7
    have lM7 := (T7.sep.low (.maps g) hg2).2
    obtain ⟨x0, x1, x2, xf0, xf1, xf2⟩ := P6
    have P7' := P7
    obtain ⟨z0, z1, z2, _, _, _⟩ := P7'
    obtain ⟨y0, y1, y2, _, _, _⟩ := E7
    obtain ⟨⟨u0, v0⟩, f0⟩ := V7 0 (by omega)
    obtain ⟨⟨u1, v1⟩, f1⟩ := V7 1 (by omega)
    obtain ⟨⟨u2, v2⟩, f2⟩ := V7 2 (by omega)
    obtain ⟨⟨u3, v3⟩, f3⟩ := V7 3 (by omega)
    obtain ⟨Sb, hSE⟩ : ∃ Sb : World → Prop, Sb = fun W' => W'.cell? ⟨w.heap.size, 1, none⟩ = some (.slice (some ⟨A .gs, 0, none⟩) n cg) ∧ W'.cell? ⟨A .gs, g * 3, none⟩ = some (.slice (some ⟨A2 (.maps g), 0, none⟩) 6 c3) ∧ W'.cell? ⟨w4.heap.size + 1, 1, none⟩ = some (.int .i64 p) ∧ W'.cell? ⟨A2 (.maps g), p * 3 + 1, none⟩ = some (.int .i64 F) := ⟨_, rfl⟩
    have hcells : ∀ W', Sb W' → W'.cell? ⟨w.heap.size, 1, none⟩ = some (.slice (some ⟨A .gs, 0, none⟩) n cg) ∧ W'.cell? ⟨A .gs, g * 3, none⟩ = some (.slice (some ⟨A2 (.maps g), 0, none⟩) 6 c3) ∧ W'.cell? ⟨w4.heap.size + 1, 1, none⟩ = some (.int .i64 p) ∧ W'.cell? ⟨A2 (.maps g), p * 3 + 1, none⟩ = some (.int .i64 F) := fun W' h => by rw [hSE] at h; exact h
    have hSB : ∀ W', Below W7.heap.size W7 W' → Sb W' := fun W' B => by
      rw [hSE]
      exact ⟨(B.cell (p := ⟨w.heap.size, 1, none⟩) (show w.heap.size < W7.heap.size by omega)).trans z1, (B.cell (p := ⟨A .gs, g * 3, none⟩) lG7).trans q1, (B.cell (p := ⟨w4.heap.size + 1, 1, none⟩) (show w4.heap.size + 1 < W7.heap.size by omega)).trans y1, (B.cell (p := ⟨A2 (.maps g), p * 3 + 1, none⟩) lM7).trans e1⟩
    obtain ⟨W8, hW8⟩ : ∃ W8, W8 = (((W7.setCell ⟨w.heap.size + 1 + 1, 0, none⟩ (.bool true)).setCell ⟨w.heap.size + 1 + 1, 1, none⟩ (.int .i64 p)).setCell ⟨w.heap.size + 1 + 1, 2, none⟩ (.int .i64 F)).setCell ⟨w.heap.size + 1 + 1, 3, none⟩ (.bool true) := ⟨_, rfl⟩
    have e8 : ∀ j, j ≠ w.heap.size + 1 + 1 → W8.heap[j]? = W7.heap[j]? := fun j hj => by rw [hW8, Below.heap_setCell _ _ _ _ (by simpa using hj), Below.heap_setCell _ _ _ _ (by simpa using hj), Below.heap_setCell _ _ _ _ (by simpa using hj), Below.heap_setCell _ _ _ _ (by simpa using hj)]
    have s8 : W8.heap.size = W7.heap.size := by rw [hW8]; simp
    have T8 : Mv w W8 (w.heap.size + 3) N n A A2 h2 := by rw [hW8]; exact (((T7.off hAl (b := w.heap.size + 1 + 1) (by omega) (by omega) hN _).off hAl (b := w.heap.size + 1 + 1) (by omega) (by omega) hN _).off hAl (b := w.heap.size + 1 + 1) (by omega) (by omega) hN _).off hAl (b := w.heap.size + 1 + 1) (by omega) (by omega) hN _
    have P8 := Var3.same (w' := W8) P7 (e8 _ (by omega))
    have R8 := R7.out.same (e8 _ (by omega))
    have b8 : W8.cell? ⟨w.heap.size + 1 + 1, 0, none⟩ = some (.bool true) ∧ W8.cell? ⟨w.heap.size + 1 + 1, 1, none⟩ = some (.int .i64 p) ∧ W8.cell? ⟨w.heap.size + 1 + 1, 2, none⟩ = some (.int .i64 F) ∧ W8.cell? ⟨w.heap.size + 1 + 1, 3, none⟩ = some (.bool true) := by
      obtain ⟨⟨u0, v0⟩, f0⟩ := V7 0 (by omega)
      obtain ⟨⟨u1, v1⟩, f1⟩ := V7 1 (by omega)
      obtain ⟨⟨u2, v2⟩, f2⟩ := V7 2 (by omega)
      obtain ⟨⟨u3, v3⟩, f3⟩ := V7 3 (by omega)
      rw [hW8]
      exact ⟨(cell_put (cell_put (cell_put (cell_put v0)))).trans (by simp), (cell_put (cell_put (cell_put (cell_put v1)))).trans (by simp), (cell_put (cell_put (cell_put (cell_put v2)))).trans (by simp), (cell_put (cell_put (cell_put (cell_put v3)))).trans (by simp)⟩
    have nb : ∀ x, x.ok n → A2 x ≠ w.heap.size + 1 + 1 := fun x hx => T7.ne (by omega) (fun y hy => by have := hAl y hy; omega) x hx
    obtain ⟨⟨c5, q5⟩, _⟩ := T8.sep.shadeC hg2 hi
    rw [T7.gs] at q5
    have hcast : castS h2 g p true = (true, (p : Int), (F : Int), true) := by rw [castS, hmF, hw2]; rfl
    have hSep := T8.sep.shade hg2 hi (castS h2 g p true)
    rw [hcast] at hSep
    simp only at hSep
    obtain ⟨W9, hW9⟩ : ∃ W9, W9 = (((W8.setCell ⟨A2 (.shd g), i * 4, none⟩ (.bool true)).setCell ⟨A2 (.shd g), i * 4 + 1, none⟩ (.int .i64 p)).setCell ⟨A2 (.shd g), i * 4 + 2, none⟩ (.int .i64 F)).setCell ⟨A2 (.shd g), i * 4 + 3, none⟩ (.bool true) := ⟨_, rfl⟩
    rw [← hW9] at hSep
    have e9 : ∀ j, j ≠ A2 (.shd g) → W9.heap[j]? = W8.heap[j]? := fun j hj => by rw [hW9, Below.heap_setCell _ _ _ _ (by simpa using hj), Below.heap_setCell _ _ _ _ (by simpa using hj), Below.heap_setCell _ _ _ _ (by simpa using hj), Below.heap_setCell _ _ _ _ (by simpa using hj)]
    have s9 : W9.heap.size = W8.heap.size := by rw [hW9]; simp
    have lS8 := T8.sep.low (.shd g) hg2
    have B9 : Below N W8 W9 := by rw [hW9]; exact ((((Below.refl N W8).setCell (p := ⟨A2 (.shd g), i * 4, none⟩) lS8.1 _).setCell (p := ⟨A2 (.shd g), i * 4 + 1, none⟩) lS8.1 _).setCell (p := ⟨A2 (.shd g), i * 4 + 2, none⟩) lS8.1 _).setCell (p := ⟨A2 (.shd g), i * 4 + 3, none⟩) lS8.1 _
    obtain ⟨h3, hh3⟩ : ∃ h3, h3 = setS h2 g i (castS h2 g p true) := ⟨_, rfl⟩
    have l3 : h3.guests.length = n := by rw [hh3, setS_len]; omega
    have T9 := T8.put (x0 := .shd g) (h2 := h3) (by rw [hh3, setS, hcast]; exact hSep) l3 B9 hg (by omega) (fun j _ hj => e9 j hj)
    have nS : ∀ j, (j = w.heap.size ∨ j = w.heap.size + 1 ∨ j = w.heap.size + 1 + 1) → j ≠ A2 (.shd g) := fun j hj => Ne.symm (T8.ne (by omega) (fun y hy => by have := hAl y hy; omega) (.shd g) hg)
    have P9 := hidE (P8.same (e9 _ (nS _ (by omega))))
    have R9 := hidE (R8.same (e9 _ (nS _ (by omega))))
    have b9 := hidE (show W9.cell? ⟨w.heap.size + 1 + 1, 2, none⟩ = some (.int .i64 F) from (World.cell?_of_block (a := ⟨w.heap.size + 1 + 1, 2, none⟩) (e9 (w.heap.size + 1 + 1) (nS (w.heap.size + 1 + 1) (Or.inr (Or.inr rfl))))).trans b8.2.2.1)
    have hRs := hidE (T8.sep.held (.shd g) hg2).2
    obtain ⟨Sc, hSEc⟩ : ∃ Sc : World → Prop, Sc = fun W' => W'.cell? ⟨w.heap.size, 1, none⟩ = some (.slice (some ⟨A .gs, 0, none⟩) n cg) ∧ W'.cell? ⟨A .gs, g * 3 + 2, none⟩ = some (.slice (some ⟨A2 (.shd g), 0, none⟩) 6 c5) ∧ W'.cell? ⟨w.heap.size + 1 + 1, 0, none⟩ = some (.bool true) ∧ W'.cell? ⟨w.heap.size + 1 + 1, 1, none⟩ = some (.int .i64 p) ∧ W'.cell? ⟨w.heap.size + 1 + 1, 2, none⟩ = some (.int .i64 F) ∧ W'.cell? ⟨w.heap.size + 1 + 1, 3, none⟩ = some (.bool true) := ⟨_, rfl⟩
    have hcc : ∀ W', Sc W' → W'.cell? ⟨w.heap.size, 1, none⟩ = some (.slice (some ⟨A .gs, 0, none⟩) n cg) ∧ W'.cell? ⟨A .gs, g * 3 + 2, none⟩ = some (.slice (some ⟨A2 (.shd g), 0, none⟩) 6 c5) ∧ W'.cell? ⟨w.heap.size + 1 + 1, 0, none⟩ = some (.bool true) ∧ W'.cell? ⟨w.heap.size + 1 + 1, 1, none⟩ = some (.int .i64 p) ∧ W'.cell? ⟨w.heap.size + 1 + 1, 2, none⟩ = some (.int .i64 F) ∧ W'.cell? ⟨w.heap.size + 1 + 1, 3, none⟩ = some (.bool true) := fun W' h => by rw [hSEc] at h; exact h
    have hScd : ∀ W', Sc W' → Sc W'.drew := fun W' h => by rw [hSEc] at h ⊢; exact h
    have hSc8 : Sc W8 := by rw [hSEc]; exact ⟨P8.2.1, q5, b8⟩
    have hSc9 : Sc W9 := by
      rw [hSEc]
      have nG : A .gs ≠ A2 (.shd g) := fun e => by
        have := T8.sep.inj .gs (.shd g) trivial hg2 (by rw [T7.gs]; exact e)
        cases this
      have e := fun (b j : Nat) (hb : b ≠ A2 (.shd g)) => World.cell?_of_block (a := ⟨b, j, none⟩) (e9 b hb)
      exact ⟨(e _ _ (nS _ (by omega))).trans P8.2.1, (e _ _ nG).trans q5, (e _ _ (nS _ (by omega))).trans b8.1, (e _ _ (nS _ (by omega))).trans b8.2.1, (e _ _ (nS _ (by omega))).trans b8.2.2.1, (e _ _ (nS _ (by omega))).trans b8.2.2.2⟩
    have T9 := hidE T9
    have Hh3 := hidE (And.intro hh3 hcast)
    have HW9 := hidE hW9
    have HW8 := hidE hW8
    have hs9 := hidE (And.intro s8 s9)
    have hSb8 : Sb W8 := by
      rw [hSE]
      have e := fun (b j : Nat) (hb : b ≠ w.heap.size + 1 + 1) => World.cell?_of_block (a := ⟨b, j, none⟩) (e8 b hb)
      exact ⟨(e _ _ (by omega)).trans z1, (e _ _ (by have := hAl .gs trivial; omega)).trans q1, (e _ _ (by omega)).trans y1, (e _ _ (nb (.maps g) hg)).trans e1⟩
    have hSbd : ∀ W', Sb W' → Sb W'.drew := fun W' h => by rw [hSE] at h ⊢; exact h
    clear hW8 hW9 e8 e9 s8 s9 T8 P8 R8 b8 nb q5 hcast hSep lS8 B9 hh3 l3 nS hSEc
    have hpi : (p : Int) < 6 := by omega
    have T7 := hidE T7
    have hs7 := hidE s7
    have hs6 := hidE (And.intro s5 s6)
    clear P7 N6 N6w M6 T6 R6 V6 E6 e7 V7 s7 s5 s6 hSE q1 e0 e1 e2 q2 q3 z0 z1 z2 y0 y1 y2 hown
    go_wp2_with (fail)
    rw [← hW7]
    clear hW7 x0 x1 x2 xf0 xf1 xf2
    refine wp_region_held_drew (S := Sb) (by kernel_rfl) (hSB _ (Below.refl _ _).drew) (fun hHeld => ?_)
    refine wpAnyH_take (i := 0) (v := ?_) (by simp only [List.getElem?_toArray, List.getElem?_cons_succ, List.getElem?_cons_zero]; rfl) (by kernel_rfl) (by kernel_rfl) (by kernel_rfl) (by exact fun _ _ _ h => h) (Or.inl ⟨by rfl, ?_⟩) hHeld ?_
    rotate_left
    · intro W' hW'; go_simp <;> with_reducible rfl
    simp only [Act.put, List.setIfInBounds_toArray, List.set_cons_zero, List.set_cons_succ]
    refine wpAnyH_take (i := 1) (v := ?_) (by simp only [List.getElem?_toArray, List.getElem?_cons_succ, List.getElem?_cons_zero]; rfl) (by kernel_rfl) (by kernel_rfl) (by kernel_rfl) (by exact fun _ _ _ h => h) (Or.inl ⟨by rfl, ?_⟩) hHeld ?_
    rotate_left
    · intro W' hW'; obtain ⟨k0,k1',k2,k3⟩ := hcells W' hW'; go_simp <;> with_reducible rfl
    simp only [Act.put, List.setIfInBounds_toArray, List.set_cons_zero, List.set_cons_succ]
    refine wpAnyH_take (i := 2) (v := ?_) (by simp only [List.getElem?_toArray, List.getElem?_cons_succ, List.getElem?_cons_zero]; rfl) (by kernel_rfl) (by kernel_rfl) (by kernel_rfl) (by exact fun _ _ _ h => h) (Or.inl ⟨by rfl, ?_⟩) hHeld ?_
    rotate_left
    · intro W' hW'; go_simp <;> with_reducible rfl
    simp only [Act.put, List.setIfInBounds_toArray, List.set_cons_zero, List.set_cons_succ]
    refine wpAnyH_take (i := 3) (v := ?_) (by simp only [List.getElem?_toArray, List.getElem?_cons_succ, List.getElem?_cons_zero]; rfl) (by kernel_rfl) (by kernel_rfl) (by kernel_rfl) (by exact fun _ _ _ h => h) (Or.inl ⟨by rfl, ?_⟩) hHeld ?_
    rotate_left
    · intro W' hW'; obtain ⟨k0,k1',k2,k3⟩ := hcells W' hW'; go_simp <;> with_reducible rfl
    simp only [Act.put, List.setIfInBounds_toArray, List.set_cons_zero, List.set_cons_succ]
    refine wpAnyH_take (i := 4) (v := ?_) (by simp only [List.getElem?_toArray, List.getElem?_cons_succ, List.getElem?_cons_zero]; rfl) (by kernel_rfl) (by kernel_rfl) (by kernel_rfl) (by exact fun _ _ _ h => h) (Or.inl ⟨by rfl, ?_⟩) hHeld ?_
    rotate_left
    · intro W' hW'; go_simp <;> with_reducible rfl
    simp only [Act.put, List.setIfInBounds_toArray, List.set_cons_zero, List.set_cons_succ]
    refine wpAnyH_take (i := 5) (v := ?_) (by simp only [List.getElem?_toArray, List.getElem?_cons_succ, List.getElem?_cons_zero]; rfl) (by kernel_rfl) (by kernel_rfl) (by kernel_rfl) (by exact fun _ _ _ h => h) (Or.inl ⟨by rfl, ?_⟩) hHeld ?_
    rotate_left
    · intro W' hW'; go_simp <;> with_reducible rfl
    simp only [Act.put, List.setIfInBounds_toArray, List.set_cons_zero, List.set_cons_succ]
    refine wpAnyH_take (i := 6) (v := ?_) (by simp only [List.getElem?_toArray, List.getElem?_cons_succ, List.getElem?_cons_zero]; rfl) (by kernel_rfl) (by kernel_rfl) (by kernel_rfl) (by exact fun _ _ _ h => h) (Or.inl ⟨by rfl, ?_⟩) hHeld ?_
    rotate_left
    · intro W' hW'; go_simp <;> with_reducible rfl
    simp only [Act.put, List.setIfInBounds_toArray, List.set_cons_zero, List.set_cons_succ]
    refine wpAnyH_take (i := 7) (v := ?_) (by simp only [List.getElem?_toArray, List.getElem?_cons_succ, List.getElem?_cons_zero]; rfl) (by kernel_rfl) (by kernel_rfl) (by kernel_rfl) (by exact fun _ _ _ h => h) (Or.inl ⟨by rfl, ?_⟩) hHeld ?_
    rotate_left
    · intro W' hW'; obtain ⟨k0,k1',k2,k3⟩ := hcells W' hW'; go_simp <;> with_reducible rfl
    simp only [Act.put, List.setIfInBounds_toArray, List.set_cons_zero, List.set_cons_succ]
    refine wpAnyH_take (i := 8) (v := ?_) (by simp only [List.getElem?_toArray, List.getElem?_cons_succ, List.getElem?_cons_zero]; rfl) (by kernel_rfl) (by kernel_rfl) (by kernel_rfl) (by exact fun _ _ _ h => h) (Or.inl ⟨by rfl, ?_⟩) hHeld ?_
    rotate_left
    · intro W' hW'; go_simp <;> with_reducible rfl
    simp only [Act.put, List.setIfInBounds_toArray, List.set_cons_zero, List.set_cons_succ]
    refine wpAnyH_take (i := 9) (v := ?_) (by simp only [List.getElem?_toArray, List.getElem?_cons_succ, List.getElem?_cons_zero]; rfl) (by kernel_rfl) (by kernel_rfl) (by kernel_rfl) (by exact fun _ _ _ h => h) (Or.inl ⟨by rfl, ?_⟩) hHeld ?_
    rotate_left
    · intro W' hW'; obtain ⟨k0,k1',k2,k3⟩ := hcells W' hW'; go_simp <;> with_reducible rfl
    simp only [Act.put, List.setIfInBounds_toArray, List.set_cons_zero, List.set_cons_succ]
    refine wpAnyH_take (i := 10) (v := ?_) (by simp only [List.getElem?_toArray, List.getElem?_cons_succ, List.getElem?_cons_zero]; rfl) (by kernel_rfl) (by kernel_rfl) (by kernel_rfl) (by exact fun _ _ _ h => h) (Or.inl ⟨by rfl, ?_⟩) hHeld ?_
    rotate_left
    · intro W' hW'; go_simp <;> with_reducible rfl
    simp only [Act.put, List.setIfInBounds_toArray, List.set_cons_zero, List.set_cons_succ]
    refine wpAnyH_take (i := 11) (v := ?_) (by simp only [List.getElem?_toArray, List.getElem?_cons_succ, List.getElem?_cons_zero]; rfl) (by kernel_rfl) (by kernel_rfl) (by kernel_rfl) (by exact fun _ _ _ h => h) (Or.inl ⟨by rfl, ?_⟩) hHeld ?_
    rotate_left
    · intro W' hW'; go_simp <;> with_reducible rfl
    simp only [Act.put, List.setIfInBounds_toArray, List.set_cons_zero, List.set_cons_succ]
    refine wpAnyH_take (i := 12) (v := ?_) (by simp only [List.getElem?_toArray, List.getElem?_cons_succ, List.getElem?_cons_zero]; rfl) (by kernel_rfl) (by kernel_rfl) (by kernel_rfl) (by exact fun _ _ _ h => h) (Or.inl ⟨by rfl, ?_⟩) hHeld ?_
    rotate_left
    · intro W' hW'; obtain ⟨k0,k1',k2,k3⟩ := hcells W' hW'; go_simp <;> with_reducible rfl
    simp only [Act.put, List.setIfInBounds_toArray, List.set_cons_zero, List.set_cons_succ]
    refine wpAnyH_take (i := 13) (v := ?_) (by simp only [List.getElem?_toArray, List.getElem?_cons_succ, List.getElem?_cons_zero]; rfl) (by kernel_rfl) (by kernel_rfl) (by kernel_rfl) (by exact fun _ _ _ h => h) (Or.inl ⟨by rfl, ?_⟩) hHeld ?_
    rotate_left
    · intro W' hW'; go_simp <;> with_reducible rfl
    simp only [Act.put, List.setIfInBounds_toArray, List.set_cons_zero, List.set_cons_succ]
    refine wpAnyH_ready (rs := [14]) (by kernel_rfl) (by simp) ?_
    refine AllReadyH.cons (by simp only [List.getElem?_toArray, List.getElem?_cons_succ, List.getElem?_cons_zero]; rfl) (fun K hK => ?_) AllReadyH.nil
    rw [if_pos (by rfl)]
    go_simp
    rw [← HW8.out]
    refine hK.out _ _ (hSbd _ hSb8) (fun hHeld => ?_)
    clear hK K
    refine wpAnyH_done (by kernel_rfl) ?_ _
    clear hHeld hcells hSB hSb8 hSbd v0 v1 v2 v3 f0 f1 f2 f3
    obtain ⟨⟨⟨u0, v0⟩, f0⟩, ⟨⟨u1, v1⟩, f1⟩, ⟨⟨u2, v2⟩, f2⟩, ⟨⟨u3, v3⟩, f3⟩⟩ := And.intro (hRs.out (i * 4) (by omega)) (And.intro (hRs.out (i * 4 + 1) (by omega)) (And.intro (hRs.out (i * 4 + 2) (by omega)) (hRs.out (i * 4 + 3) (by omega))))
    have hcells := hcc
    clear hcc
    go_wp2_with (fail)
    refine wp_region_held_drew (S := Sc) (by kernel_rfl) (hScd _ (hScd _ hSc8)) (fun hHeld => ?_)
    refine wpAnyH_take (i := 0) (v := ?_) (by simp only [List.getElem?_toArray, List.getElem?_cons_succ, List.getElem?_cons_zero]; rfl) (by kernel_rfl) (by kernel_rfl) (by kernel_rfl) (by exact fun _ _ _ h => h) (Or.inl ⟨by rfl, ?_⟩) hHeld ?_
    rotate_left
    · intro W' hW'; go_simp <;> with_reducible rfl
    simp only [Act.put, List.setIfInBounds_toArray, List.set_cons_zero, List.set_cons_succ]
    refine wpAnyH_take (i := 1) (v := ?_) (by simp only [List.getElem?_toArray, List.getElem?_cons_succ, List.getElem?_cons_zero]; rfl) (by kernel_rfl) (by kernel_rfl) (by kernel_rfl) (by exact fun _ _ _ h => h) (Or.inl ⟨by rfl, ?_⟩) hHeld ?_
    rotate_left
    · intro W' hW'; obtain ⟨k0,k1',k2,k3,k4,k5⟩ := hcells W' hW'; go_simp <;> with_reducible rfl
    simp only [Act.put, List.setIfInBounds_toArray, List.set_cons_zero, List.set_cons_succ]
    refine wpAnyH_take (i := 2) (v := ?_) (by simp only [List.getElem?_toArray, List.getElem?_cons_succ, List.getElem?_cons_zero]; rfl) (by kernel_rfl) (by kernel_rfl) (by kernel_rfl) (by exact fun _ _ _ h => h) (Or.inl ⟨by rfl, ?_⟩) hHeld ?_
    rotate_left
    · intro W' hW'; go_simp <;> with_reducible rfl
    simp only [Act.put, List.setIfInBounds_toArray, List.set_cons_zero, List.set_cons_succ]
    refine wpAnyH_take (i := 3) (v := ?_) (by simp only [List.getElem?_toArray, List.getElem?_cons_succ, List.getElem?_cons_zero]; rfl) (by kernel_rfl) (by kernel_rfl) (by kernel_rfl) (by exact fun _ _ _ h => h) (Or.inl ⟨by rfl, ?_⟩) hHeld ?_
    rotate_left
    · intro W' hW'; go_simp <;> with_reducible rfl
    simp only [Act.put, List.setIfInBounds_toArray, List.set_cons_zero, List.set_cons_succ]
    refine wpAnyH_take (i := 4) (v := ?_) (by simp only [List.getElem?_toArray, List.getElem?_cons_succ, List.getElem?_cons_zero]; rfl) (by kernel_rfl) (by kernel_rfl) (by kernel_rfl) (by exact fun _ _ _ h => h) (Or.inl ⟨by rfl, ?_⟩) hHeld ?_
    rotate_left
    · intro W' hW'; go_simp <;> with_reducible rfl
    simp only [Act.put, List.setIfInBounds_toArray, List.set_cons_zero, List.set_cons_succ]
    refine wpAnyH_take (i := 5) (v := ?_) (by simp only [List.getElem?_toArray, List.getElem?_cons_succ, List.getElem?_cons_zero]; rfl) (by kernel_rfl) (by kernel_rfl) (by kernel_rfl) (by exact fun _ _ _ h => h) (Or.inl ⟨by rfl, ?_⟩) hHeld ?_
    rotate_left
    · intro W' hW'; obtain ⟨k0,k1',k2,k3,k4,k5⟩ := hcells W' hW'; go_simp <;> with_reducible rfl
    simp only [Act.put, List.setIfInBounds_toArray, List.set_cons_zero, List.set_cons_succ]
    refine wpAnyH_take (i := 6) (v := ?_) (by simp only [List.getElem?_toArray, List.getElem?_cons_succ, List.getElem?_cons_zero]; rfl) (by kernel_rfl) (by kernel_rfl) (by kernel_rfl) (by exact fun _ _ _ h => h) (Or.inl ⟨by rfl, ?_⟩) hHeld ?_
    rotate_left
    · intro W' hW'; go_simp <;> with_reducible rfl
    simp only [Act.put, List.setIfInBounds_toArray, List.set_cons_zero, List.set_cons_succ]
    refine wpAnyH_take (i := 7) (v := ?_) (by simp only [List.getElem?_toArray, List.getElem?_cons_succ, List.getElem?_cons_zero]; rfl) (by kernel_rfl) (by kernel_rfl) (by kernel_rfl) (by exact fun _ _ _ h => h) (Or.inl ⟨by rfl, ?_⟩) hHeld ?_
    rotate_left
    · intro W' hW'; obtain ⟨k0,k1',k2,k3,k4,k5⟩ := hcells W' hW'; go_simp <;> with_reducible rfl
    simp only [Act.put, List.setIfInBounds_toArray, List.set_cons_zero, List.set_cons_succ]
    refine wpAnyH_take (i := 8) (v := ?_) (by simp only [List.getElem?_toArray, List.getElem?_cons_succ, List.getElem?_cons_zero]; rfl) (by kernel_rfl) (by kernel_rfl) (by kernel_rfl) (by exact fun _ _ _ h => h) (Or.inl ⟨by rfl, ?_⟩) hHeld ?_
    rotate_left
    · intro W' hW'; go_simp <;> with_reducible rfl
    simp only [Act.put, List.setIfInBounds_toArray, List.set_cons_zero, List.set_cons_succ]
    refine wpAnyH_ready (rs := [9]) (by kernel_rfl) (by simp) ?_
    refine AllReadyH.cons (by simp only [List.getElem?_toArray, List.getElem?_cons_succ, List.getElem?_cons_zero]; rfl) (fun K hK => ?_) AllReadyH.nil
    rw [if_pos (by rfl)]
    go_simp
    rw [← HW9.out]
    refine hK.out _ _ (hScd _ (hScd _ hSc9)) (fun hHeld => ?_)
    clear hK K
    refine wpAnyH_done (by kernel_rfl) ?_ _
    clear hHeld hcells hScd hSc8 hSc9 v0 v1 v2 v3 f0 f1 f2 f3
    obtain ⟨Wd, hWd⟩ : ∃ Wd, Wd = W9.drew.drew := ⟨_, rfl⟩
    have BD : Below W9.heap.size W9 Wd := by rw [hWd]; exact (Below.refl _ _).drew.drew
    rw [← hWd]
    clear hWd
    obtain ⟨hh3, _⟩ := Hh3.out
    obtain ⟨_, hmA, _, _⟩ := setS_at kk2.six hg2 hi (castS h2 g p true)
    have hmA := hmA g p
    rw [← hh3] at hmA
    have hm3 : (mAt h3 g p).1 = true := by rw [hmA]; exact hm2
    have hmF3 : (mAt h3 g p).2.1 = (F : Int) := by rw [hmA]; exact hmF
    have Td := T9.out.below hN BD
    have Pd := P9.out.belowK BD
    have Rd := hidE (R9.out.belowK BD)
    have lRd : w.heap.size + 1 < Wd.heap.size := (Rd.out).lt
    have l3 : h3.guests.length = n := Td.len
    have bd := (BD.cell (p := ⟨w.heap.size + 1 + 1, 2, none⟩) (show w.heap.size + 1 + 1 < W9.heap.size from World.block_lt_of_cell? _ _ b9.out)).trans b9.out
    obtain ⟨⟨c6, q1⟩, e0, e1, e2, ⟨c7, q2⟩, q3⟩ := Td.sep.cells (show g < h3.guests.length by omega) (show p < 6 by omega) hF8 hmF3 ho4
    have hz3 : (fAt h3 F).getD o 0 = zAt h2 g p o := by rw [zAt_in hm2 hmF o, hh3]; rfl
    rw [hz3] at q3
    have fr3 := ((Td.sep.held (.page F) hF8).2 o ho4).2
    rw [Td.fr] at q2
    have lPN := (Td.sep.low (.page F) hF8).1
    have nP0 : A2 (.page F) ≠ w.heap.size := Td.ne (by omega) (fun y hy => by have := hAl y hy; omega) (.page F) hF8
    have nP1 : A2 (.page F) ≠ w.heap.size + 1 := Td.ne (by omega) (fun y hy => by have := hAl y hy; omega) (.page F) hF8
    have nP2 : A2 (.page F) ≠ w.heap.size + 1 + 1 := Td.ne (by omega) (fun y hy => by have := hAl y hy; omega) (.page F) hF8
    have M5 := Td.put (Td.sep.word hF8 o y) l3 ((Below.refl N _).setCell (p := ⟨A2 (.page F), o, none⟩) lPN _) (x0 := .page F) hF8 (by simp) (fun j _ h2 => Below.heap_setCell _ _ _ _ (by simpa using h2))
    have M9 := hidE ((M5.off3 hAl (b := w.heap.size + 1) (by omega) (by omega) hN (.slice (some ⟨A .fr, 0, none⟩) 8 cf) (.slice (some ⟨A .gs, 0, none⟩) n cg) (.int .i64 h2.hand)).weak (M' := w.heap.size) (Nat.le_refl _) (by omega))
    have hoi : (o : Int) < 4 := by omega
    have hFi : (F : Int) < 8 := by omega
    obtain ⟨z, hz⟩ : ∃ z, z = zAt h2 g p o := ⟨_, rfl⟩
    rw [← hz] at q3
    have Hz := hidE hz
    have Hm := hidE (And.intro hh3 hmF3)
    clear hz hz3 hh3 hmA hm3 hmF3 M5 Td BD q1 e0 e1 e2 T9 P9 R9 b9 hmF hm2 hw2 l2 l3 l5
    obtain ⟨r0, r1, r2, d0, d1, d2⟩ := Rd.out
    obtain ⟨p0, p1, p2, _, _, _⟩ := Pd
    go_wp2_with (fail)
    have R5 := (Rd.out.same (w' := Wd.setCell ⟨A2 (.page F), o, none⟩ (.int .i64 y)) (by rw [Below.heap_setCell _ _ _ _ (by simpa using Ne.symm nP1)])).putAll (.slice (some ⟨A .fr, 0, none⟩) 8 cf) (.slice (some ⟨A .gs, 0, none⟩) n cg) (.int .i64 h2.hand)
    clear r0 r1 r2 d0 d1 d2 p0 p1 p2 q2 q3 fr3 bd
    generalize (((Wd.setCell ⟨A2 (.page F), o, none⟩ (.int .i64 y)).setCell ⟨w.heap.size + 1, 0, none⟩ (.slice (some ⟨A .fr, 0, none⟩) 8 cf)).setCell ⟨w.heap.size + 1, 1, none⟩ (.slice (some ⟨A .gs, 0, none⟩) n cg)).setCell ⟨w.heap.size + 1, 2, none⟩ (.int .i64 h2.hand) = Wz at *
    obtain ⟨r0, r1, r2, _, _, _⟩ := R5
    refine bodyPost_ret (v := .tuple #[.agg #[.slice (some ⟨A .fr, 0, none⟩) 8 cf, .slice (some ⟨A .gs, 0, none⟩) n cg, .int .i64 h2.hand], .int .i64 z]) (by simp [results, Try.results123, go_sem, *]) rfl ?_
    simp only [Bool.and_self, cond_true, Int.toNat_natCast]
    rw [← hend.out.1, ← Hm.out.1, Hm.out.2, Int.toNat_natCast]
    exact ⟨by rw [← hend.out.2, Hz.out, show (wordP h3 F o y).hand = h2.hand by rw [Hm.out.1]; rfl], A2, M9.out⟩
/-- What the given l14WriteIn does. -/
theorem specWriteIn14 (N : Nat) (A : Pl → Nat) (h : Hst) (g i o : Nat) (y : Int) (n cf cg : Nat) (w : World) (k : SepH w N A h) (kk : OkH h) (hn : h.guests.length = n) (hg : g < n) (hi : i < 6) (ho4 : o < 4) (hN : N ≤ w.heap.size) :
    Calls Try.prog 123 #[.agg #[.slice (some ⟨A .fr, 0, none⟩) 8 cf, .slice (some ⟨A .gs, 0, none⟩) n cg, .int .i64 h.hand], .int .i64 g, .int .i64 i, .int .i64 o, .int .i64 y] w fun e w' => e = .returned (.tuple #[.agg #[.slice (some ⟨A .fr, 0, none⟩) 8 cf, .slice (some ⟨A .gs, 0, none⟩) n cg, .int .i64 (winH h g i o y).hand], .int .i64 (winG h g i o)]) ∧ ∃ A', Mv w w' w.heap.size N n A A' (winH h g i o y) := by
  cases hs : winW h g i
  · exact specWriteIn_not N A h g i o y n cf cg w k kk hn hg hi ho4 hN hs
  · have hb := hs
    simp only [winW, Bool.and_eq_true] at hb
    have e := specWriteIn_has N A h g i o y n cf cg w k kk hn hg hi ho4 hN hb.1 hb.2
    rw [winH, winG, hs, cond_true, cond_true]
    exact e.mono fun e w' hx => ⟨hx.1, A, hx.2⟩
end Go.Proofs.Ytjegndgdpmlbaaa
