/-
  What the drawing of a host gives.
-/
import Derived.Test.YtjegndgdpmlbaaaKOHI
import Derived.Test.YtjegndgdpmlbaaaKOHC
set_option linter.unusedSimpArgs false
namespace Go.Proofs.Ytjegndgdpmlbaaa
open Go.RowKit
attribute [local go_sem ↓] Go.wp_at_zero Go.wp_at_succ exec_app
attribute [local go_sem] bigNext_ok

/-- How far the drawing of a host has come: the reader, the host in its variable, the variable of the answer. -/
def HS (w W : World) (rb kr X lo n : Nat) (A : Pl → Nat) (cf cg : Nat) (h : Hst) : Prop :=
  Rd W rb kr ∧ Adv rb w W ∧ Var3 W X (.slice (some ⟨A .fr, 0, none⟩) 8 cf) (.slice (some ⟨A .gs, 0, none⟩) n cg) (.int .i64 h.hand) ∧ X < W.heap.size ∧ lo ≤ X ∧ Var3 W w.heap.size (.slice none 0 0) (.slice none 0 0) (.int .i64 0) ∧ w.heap.size < lo ∧ SepH W lo A h ∧ ∀ x, x.ok n → A x ≠ X
theorem HS.adv {w W W' : World} {rb kr kr' X lo n : Nat} {A : Pl → Nat} {cf cg : Nat} {h : Hst} (k : HS w W rb kr X lo n A cf cg h) (hrb : rb < w.heap.size) (ha : Adv rb W W') (hr : Rd W' rb kr') : HS w W' rb kr' X lo n A cf cg h := by
  obtain ⟨_, a2, a3, a4, a5, a6, a7, a8, a9⟩ := k
  exact ⟨hr, a2.trans ha, a3.same (ha.block X a4 (by omega)), Nat.lt_of_lt_of_le a4 ha.size, a5, a6.same (ha.block _ (by omega) (by omega)), a7, a8.adv ha (by omega), a9⟩
theorem hs_fin {w W : World} {rb kr lo : Nat} {vf vg : Value} {h : Hst} (hd : DrawnAt W lo vf vg h) (hl : w.heap.size < lo) (hr : Rd W rb kr) (ha : Adv rb w W) (hrb : rb < w.heap.size) (x y z : Value) :
    DrawnAt (((W.setCell ⟨w.heap.size, 0, none⟩ x).setCell ⟨w.heap.size, 1, none⟩ y).setCell ⟨w.heap.size, 2, none⟩ z) w.heap.size vf vg h ∧ Rd (((W.setCell ⟨w.heap.size, 0, none⟩ x).setCell ⟨w.heap.size, 1, none⟩ y).setCell ⟨w.heap.size, 2, none⟩ z) rb kr ∧ Adv rb w (((W.setCell ⟨w.heap.size, 0, none⟩ x).setCell ⟨w.heap.size, 1, none⟩ y).setCell ⟨w.heap.size, 2, none⟩ z) :=
  ⟨(hd.ret hl x y z).lower (by omega), ((hr.other _ 0 (by omega) _).other _ 1 (by omega) _).other _ 2 (by omega) _, ((ha.setCell (p := ⟨w.heap.size, 0, none⟩) (Or.inr (Nat.le_refl _)) _).setCell (p := ⟨w.heap.size, 1, none⟩) (Or.inr (Nat.le_refl _)) _).setCell (p := ⟨w.heap.size, 2, none⟩) (Or.inr (Nat.le_refl _)) _⟩

/-- What the drawing gives in the end. -/
def FinH (w : World) (rb k0 : Nat) (v : Value) (W : World) : Prop :=
  ∃ vf vg h, Ending.returned v = .returned (.agg #[vf, vg, .int .i64 h.hand]) ∧ DrawnAt W w.heap.size vf vg h ∧ (∃ k', Rd W rb k' ∧ k' ≤ k0 + 2000) ∧ Adv rb w W ∧ 1 ≤ h.guests.length ∧ h.guests.length ≤ 4
theorem FinH.below {w W W' : World} {rb k0 : Nat} {v : Value} (f : FinH w rb k0 v W) (hrb : rb < w.heap.size) (B : Below W.heap.size W W') : FinH w rb k0 v W' := by
  obtain ⟨vf, vg, h, a, b, ⟨k', c, d⟩, e, e1⟩ := f
  exact ⟨vf, vg, h, a, b.below B, ⟨k', c.below B (Nat.lt_of_lt_of_le hrb e.size), d⟩, e.then_belowA (B.mono e.size), e1⟩
theorem drawn_len {W : World} {lo : Nat} {vf vg : Value} {h : Hst} (d : DrawnAt W lo vf vg h) (h4 : ∃ a l c, vg = .slice a l c ∧ 1 ≤ l ∧ l ≤ 4) : 1 ≤ h.guests.length ∧ h.guests.length ≤ 4 := by
  obtain ⟨a, l, c, e, h1, h2⟩ := h4
  obtain ⟨a', c', e', _⟩ := d.1.2
  rw [e] at e'
  have := (Value.slice.inj e').2.1
  omega
theorem wf_nine {z : Int} (h0 : 0 ≤ z) (h8 : z ≤ 8) : (Lit.int .i64 z).wf = true := by
  rcases (by omega : z = 0 ∨ z = 1 ∨ z = 2 ∨ z = 3 ∨ z = 4 ∨ z = 5 ∨ z = 6 ∨ z = 7 ∨ z = 8) with e | e | e | e | e | e | e | e | e <;> subst e <;> decide
theorem wfs_setM {h : Hst} {g i : Nat} {b c : Bool} {z : Int} (wf : WfGs h.guests.length h.guests) (hg : g < h.guests.length) (hz : (Lit.int .i64 z).wf = true) : WfGs (setM h g i (b, z, c)).guests.length (setM h g i (b, z, c)).guests := by
  refine wfs_setG wf (fun p hp => ?_)
  show (Lit.int .i64 (((gOf h g).maps.set i (b, z, c)).getD p noM).2.1).wf = true
  by_cases e : p = i
  · subst e
    by_cases hl : p < (gOf h g).maps.length
    · rw [getD_set_same _ _ _ _ hl]; exact hz
    · rw [List.set_eq_of_length_le (by omega)]; exact wf g hg p hp
  · rw [getD_set_ne _ _ _ e]; exact wf g hg p hp
/-- What stands where, of a page of a guest. -/
theorem HS.facts {w W : World} {rb kr X lo n : Nat} {A : Pl → Nat} {cf cg : Nat} {h : Hst} (k : HS w W rb kr X lo n A cf cg h) (hl : h.guests.length = n) {g p : Nat} (hg : g < n) (hp : p < 6) :
    ((W.cell? ⟨X, 0, none⟩ = some (.slice (some ⟨A .fr, 0, none⟩) 8 cf) ∧ W.cell? ⟨X, 1, none⟩ = some (.slice (some ⟨A .gs, 0, none⟩) n cg) ∧ W.cell? ⟨X, 2, none⟩ = some (.int .i64 h.hand)) ∧ (W.frozen? ⟨X, 0, none⟩ = false ∧ W.frozen? ⟨X, 1, none⟩ = false ∧ W.frozen? ⟨X, 2, none⟩ = false) ∧ X < W.heap.size ∧
    (W.cell? ⟨w.heap.size, 0, none⟩ = some (.slice none 0 0) ∧ W.cell? ⟨w.heap.size, 1, none⟩ = some (.slice none 0 0) ∧ W.cell? ⟨w.heap.size, 2, none⟩ = some (.int .i64 0)) ∧ (W.frozen? ⟨w.heap.size, 0, none⟩ = false ∧ W.frozen? ⟨w.heap.size, 1, none⟩ = false ∧ W.frozen? ⟨w.heap.size, 2, none⟩ = false) ∧ w.heap.size < W.heap.size) ∧
    (∃ m1 m2 m3 d, W.cell? ⟨A .gs, g * 3, none⟩ = some (.slice (some ⟨A (.maps g), 0, none⟩) 6 m1) ∧ W.cell? ⟨A .gs, g * 3 + 1, none⟩ = some (.slice (some ⟨A (.row g), 0, none⟩) 6 m2) ∧ W.cell? ⟨A .gs, g * 3 + 2, none⟩ = some (.slice (some ⟨A (.shd g), 0, none⟩) 6 m3) ∧ W.frozen? ⟨A .gs, g * 3 + 2, none⟩ = false ∧ W.cell? ⟨A (.row g), p, none⟩ = some (.slice (some ⟨A (.dsk g p), 0, none⟩) 4 d)) ∧
    (∃ b z c, W.cell? ⟨A (.maps g), p * 3, none⟩ = some (.bool b) ∧ W.cell? ⟨A (.maps g), p * 3 + 1, none⟩ = some (.int .i64 z) ∧ W.cell? ⟨A (.maps g), p * 3 + 2, none⟩ = some (.bool c) ∧ W.frozen? ⟨A (.maps g), p * 3, none⟩ = false ∧ W.frozen? ⟨A (.maps g), p * 3 + 1, none⟩ = false ∧ W.frozen? ⟨A (.maps g), p * 3 + 2, none⟩ = false) ∧
    (∃ z, W.cell? ⟨A (.dsk g p), 0, none⟩ = some (.int .i64 z) ∧ W.frozen? ⟨A (.dsk g p), 0, none⟩ = false) ∧
    (∃ v0 v1 v2 v3, W.cell? ⟨A (.shd g), p * 4, none⟩ = some v0 ∧ W.cell? ⟨A (.shd g), p * 4 + 1, none⟩ = some v1 ∧ W.cell? ⟨A (.shd g), p * 4 + 2, none⟩ = some v2 ∧ W.cell? ⟨A (.shd g), p * 4 + 3, none⟩ = some v3 ∧ W.frozen? ⟨A (.shd g), p * 4, none⟩ = false ∧ W.frozen? ⟨A (.shd g), p * 4 + 1, none⟩ = false ∧ W.frozen? ⟨A (.shd g), p * 4 + 2, none⟩ = false ∧ W.frozen? ⟨A (.shd g), p * 4 + 3, none⟩ = false) ∧
    (A .gs < W.heap.size ∧ A (.maps g) < W.heap.size ∧ A (.row g) < W.heap.size ∧ A (.shd g) < W.heap.size ∧ A (.dsk g p) < W.heap.size) ∧ Rd W rb kr := by
  obtain ⟨hr, ha, ⟨x0, x1, x2, c0, c1, c2⟩, hXl, hloX, ⟨r0, r1, r2, f0, f1, f2⟩, hlo, hS, hAX⟩ := k
  have hg' : g < h.guests.length := by omega
  obtain ⟨⟨m1, q1⟩, ⟨m2, q2⟩, m3, q3⟩ := (hS.held .gs trivial).1 g hg'
  have qf := ((hS.held .gs trivial).2 (g * 3 + 2) (by omega)).2
  obtain ⟨⟨d, q4⟩, _⟩ := hS.held (.row g) hg' p hp
  obtain ⟨u0, u1, u2⟩ := (hS.held (.maps g) hg').1 p (by rw [(hS.sz g hg').1]; omega)
  have uR := (hS.held (.maps g) hg').2
  rw [Nat.zero_add] at u0 u1 u2
  obtain ⟨⟨v, dv⟩, df⟩ := (hS.held (.dsk g p) ⟨hg', hp⟩).2 0 (by omega)
  have dI := (hS.held (.dsk g p) ⟨hg', hp⟩).1 0 (by rw [(hS.sz g hg').2.2.1 p hp]; omega)
  have sR := (hS.held (.shd g) hg').2
  obtain ⟨⟨v0, e0⟩, e4⟩ := sR (p * 4) (by omega)
  obtain ⟨⟨v1, e1⟩, e5⟩ := sR (p * 4 + 1) (by omega)
  obtain ⟨⟨v2, e2⟩, e6⟩ := sR (p * 4 + 2) (by omega)
  obtain ⟨⟨v3, e3⟩, e7⟩ := sR (p * 4 + 3) (by omega)
  exact ⟨⟨⟨x0, x1, x2⟩, ⟨c0, c1, c2⟩, hXl, ⟨r0, r1, r2⟩, ⟨f0, f1, f2⟩, by omega⟩, ⟨m1, m2, m3, d, q1, q2, q3, qf, q4⟩, ⟨_, _, _, u0, u1, u2, (uR (p * 3) (by omega)).2, (uR (p * 3 + 1) (by omega)).2, (uR (p * 3 + 2) (by omega)).2⟩, ⟨_, dI, df⟩, ⟨_, _, _, _, e0, e1, e2, e3, e4, e5, e6, e7⟩, ⟨(hS.low .gs trivial).2, (hS.low (.maps g) hg').2, (hS.low (.row g) hg').2, (hS.low (.shd g) hg').2, (hS.low (.dsk g p) ⟨hg', hp⟩).2⟩, hr⟩

set_option maxRecDepth 100000 in
set_option maxHeartbeats 4000000 in
theorem drawHost (rb k0 : Nat) (w : World) (hr0 : Rd w rb k0) (hk0 : k0 ≤ 400000) :
    Calls Try.prog 45 #[.pointer (some ⟨rb, 0, none⟩)] w fun e w' => ∃ vf vg h, e = .returned (.agg #[vf, vg, .int .i64 h.hand]) ∧ DrawnAt w' w.heap.size vf vg h ∧ (∃ k', Rd w' rb k' ∧ k' ≤ k0 + 2000) ∧ Adv rb w w' ∧ 1 ≤ h.guests.length ∧ h.guests.length ≤ 4 := by
  have hlt := hr0.lt
  obtain ⟨W1, hW1⟩ : ∃ W1, W1 = w.alloc (.cells #[.slice none 0 0, .slice none 0 0, .int .i64 0] 26) := ⟨_, rfl⟩
  have s1 : W1.heap.size = w.heap.size + 1 := by rw [hW1]; simp
  have a1 : Adv rb w W1 := by rw [hW1]; exact (Adv.refl _ _).alloc _
  have r1 : Var3 W1 w.heap.size (.slice none 0 0) (.slice none 0 0) (.int .i64 0) := by rw [hW1]; exact var3_new w _ _ _ _
  have hr1 : Rd W1 rb k0 := by rw [hW1]; exact hr0.alloc _
  have r1 := hidE r1
  have a1 := hidE a1
  have s1 := hidE s1
  go_enter Try.func45, Try.ntmps45
  go_wp2_with (fail)
  rw [← hW1]
  clear hW1
  refine (drawPlay rb k0 W1 hr1 (by omega)).mono ?_
  rintro e w2 ⟨nI, v, xs, rfl, hn1, hn2, hO, hxl, _, ⟨k2, hr2, hk2⟩, ha2⟩
  obtain ⟨a, c, rfl, _, hIs, _⟩ := hO.acts
  obtain ⟨n, rfl⟩ := Int.eq_ofNat_of_zero_le (show 0 ≤ nI by omega)
  have h1 : 1 ≤ n := by omega
  have h2 : n ≤ 2 := by omega
  go_wp2_with (fail)
  refine (specPlay_yes n a c xs w2 h1 h2 hxl hIs).mono ?_
  rintro e w3 ⟨A, cf, cg, vo, rfl, hS, hsp, hOI, hB3⟩
  obtain ⟨_, kk0, hl0, _⟩ := newH_ok n h1 h2
  obtain ⟨kk, hl, _⟩ := playS_ok kk0 xs
  rw [hl0] at hl
  have wf := (okH_wfs kk)
  generalize (playS (newH (n : Int)) xs).1 = h at *
  have s2 := ha2.size
  have s3 := hB3.size
  obtain ⟨a', c', rfl, _⟩ := hOI
  clear hO hIs
  obtain ⟨W4, hW4⟩ : ∃ W4, W4 = w3.alloc (.cells #[.slice (some ⟨A .fr, 0, none⟩) 8 cf, .slice (some ⟨A .gs, 0, none⟩) n cg, .int .i64 h.hand] 26) := ⟨_, rfl⟩
  have H4 : HS w W4 rb k2 w3.heap.size w2.heap.size n A cf cg h := by
    have B4 : Below w3.heap.size w3 W4 := by rw [hW4]; exact (Below.refl _ _).alloc (Nat.le_refl _) _
    refine ⟨(hr2.below hB3 (by have := s1.out; omega)).below B4 (by have := s1.out; omega), ((a1.out.trans ha2).then_belowA (hB3.mono (by have := s1.out; omega))).then_belowA (B4.mono (by have := s1.out; omega)), by rw [hW4]; exact var3_new w3 _ _ _ _, by rw [hW4]; simp, s3, ?_, by have := s1.out; omega, hS.belowK B4, fun x hx => by have := (hS.low x (by rw [hl]; exact hx)).2; omega⟩
    exact ((r1.out.same (ha2.block _ (by have := s1.out; omega) (by omega))).same (hB3.block _ (by have := s1.out; omega))).same (B4.block _ (by have := s1.out; omega))
  obtain ⟨X, hX⟩ : ∃ X, X = w3.heap.size := ⟨_, rfl⟩
  obtain ⟨lo, hlo⟩ : ∃ lo, lo = w2.heap.size := ⟨_, rfl⟩
  rw [← hX, ← hlo] at H4
  clear hr1 hr2 ha2 hB3 hS a1 r1
  go_wp2_with (fail)
  rw [← hW4, ← hX]
  clear hW4
  refine (pickA rb k2 16 W4 H4.1 (by omega) (by omega) (by omega)).mono ?_
  rintro e w5 ⟨q, rfl, hq, hr5, ha5⟩
  have H5 := hidE (H4.adv hlt ha5 hr5)
  clear H4 hr5 ha5 s1 hX hlo s2 s3
  obtain ⟨k2', hk2'⟩ : ∃ k2', k2' = k2 + 1 := ⟨_, rfl⟩
  rw [← hk2'] at H5
  have hk2 : k2' ≤ k0 + 1001 := by omega
  clear hk2'
  by_cases hq0 : q = 0
  · subst hq0
    obtain ⟨hr5, _, ⟨x0, x1, x2, _, _, _⟩, hXl, _⟩ := H5.out
    go_wp2_with (fail)
    refine (pickA rb k2' n w5 hr5 (by omega) (by omega) (by omega)).mono ?_
    rintro e w6 ⟨g, rfl, hg, hr6, ha6⟩
    have H6 := hidE (H5.out.adv hlt ha6 hr6)
    clear H5 hr5 x0 x1 x2 hXl ha6 hr6
    have hr6 := H6.out.1
    go_wp2_with (fail)
    refine (pickA rb _ 6 w6 hr6 (by omega) (by omega) (by omega)).mono ?_
    rintro e w7 ⟨p, rfl, hp, hr7, ha7⟩
    have H7 := hidE (H6.out.adv hlt ha7 hr7)
    clear H6 hr6 ha7 hr7
    have hr7 := H7.out.1
    go_wp2_with (fail)
    refine (pickA rb _ 9 w7 hr7 (by omega) (by omega) (by omega)).mono ?_
    rintro e w8 ⟨s, rfl, hs, hr8, ha8⟩
    have H8 := hidE (H7.out.adv hlt ha8 hr8)
    clear H7 hr7 ha8 hr8
    have hgn : g < n := by omega
    have hp6 : p < 6 := by omega
    have hgi : (g : Int) < (n : Int) := by omega
    obtain ⟨kz, hkz⟩ : ∃ kz, kz = k2' + 1 + 1 + 1 := ⟨_, rfl⟩
    rw [← hkz] at H8
    have hkz2 : kz ≤ k0 + 1100 := by omega
    clear hkz hk2
    have hfin := hidE (fun (W : World) (kr : Nat) (vf vg : Value) (h' : Hst) (hd : DrawnAt W lo vf vg h') (hr : Rd W rb kr) (ha : Adv rb w W) (hk : kr ≤ k0 + 2000) (h4 : ∃ a l c, vg = .slice a l c ∧ 1 ≤ l ∧ l ≤ 4) (x y z : Value) (v : Value) (hv : v = .agg #[vf, vg, .int .i64 h'.hand]) => (show FinH w rb k0 v (((W.setCell ⟨w.heap.size, 0, none⟩ x).setCell ⟨w.heap.size, 1, none⟩ y).setCell ⟨w.heap.size, 2, none⟩ z) by
      obtain ⟨d1, d2, d3⟩ := hs_fin hd H8.out.2.2.2.2.2.2.1 hr ha hlt x y z
      exact ⟨vf, vg, h', by rw [hv], d1, ⟨kr, d2, hk⟩, d3, drawn_len hd h4⟩))
    have hg' : g < h.guests.length := by omega
    have hS8 := hidE H8.out.2.2.2.2.2.2.2.1
    have ha8 := hidE H8.out.2.1
    have ne := hidE (fun (x : Pl) (hx : x.ok n) => (show A x ≠ X ∧ A x ≠ w.heap.size ∧ rb < A x ∧ w.heap.size ≤ A x by
      have h1 := (hS8.out.low x (by rw [hl]; exact hx)).1
      have h2 := H8.out.2.2.2.2.2.2.1
      exact ⟨H8.out.2.2.2.2.2.2.2.2 x hx, by omega, by omega, by omega⟩))
    have hXR : X ≠ w.heap.size ∧ w.heap.size ≠ X ∧ rb < X := by
      have h2 := H8.out.2.2.2.2.2.2.1
      have h3 := H8.out.2.2.2.2.1
      exact ⟨by omega, by omega, by omega⟩
    obtain ⟨nXR, nRX, nXb⟩ := hXR
    obtain ⟨eM, eMR, _⟩ := ne.out (.maps g) hgn
    obtain ⟨eD, eDR, _⟩ := ne.out (.dsk g p) ⟨hgn, hp6⟩
    obtain ⟨eS, eSR, _⟩ := ne.out (.shd g) hgn
    obtain ⟨eG, eGR, _⟩ := ne.out .gs trivial
    have eM2 := eM.symm
    have eMR2 := eMR.symm
    have eD2 := eD.symm
    have eDR2 := eDR.symm
    have eS2 := eS.symm
    have eSR2 := eSR.symm
    have eG2 := eG.symm
    have eGR2 := eGR.symm
    have hl2 : ∀ x : Gst, (setG h g x).guests.length = n := fun x => by rw [setG_len]; exact hl
    rcases (by omega : s = 0 ∨ s = 1 ∨ s = 2 ∨ s = 3 ∨ s = 4 ∨ s = 5 ∨ s = 6 ∨ s = 7 ∨ s = 8) with rfl | rfl | rfl | rfl | rfl | rfl | rfl | rfl | rfl
    · --CASE0
      obtain ⟨⟨⟨x0, x1, x2⟩, ⟨c0, c1, c2⟩, hXl, ⟨r0, r1, r2⟩, ⟨f0, f1, f2⟩, hRl⟩, ⟨m1, m2, m3, dc, q1, q2, q3, qf, q4⟩, ⟨ub, uz, uc, u0, u1, u2, uf0, uf1, uf2⟩, ⟨dz, d0, df⟩, ⟨sv0, sv1, sv2, sv3, t0, t1, t2, t3, t4, t5, t6, t7⟩, ⟨lG, lM, lR, lS, lD⟩, hr⟩ := H8.out.facts hl hgn hp6
      have HA := hidE (H8.out.adv hlt ((Adv.refl _ _).drew) hr.drew)
      have HB := hidE (H8.out.adv (W' := w8.alloc (.cells #[.int .i64 (-1), .int .i64 8] 3)) hlt ((Adv.refl _ _).alloc _) (hr.alloc _))
      have hrb8 : rb < w8.heap.size := by omega
      go_wp2_with (fail)
      clear HA
      refine (pickA rb _ 2 _ HB.out.1 (by omega) (by omega) (by omega)).mono ?_
      rintro e w9 ⟨z, rfl, hz, hr9, ha9⟩
      have HH := hidE (HB.out.adv hlt ha9 hr9)
      clear x0 x1 x2 c0 c1 c2 hXl r0 r1 r2 f0 f1 f2 hRl q1 q2 q3 qf q4 u0 u1 u2 uf0 uf1 uf2 d0 df t0 t1 t2 t3 t4 t5 t6 t7 lG lM lR lS lD hr
      obtain ⟨⟨⟨x0, x1, x2⟩, ⟨c0, c1, c2⟩, hXl, ⟨r0, r1, r2⟩, ⟨f0, f1, f2⟩, hRl⟩, ⟨m1, m2, m3, dc, q1, q2, q3, qf, q4⟩, ⟨ub, uz, uc, u0, u1, u2, uf0, uf1, uf2⟩, ⟨dz, d0, df⟩, ⟨sv0, sv1, sv2, sv3, t0, t1, t2, t3, t4, t5, t6, t7⟩, ⟨lG, lM, lR, lS, lD⟩, hr⟩ := HH.out.facts hl hgn hp6
      have gY := Two.adv (two_made w8 (-1) 8 3) ha9 hrb8
      obtain ⟨y, hy⟩ := gY.2 z (by omega)
      all_goals go_wp2_with (fail)
      all_goals
        refine bodyPost_ret (v := .agg #[.slice (some ⟨A .fr, 0, none⟩) 8 cf, .slice (some ⟨A .gs, 0, none⟩) n cg, .int .i64 y]) (by simp [results, Try.results45, go_sem, *]) rfl ?_
        exact FinH.below (hfin.out (w9.setCell ⟨X, 2, none⟩ (.int .i64 y)) (kz + 1) (.slice (some ⟨A .fr, 0, none⟩) 8 cf) (.slice (some ⟨A .gs, 0, none⟩) n cg) (setHand h y) (drawnAt_sep ((HH.out.2.2.2.2.2.2.2.1.off (b := X) (j := 2) (fun x hx => HH.out.2.2.2.2.2.2.2.2 x (by rw [← hl]; exact hx)) _).hand y) wf hl cf cg) (HH.out.1.other X 2 nXb _) (HH.out.2.1.setCell (p := ⟨X, 2, none⟩) (Or.inr (by show w.heap.size ≤ X; have := H8.out.2.2.2.2.2.2.1; have := H8.out.2.2.2.2.1; omega)) _) (by omega) ⟨_, _, _, rfl, by omega, by omega⟩ (.slice (some ⟨A .fr, 0, none⟩) 8 cf) (.slice (some ⟨A .gs, 0, none⟩) n cg) (.int .i64 y) _ rfl) hlt (by (repeat' (with_reducible (first | exact Below.refl _ _ | apply Below.setCell | apply Below.alloc | apply below_drewN | apply Below.drew))) <;> (first | exact Nat.le_refl _ | (simp; done) | (simp; omega)))
    · --CASE1
      obtain ⟨hr, ha, ⟨x0, x1, x2, c0, c1, c2⟩, hXl, hloX, ⟨r0, r1, r2, f0, f1, f2⟩, hlo, hS, hAX⟩ := H8.out
      have hRl : w.heap.size < w8.heap.size := by omega
      have hRX : w.heap.size ≠ X := by omega
      have hXR : X ≠ w.heap.size := by omega
      have hAX' : ∀ x, x.ok h.guests.length → A x ≠ X := fun x hx => hAX x (by rw [← hl]; exact hx)
      by_cases hcf : cf = 1
      · obtain ⟨h', e1, _, _, hd⟩ := drawn_cutF (hS.off (j := 0) hAX' (.slice (some ⟨A .fr, 0, none⟩) 7 0)) wf hl 0 0 cg (by omega)
        have HF := hidE (hfin.out _ kz _ _ h' hd (hr.other X 0 (by omega) _) (ha.setCell (p := ⟨X, 0, none⟩) (Or.inr (by show w.heap.size ≤ X; omega)) _) (by omega) ⟨_, _, _, rfl, by omega, by omega⟩)
        subst hcf
        clear hr ha hS H8 hfin hAX hAX' hd
        go_wp2
        refine bodyPost_ret (v := .agg #[.slice (some ⟨A .fr, 0, none⟩) 7 0, .slice (some ⟨A .gs, 0, none⟩) n cg, .int .i64 h.hand]) (by simp [results, Try.results45, go_sem, *]) rfl ?_
        exact HF.out _ _ _ _ (by rw [e1])
      · obtain ⟨h', e1, _, _, hd⟩ := drawn_cutF (hS.off (j := 0) hAX' (.slice (some ⟨A .fr, 1, none⟩) 7 (cf - 1))) wf hl 1 (cf - 1) cg (by omega)
        have HF := hidE (hfin.out _ kz _ _ h' hd (hr.other X 0 (by omega) _) (ha.setCell (p := ⟨X, 0, none⟩) (Or.inr (by show w.heap.size ≤ X; omega)) _) (by omega) ⟨_, _, _, rfl, by omega, by omega⟩)
        clear hr ha hS H8 hfin hAX hAX' hd
        go_wp2
        refine bodyPost_ret (v := .agg #[.slice (some ⟨A .fr, 1, none⟩) 7 (cf - 1), .slice (some ⟨A .gs, 0, none⟩) n cg, .int .i64 h.hand]) (by simp [results, Try.results45, go_sem, *]) rfl ?_
        exact HF.out _ _ _ _ (by rw [e1])
    · --CASE2
      obtain ⟨⟨⟨x0, x1, x2⟩, ⟨c0, c1, c2⟩, hXl, ⟨r0, r1, r2⟩, ⟨f0, f1, f2⟩, hRl⟩, ⟨m1, m2, m3, dc, q1, q2, q3, qf, q4⟩, ⟨ub, uz, uc, u0, u1, u2, uf0, uf1, uf2⟩, ⟨dz, d0, df⟩, ⟨sv0, sv1, sv2, sv3, t0, t1, t2, t3, t4, t5, t6, t7⟩, ⟨lG, lM, lR, lS, lD⟩, hr⟩ := H8.out.facts hl hgn hp6
      go_wp2_with (fail)
      have eoff := fun (V : World) (b i j : Nat) (u : Value) (t : Nat) (ht : b ≠ t) => World.cell?_of_block (a := ⟨b, i, none⟩) (Below.heap_setCell V ⟨t, j, none⟩ u b (by simpa using ht))
      have nGM : A .gs ≠ A (.maps g) := fun e => by have := hS8.out.inj .gs (.maps g) trivial hg' e; cases this
      obtain ⟨S, hSE⟩ : ∃ S : World → Prop, S = fun W' => W'.cell? ⟨X, 1, none⟩ = some (.slice (some ⟨A .gs, 0, none⟩) n cg) ∧ W'.cell? ⟨A .gs, g * 3, none⟩ = some (.slice (some ⟨A (.maps g), 0, none⟩) 6 m1) := ⟨_, rfl⟩
      have hcells : ∀ W', S W' → W'.cell? ⟨X, 1, none⟩ = some (.slice (some ⟨A .gs, 0, none⟩) n cg) ∧ W'.cell? ⟨A .gs, g * 3, none⟩ = some (.slice (some ⟨A (.maps g), 0, none⟩) 6 m1) := fun W' h => by rw [hSE] at h; exact h
      have hSd : S w8.drew := by rw [hSE]; exact ⟨x1, q1⟩
      have hSf : S (w8.setCell ⟨A (.maps g), p * 3, none⟩ (.bool (!ub))).drew := by rw [hSE]; exact ⟨(eoff w8 _ _ _ _ _ eM2).trans x1, (eoff w8 _ _ _ _ _ nGM).trans q1⟩
      refine wp_region_held_drew (S := S) (by kernel_rfl) hSd (fun hHeld => ?_)
      refine wpAnyH_take (i := 0) (v := ?_) (by simp only [List.getElem?_toArray, List.getElem?_cons_succ, List.getElem?_cons_zero]; rfl) (by kernel_rfl) (by kernel_rfl) (by kernel_rfl) (by exact fun _ _ _ h => h) (Or.inl ⟨by rfl, ?_⟩) hHeld ?_
      rotate_left
      · intro W' hW'; go_simp <;> with_reducible rfl
      simp only [Act.put, List.setIfInBounds_toArray, List.set_cons_zero, List.set_cons_succ]
      refine wpAnyH_take (i := 1) (v := ?_) (by simp only [List.getElem?_toArray, List.getElem?_cons_succ, List.getElem?_cons_zero]; rfl) (by kernel_rfl) (by kernel_rfl) (by kernel_rfl) (by exact fun _ _ _ h => h) (Or.inl ⟨by rfl, ?_⟩) hHeld ?_
      rotate_left
      · intro W' hW'; obtain ⟨v0,v1⟩ := hcells W' hW'; go_simp <;> with_reducible rfl
      simp only [Act.put, List.setIfInBounds_toArray, List.set_cons_zero, List.set_cons_succ]
      refine wpAnyH_take (i := 2) (v := ?_) (by simp only [List.getElem?_toArray, List.getElem?_cons_succ, List.getElem?_cons_zero]; rfl) (by kernel_rfl) (by kernel_rfl) (by kernel_rfl) (by exact fun _ _ _ h => h) (Or.inl ⟨by rfl, ?_⟩) hHeld ?_
      rotate_left
      · intro W' hW'; go_simp <;> with_reducible rfl
      simp only [Act.put, List.setIfInBounds_toArray, List.set_cons_zero, List.set_cons_succ]
      refine wpAnyH_take (i := 3) (v := ?_) (by simp only [List.getElem?_toArray, List.getElem?_cons_succ, List.getElem?_cons_zero]; rfl) (by kernel_rfl) (by kernel_rfl) (by kernel_rfl) (by exact fun _ _ _ h => h) (Or.inl ⟨by rfl, ?_⟩) hHeld ?_
      rotate_left
      · intro W' hW'; go_simp <;> with_reducible rfl
      simp only [Act.put, List.setIfInBounds_toArray, List.set_cons_zero, List.set_cons_succ]
      refine wpAnyH_take (i := 4) (v := ?_) (by simp only [List.getElem?_toArray, List.getElem?_cons_succ, List.getElem?_cons_zero]; rfl) (by kernel_rfl) (by kernel_rfl) (by kernel_rfl) (by exact fun _ _ _ h => h) (Or.inl ⟨by rfl, ?_⟩) hHeld ?_
      rotate_left
      · intro W' hW'; go_simp <;> with_reducible rfl
      simp only [Act.put, List.setIfInBounds_toArray, List.set_cons_zero, List.set_cons_succ]
      refine wpAnyH_take (i := 5) (v := ?_) (by simp only [List.getElem?_toArray, List.getElem?_cons_succ, List.getElem?_cons_zero]; rfl) (by kernel_rfl) (by kernel_rfl) (by kernel_rfl) (by exact fun _ _ _ h => h) (Or.inl ⟨by rfl, ?_⟩) hHeld ?_
      rotate_left
      · intro W' hW'; obtain ⟨v0,v1⟩ := hcells W' hW'; go_simp <;> with_reducible rfl
      simp only [Act.put, List.setIfInBounds_toArray, List.set_cons_zero, List.set_cons_succ]
      refine wpAnyH_take (i := 6) (v := ?_) (by simp only [List.getElem?_toArray, List.getElem?_cons_succ, List.getElem?_cons_zero]; rfl) (by kernel_rfl) (by kernel_rfl) (by kernel_rfl) (by exact fun _ _ _ h => h) (Or.inl ⟨by rfl, ?_⟩) hHeld ?_
      rotate_left
      · intro W' hW'; go_simp <;> with_reducible rfl
      simp only [Act.put, List.setIfInBounds_toArray, List.set_cons_zero, List.set_cons_succ]
      refine wpAnyH_take (i := 7) (v := ?_) (by simp only [List.getElem?_toArray, List.getElem?_cons_succ, List.getElem?_cons_zero]; rfl) (by kernel_rfl) (by kernel_rfl) (by kernel_rfl) (by exact fun _ _ _ h => h) (Or.inl ⟨by rfl, ?_⟩) hHeld ?_
      rotate_left
      · intro W' hW'; go_simp <;> with_reducible rfl
      simp only [Act.put, List.setIfInBounds_toArray, List.set_cons_zero, List.set_cons_succ]
      refine wpAnyH_take (i := 8) (v := ?_) (by simp only [List.getElem?_toArray, List.getElem?_cons_succ, List.getElem?_cons_zero]; rfl) (by kernel_rfl) (by kernel_rfl) (by kernel_rfl) (by exact fun _ _ _ h => h) (Or.inl ⟨by rfl, ?_⟩) hHeld ?_
      rotate_left
      · intro W' hW'; obtain ⟨v0,v1⟩ := hcells W' hW'; go_simp <;> with_reducible rfl
      simp only [Act.put, List.setIfInBounds_toArray, List.set_cons_zero, List.set_cons_succ]
      refine wpAnyH_take (i := 9) (v := ?_) (by simp only [List.getElem?_toArray, List.getElem?_cons_succ, List.getElem?_cons_zero]; rfl) (by kernel_rfl) (by kernel_rfl) (by kernel_rfl) (by exact fun _ _ _ h => h) (Or.inl ⟨by rfl, ?_⟩) hHeld ?_
      rotate_left
      · intro W' hW'; go_simp <;> with_reducible rfl
      simp only [Act.put, List.setIfInBounds_toArray, List.set_cons_zero, List.set_cons_succ]
      refine wpAnyH_take (i := 10) (v := ?_) (by simp only [List.getElem?_toArray, List.getElem?_cons_succ, List.getElem?_cons_zero]; rfl) (by kernel_rfl) (by kernel_rfl) (by kernel_rfl) (by exact fun _ _ _ h => h) (Or.inl ⟨by rfl, ?_⟩) hHeld ?_
      rotate_left
      · intro W' hW'; go_simp <;> with_reducible rfl
      simp only [Act.put, List.setIfInBounds_toArray, List.set_cons_zero, List.set_cons_succ]
      refine wpAnyH_take (i := 11) (v := ?_) (by simp only [List.getElem?_toArray, List.getElem?_cons_succ, List.getElem?_cons_zero]; rfl) (by kernel_rfl) (by kernel_rfl) (by kernel_rfl) (by exact fun _ _ _ h => h) (Or.inl ⟨by rfl, ?_⟩) hHeld ?_
      rotate_left
      · intro W' hW'; go_simp <;> with_reducible rfl
      simp only [Act.put, List.setIfInBounds_toArray, List.set_cons_zero, List.set_cons_succ]
      refine wpAnyH_take (i := 12) (v := ?_) (by simp only [List.getElem?_toArray, List.getElem?_cons_succ, List.getElem?_cons_zero]; rfl) (by kernel_rfl) (by kernel_rfl) (by kernel_rfl) (by exact fun _ _ _ h => h) (Or.inl ⟨by rfl, ?_⟩) hHeld ?_
      rotate_left
      · intro W' hW'; obtain ⟨v0,v1⟩ := hcells W' hW'; go_simp <;> with_reducible rfl
      simp only [Act.put, List.setIfInBounds_toArray, List.set_cons_zero, List.set_cons_succ]
      refine wpAnyH_take (i := 13) (v := ?_) (by simp only [List.getElem?_toArray, List.getElem?_cons_succ, List.getElem?_cons_zero]; rfl) (by kernel_rfl) (by kernel_rfl) (by kernel_rfl) (by exact fun _ _ _ h => h) (Or.inl ⟨by rfl, ?_⟩) hHeld ?_
      rotate_left
      · intro W' hW'; go_simp <;> with_reducible rfl
      simp only [Act.put, List.setIfInBounds_toArray, List.set_cons_zero, List.set_cons_succ]
      refine wpAnyH_take (i := 14) (v := ?_) (by simp only [List.getElem?_toArray, List.getElem?_cons_succ, List.getElem?_cons_zero]; rfl) (by kernel_rfl) (by kernel_rfl) (by kernel_rfl) (by exact fun _ _ _ h => h) (Or.inl ⟨by rfl, ?_⟩) hHeld ?_
      rotate_left
      · intro W' hW'; go_simp <;> with_reducible rfl
      simp only [Act.put, List.setIfInBounds_toArray, List.set_cons_zero, List.set_cons_succ]
      refine wpAnyH_take (i := 15) (v := ?_) (by simp only [List.getElem?_toArray, List.getElem?_cons_succ, List.getElem?_cons_zero]; rfl) (by kernel_rfl) (by kernel_rfl) (by kernel_rfl) (by exact fun _ _ _ h => h) (Or.inl ⟨by rfl, ?_⟩) hHeld ?_
      rotate_left
      · intro W' hW'; go_simp <;> with_reducible rfl
      simp only [Act.put, List.setIfInBounds_toArray, List.set_cons_zero, List.set_cons_succ]
      refine wpAnyH_ready (rs := [16]) (by kernel_rfl) (by simp) ?_
      refine AllReadyH.cons (by simp only [List.getElem?_toArray, List.getElem?_cons_succ, List.getElem?_cons_zero]; rfl) (fun K hK => ?_) AllReadyH.nil
      rw [if_pos (by rfl)]
      go_simp
      refine hK.out _ _ hSd (fun hHeld => ?_)
      clear hK K
      try simp only [Act.put, List.setIfInBounds_toArray, List.set_cons_zero, List.set_cons_succ]
      refine wpAnyH_take (i := 17) (v := ?_) (by simp only [List.getElem?_toArray, List.getElem?_cons_succ, List.getElem?_cons_zero]; rfl) (by kernel_rfl) (by kernel_rfl) (by kernel_rfl) (by exact fun _ _ _ h => h) (Or.inl ⟨by rfl, ?_⟩) hHeld ?_
      rotate_left
      · intro W' hW'; go_simp <;> with_reducible rfl
      simp only [Act.put, List.setIfInBounds_toArray, List.set_cons_zero, List.set_cons_succ]
      refine wpAnyH_take (i := 18) (v := ?_) (by simp only [List.getElem?_toArray, List.getElem?_cons_succ, List.getElem?_cons_zero]; rfl) (by kernel_rfl) (by kernel_rfl) (by kernel_rfl) (by exact fun _ _ _ h => h) (Or.inl ⟨by rfl, ?_⟩) hHeld ?_
      rotate_left
      · intro W' hW'; go_simp <;> with_reducible rfl
      simp only [Act.put, List.setIfInBounds_toArray, List.set_cons_zero, List.set_cons_succ]
      refine wpAnyH_take (i := 19) (v := ?_) (by simp only [List.getElem?_toArray, List.getElem?_cons_succ, List.getElem?_cons_zero]; rfl) (by kernel_rfl) (by kernel_rfl) (by kernel_rfl) (by exact fun _ _ _ h => h) (Or.inl ⟨by rfl, ?_⟩) hHeld ?_
      rotate_left
      · intro W' hW'; go_simp <;> with_reducible rfl
      simp only [Act.put, List.setIfInBounds_toArray, List.set_cons_zero, List.set_cons_succ]
      refine wpAnyH_ready (rs := [20]) (by kernel_rfl) (by simp) ?_
      refine AllReadyH.cons (by simp only [List.getElem?_toArray, List.getElem?_cons_succ, List.getElem?_cons_zero]; rfl) (fun K hK => ?_) AllReadyH.nil
      rw [if_pos (by rfl)]
      go_simp
      refine hK.out _ _ hSf (fun hHeld => ?_)
      clear hK K
      try simp only [Act.put, List.setIfInBounds_toArray, List.set_cons_zero, List.set_cons_succ]
      refine wpAnyH_done (by kernel_rfl) ?_ _
      clear hHeld hSd hSf
      go_wp2_with (fail)
      refine bodyPost_ret (v := .agg #[.slice (some ⟨A .fr, 0, none⟩) 8 cf, .slice (some ⟨A .gs, 0, none⟩) n cg, .int .i64 h.hand]) (by simp [results, Try.results45, go_sem, *]) rfl ?_
      exact FinH.below (hfin.out (w8.setCell ⟨A (.maps g), p * 3, none⟩ (.bool (!ub))) kz (.slice (some ⟨A .fr, 0, none⟩) 8 cf) (.slice (some ⟨A .gs, 0, none⟩) n cg) _ (drawnAt_sep (hS8.out.mapI hg' hp6 (!ub)) (wfs_setM wf hg' (wf g hg' p hp6)) (hl2 _) cf cg) (hr.other _ _ (ne.out (.maps g) hgn).2.2.1 _) (ha8.out.setCell (p := ⟨A (.maps g), p * 3, none⟩) (Or.inr (ne.out (.maps g) hgn).2.2.2) _) (by omega) ⟨_, _, _, rfl, by omega, by omega⟩ (.slice (some ⟨A .fr, 0, none⟩) 8 cf) (.slice (some ⟨A .gs, 0, none⟩) n cg) (.int .i64 h.hand) _ (rfl)) hlt (by (repeat' (with_reducible (first | exact Below.refl _ _ | apply Below.setCell | apply Below.alloc | apply below_drewN | apply Below.drew))) <;> (first | exact Nat.le_refl _ | (simp; done) | (simp; omega)))

    · --CASE3
      obtain ⟨⟨⟨x0, x1, x2⟩, ⟨c0, c1, c2⟩, hXl, ⟨r0, r1, r2⟩, ⟨f0, f1, f2⟩, hRl⟩, ⟨m1, m2, m3, dc, q1, q2, q3, qf, q4⟩, ⟨ub, uz, uc, u0, u1, u2, uf0, uf1, uf2⟩, ⟨dz, d0, df⟩, ⟨sv0, sv1, sv2, sv3, t0, t1, t2, t3, t4, t5, t6, t7⟩, ⟨lG, lM, lR, lS, lD⟩, hr⟩ := H8.out.facts hl hgn hp6
      go_wp2_with (fail)
      have eoff := fun (V : World) (b i j : Nat) (u : Value) (t : Nat) (ht : b ≠ t) => World.cell?_of_block (a := ⟨b, i, none⟩) (Below.heap_setCell V ⟨t, j, none⟩ u b (by simpa using ht))
      have nGM : A .gs ≠ A (.maps g) := fun e => by have := hS8.out.inj .gs (.maps g) trivial hg' e; cases this
      obtain ⟨S, hSE⟩ : ∃ S : World → Prop, S = fun W' => W'.cell? ⟨X, 1, none⟩ = some (.slice (some ⟨A .gs, 0, none⟩) n cg) ∧ W'.cell? ⟨A .gs, g * 3, none⟩ = some (.slice (some ⟨A (.maps g), 0, none⟩) 6 m1) := ⟨_, rfl⟩
      have hcells : ∀ W', S W' → W'.cell? ⟨X, 1, none⟩ = some (.slice (some ⟨A .gs, 0, none⟩) n cg) ∧ W'.cell? ⟨A .gs, g * 3, none⟩ = some (.slice (some ⟨A (.maps g), 0, none⟩) 6 m1) := fun W' h => by rw [hSE] at h; exact h
      have hSd : S w8.drew := by rw [hSE]; exact ⟨x1, q1⟩
      have hSf : S (w8.setCell ⟨A (.maps g), p * 3 + 2, none⟩ (.bool (!uc))).drew := by rw [hSE]; exact ⟨(eoff w8 _ _ _ _ _ eM2).trans x1, (eoff w8 _ _ _ _ _ nGM).trans q1⟩
      refine wp_region_held_drew (S := S) (by kernel_rfl) hSd (fun hHeld => ?_)
      refine wpAnyH_take (i := 0) (v := ?_) (by simp only [List.getElem?_toArray, List.getElem?_cons_succ, List.getElem?_cons_zero]; rfl) (by kernel_rfl) (by kernel_rfl) (by kernel_rfl) (by exact fun _ _ _ h => h) (Or.inl ⟨by rfl, ?_⟩) hHeld ?_
      rotate_left
      · intro W' hW'; go_simp <;> with_reducible rfl
      simp only [Act.put, List.setIfInBounds_toArray, List.set_cons_zero, List.set_cons_succ]
      refine wpAnyH_take (i := 1) (v := ?_) (by simp only [List.getElem?_toArray, List.getElem?_cons_succ, List.getElem?_cons_zero]; rfl) (by kernel_rfl) (by kernel_rfl) (by kernel_rfl) (by exact fun _ _ _ h => h) (Or.inl ⟨by rfl, ?_⟩) hHeld ?_
      rotate_left
      · intro W' hW'; obtain ⟨v0,v1⟩ := hcells W' hW'; go_simp <;> with_reducible rfl
      simp only [Act.put, List.setIfInBounds_toArray, List.set_cons_zero, List.set_cons_succ]
      refine wpAnyH_take (i := 2) (v := ?_) (by simp only [List.getElem?_toArray, List.getElem?_cons_succ, List.getElem?_cons_zero]; rfl) (by kernel_rfl) (by kernel_rfl) (by kernel_rfl) (by exact fun _ _ _ h => h) (Or.inl ⟨by rfl, ?_⟩) hHeld ?_
      rotate_left
      · intro W' hW'; go_simp <;> with_reducible rfl
      simp only [Act.put, List.setIfInBounds_toArray, List.set_cons_zero, List.set_cons_succ]
      refine wpAnyH_take (i := 3) (v := ?_) (by simp only [List.getElem?_toArray, List.getElem?_cons_succ, List.getElem?_cons_zero]; rfl) (by kernel_rfl) (by kernel_rfl) (by kernel_rfl) (by exact fun _ _ _ h => h) (Or.inl ⟨by rfl, ?_⟩) hHeld ?_
      rotate_left
      · intro W' hW'; go_simp <;> with_reducible rfl
      simp only [Act.put, List.setIfInBounds_toArray, List.set_cons_zero, List.set_cons_succ]
      refine wpAnyH_take (i := 4) (v := ?_) (by simp only [List.getElem?_toArray, List.getElem?_cons_succ, List.getElem?_cons_zero]; rfl) (by kernel_rfl) (by kernel_rfl) (by kernel_rfl) (by exact fun _ _ _ h => h) (Or.inl ⟨by rfl, ?_⟩) hHeld ?_
      rotate_left
      · intro W' hW'; go_simp <;> with_reducible rfl
      simp only [Act.put, List.setIfInBounds_toArray, List.set_cons_zero, List.set_cons_succ]
      refine wpAnyH_take (i := 5) (v := ?_) (by simp only [List.getElem?_toArray, List.getElem?_cons_succ, List.getElem?_cons_zero]; rfl) (by kernel_rfl) (by kernel_rfl) (by kernel_rfl) (by exact fun _ _ _ h => h) (Or.inl ⟨by rfl, ?_⟩) hHeld ?_
      rotate_left
      · intro W' hW'; obtain ⟨v0,v1⟩ := hcells W' hW'; go_simp <;> with_reducible rfl
      simp only [Act.put, List.setIfInBounds_toArray, List.set_cons_zero, List.set_cons_succ]
      refine wpAnyH_take (i := 6) (v := ?_) (by simp only [List.getElem?_toArray, List.getElem?_cons_succ, List.getElem?_cons_zero]; rfl) (by kernel_rfl) (by kernel_rfl) (by kernel_rfl) (by exact fun _ _ _ h => h) (Or.inl ⟨by rfl, ?_⟩) hHeld ?_
      rotate_left
      · intro W' hW'; go_simp <;> with_reducible rfl
      simp only [Act.put, List.setIfInBounds_toArray, List.set_cons_zero, List.set_cons_succ]
      refine wpAnyH_take (i := 7) (v := ?_) (by simp only [List.getElem?_toArray, List.getElem?_cons_succ, List.getElem?_cons_zero]; rfl) (by kernel_rfl) (by kernel_rfl) (by kernel_rfl) (by exact fun _ _ _ h => h) (Or.inl ⟨by rfl, ?_⟩) hHeld ?_
      rotate_left
      · intro W' hW'; go_simp <;> with_reducible rfl
      simp only [Act.put, List.setIfInBounds_toArray, List.set_cons_zero, List.set_cons_succ]
      refine wpAnyH_take (i := 8) (v := ?_) (by simp only [List.getElem?_toArray, List.getElem?_cons_succ, List.getElem?_cons_zero]; rfl) (by kernel_rfl) (by kernel_rfl) (by kernel_rfl) (by exact fun _ _ _ h => h) (Or.inl ⟨by rfl, ?_⟩) hHeld ?_
      rotate_left
      · intro W' hW'; obtain ⟨v0,v1⟩ := hcells W' hW'; go_simp <;> with_reducible rfl
      simp only [Act.put, List.setIfInBounds_toArray, List.set_cons_zero, List.set_cons_succ]
      refine wpAnyH_take (i := 9) (v := ?_) (by simp only [List.getElem?_toArray, List.getElem?_cons_succ, List.getElem?_cons_zero]; rfl) (by kernel_rfl) (by kernel_rfl) (by kernel_rfl) (by exact fun _ _ _ h => h) (Or.inl ⟨by rfl, ?_⟩) hHeld ?_
      rotate_left
      · intro W' hW'; go_simp <;> with_reducible rfl
      simp only [Act.put, List.setIfInBounds_toArray, List.set_cons_zero, List.set_cons_succ]
      refine wpAnyH_take (i := 10) (v := ?_) (by simp only [List.getElem?_toArray, List.getElem?_cons_succ, List.getElem?_cons_zero]; rfl) (by kernel_rfl) (by kernel_rfl) (by kernel_rfl) (by exact fun _ _ _ h => h) (Or.inl ⟨by rfl, ?_⟩) hHeld ?_
      rotate_left
      · intro W' hW'; go_simp <;> with_reducible rfl
      simp only [Act.put, List.setIfInBounds_toArray, List.set_cons_zero, List.set_cons_succ]
      refine wpAnyH_take (i := 11) (v := ?_) (by simp only [List.getElem?_toArray, List.getElem?_cons_succ, List.getElem?_cons_zero]; rfl) (by kernel_rfl) (by kernel_rfl) (by kernel_rfl) (by exact fun _ _ _ h => h) (Or.inl ⟨by rfl, ?_⟩) hHeld ?_
      rotate_left
      · intro W' hW'; go_simp <;> with_reducible rfl
      simp only [Act.put, List.setIfInBounds_toArray, List.set_cons_zero, List.set_cons_succ]
      refine wpAnyH_take (i := 12) (v := ?_) (by simp only [List.getElem?_toArray, List.getElem?_cons_succ, List.getElem?_cons_zero]; rfl) (by kernel_rfl) (by kernel_rfl) (by kernel_rfl) (by exact fun _ _ _ h => h) (Or.inl ⟨by rfl, ?_⟩) hHeld ?_
      rotate_left
      · intro W' hW'; obtain ⟨v0,v1⟩ := hcells W' hW'; go_simp <;> with_reducible rfl
      simp only [Act.put, List.setIfInBounds_toArray, List.set_cons_zero, List.set_cons_succ]
      refine wpAnyH_take (i := 13) (v := ?_) (by simp only [List.getElem?_toArray, List.getElem?_cons_succ, List.getElem?_cons_zero]; rfl) (by kernel_rfl) (by kernel_rfl) (by kernel_rfl) (by exact fun _ _ _ h => h) (Or.inl ⟨by rfl, ?_⟩) hHeld ?_
      rotate_left
      · intro W' hW'; go_simp <;> with_reducible rfl
      simp only [Act.put, List.setIfInBounds_toArray, List.set_cons_zero, List.set_cons_succ]
      refine wpAnyH_take (i := 14) (v := ?_) (by simp only [List.getElem?_toArray, List.getElem?_cons_succ, List.getElem?_cons_zero]; rfl) (by kernel_rfl) (by kernel_rfl) (by kernel_rfl) (by exact fun _ _ _ h => h) (Or.inl ⟨by rfl, ?_⟩) hHeld ?_
      rotate_left
      · intro W' hW'; go_simp <;> with_reducible rfl
      simp only [Act.put, List.setIfInBounds_toArray, List.set_cons_zero, List.set_cons_succ]
      refine wpAnyH_take (i := 15) (v := ?_) (by simp only [List.getElem?_toArray, List.getElem?_cons_succ, List.getElem?_cons_zero]; rfl) (by kernel_rfl) (by kernel_rfl) (by kernel_rfl) (by exact fun _ _ _ h => h) (Or.inl ⟨by rfl, ?_⟩) hHeld ?_
      rotate_left
      · intro W' hW'; go_simp <;> with_reducible rfl
      simp only [Act.put, List.setIfInBounds_toArray, List.set_cons_zero, List.set_cons_succ]
      refine wpAnyH_ready (rs := [16]) (by kernel_rfl) (by simp) ?_
      refine AllReadyH.cons (by simp only [List.getElem?_toArray, List.getElem?_cons_succ, List.getElem?_cons_zero]; rfl) (fun K hK => ?_) AllReadyH.nil
      rw [if_pos (by rfl)]
      go_simp
      refine hK.out _ _ hSd (fun hHeld => ?_)
      clear hK K
      try simp only [Act.put, List.setIfInBounds_toArray, List.set_cons_zero, List.set_cons_succ]
      refine wpAnyH_take (i := 17) (v := ?_) (by simp only [List.getElem?_toArray, List.getElem?_cons_succ, List.getElem?_cons_zero]; rfl) (by kernel_rfl) (by kernel_rfl) (by kernel_rfl) (by exact fun _ _ _ h => h) (Or.inl ⟨by rfl, ?_⟩) hHeld ?_
      rotate_left
      · intro W' hW'; go_simp <;> with_reducible rfl
      simp only [Act.put, List.setIfInBounds_toArray, List.set_cons_zero, List.set_cons_succ]
      refine wpAnyH_take (i := 18) (v := ?_) (by simp only [List.getElem?_toArray, List.getElem?_cons_succ, List.getElem?_cons_zero]; rfl) (by kernel_rfl) (by kernel_rfl) (by kernel_rfl) (by exact fun _ _ _ h => h) (Or.inl ⟨by rfl, ?_⟩) hHeld ?_
      rotate_left
      · intro W' hW'; go_simp <;> with_reducible rfl
      simp only [Act.put, List.setIfInBounds_toArray, List.set_cons_zero, List.set_cons_succ]
      refine wpAnyH_take (i := 19) (v := ?_) (by simp only [List.getElem?_toArray, List.getElem?_cons_succ, List.getElem?_cons_zero]; rfl) (by kernel_rfl) (by kernel_rfl) (by kernel_rfl) (by exact fun _ _ _ h => h) (Or.inl ⟨by rfl, ?_⟩) hHeld ?_
      rotate_left
      · intro W' hW'; go_simp <;> with_reducible rfl
      simp only [Act.put, List.setIfInBounds_toArray, List.set_cons_zero, List.set_cons_succ]
      refine wpAnyH_ready (rs := [20]) (by kernel_rfl) (by simp) ?_
      refine AllReadyH.cons (by simp only [List.getElem?_toArray, List.getElem?_cons_succ, List.getElem?_cons_zero]; rfl) (fun K hK => ?_) AllReadyH.nil
      rw [if_pos (by rfl)]
      go_simp
      refine hK.out _ _ hSf (fun hHeld => ?_)
      clear hK K
      try simp only [Act.put, List.setIfInBounds_toArray, List.set_cons_zero, List.set_cons_succ]
      refine wpAnyH_done (by kernel_rfl) ?_ _
      clear hHeld hSd hSf
      go_wp2_with (fail)
      refine bodyPost_ret (v := .agg #[.slice (some ⟨A .fr, 0, none⟩) 8 cf, .slice (some ⟨A .gs, 0, none⟩) n cg, .int .i64 h.hand]) (by simp [results, Try.results45, go_sem, *]) rfl ?_
      exact FinH.below (hfin.out (w8.setCell ⟨A (.maps g), p * 3 + 2, none⟩ (.bool (!uc))) kz (.slice (some ⟨A .fr, 0, none⟩) 8 cf) (.slice (some ⟨A .gs, 0, none⟩) n cg) _ (drawnAt_sep (hS8.out.mapW hg' hp6 (!uc)) (wfs_setM wf hg' (wf g hg' p hp6)) (hl2 _) cf cg) (hr.other _ _ (ne.out (.maps g) hgn).2.2.1 _) (ha8.out.setCell (p := ⟨A (.maps g), p * 3 + 2, none⟩) (Or.inr (ne.out (.maps g) hgn).2.2.2) _) (by omega) ⟨_, _, _, rfl, by omega, by omega⟩ (.slice (some ⟨A .fr, 0, none⟩) 8 cf) (.slice (some ⟨A .gs, 0, none⟩) n cg) (.int .i64 h.hand) _ (rfl)) hlt (by (repeat' (with_reducible (first | exact Below.refl _ _ | apply Below.setCell | apply Below.alloc | apply below_drewN | apply Below.drew))) <;> (first | exact Nat.le_refl _ | (simp; done) | (simp; omega)))

    · --CASE4
      obtain ⟨⟨⟨x0, x1, x2⟩, ⟨c0, c1, c2⟩, hXl, ⟨r0, r1, r2⟩, ⟨f0, f1, f2⟩, hRl⟩, ⟨m1, m2, m3, dc, q1, q2, q3, qf, q4⟩, ⟨ub, uz, uc, u0, u1, u2, uf0, uf1, uf2⟩, ⟨dz, d0, df⟩, ⟨sv0, sv1, sv2, sv3, t0, t1, t2, t3, t4, t5, t6, t7⟩, ⟨lG, lM, lR, lS, lD⟩, hr⟩ := H8.out.facts hl hgn hp6
      go_wp2_with (fail)
      have eoff := fun (V : World) (b i j : Nat) (u : Value) (t : Nat) (ht : b ≠ t) => World.cell?_of_block (a := ⟨b, i, none⟩) (Below.heap_setCell V ⟨t, j, none⟩ u b (by simpa using ht))
      have nGM : A .gs ≠ A (.maps g) := fun e => by have := hS8.out.inj .gs (.maps g) trivial hg' e; cases this
      obtain ⟨S, hSE⟩ : ∃ S : World → Prop, S = fun W' => W'.cell? ⟨X, 1, none⟩ = some (.slice (some ⟨A .gs, 0, none⟩) n cg) ∧ W'.cell? ⟨A .gs, g * 3, none⟩ = some (.slice (some ⟨A (.maps g), 0, none⟩) 6 m1) := ⟨_, rfl⟩
      have hcells : ∀ W', S W' → W'.cell? ⟨X, 1, none⟩ = some (.slice (some ⟨A .gs, 0, none⟩) n cg) ∧ W'.cell? ⟨A .gs, g * 3, none⟩ = some (.slice (some ⟨A (.maps g), 0, none⟩) 6 m1) := fun W' h => by rw [hSE] at h; exact h
      have hSd : S w8.drew := by rw [hSE]; exact ⟨x1, q1⟩
      have HH := hidE (H8.out.adv hlt ((Adv.refl _ _).drew) hr.drew)
      have bX := x1
      have lXw : X < w8.drew.heap.size := hXl
      have lGw : A .gs < w8.drew.heap.size := lG
      have bX : w8.drew.cell? ⟨X, 1, none⟩ = _ := x1
      have bG : w8.drew.cell? ⟨A .gs, g * 3, none⟩ = _ := q1
      refine wp_region_held_drew (S := S) (by kernel_rfl) hSd (fun hHeld => ?_)
      refine wpAnyH_take (i := 0) (v := ?_) (by simp only [List.getElem?_toArray, List.getElem?_cons_succ, List.getElem?_cons_zero]; rfl) (by kernel_rfl) (by kernel_rfl) (by kernel_rfl) (by exact fun _ _ _ h => h) (Or.inl ⟨by rfl, ?_⟩) hHeld ?_
      rotate_left
      · intro W' hW'; go_simp <;> with_reducible rfl
      simp only [Act.put, List.setIfInBounds_toArray, List.set_cons_zero, List.set_cons_succ]
      refine wpAnyH_take (i := 1) (v := ?_) (by simp only [List.getElem?_toArray, List.getElem?_cons_succ, List.getElem?_cons_zero]; rfl) (by kernel_rfl) (by kernel_rfl) (by kernel_rfl) (by exact fun _ _ _ h => h) (Or.inl ⟨by rfl, ?_⟩) hHeld ?_
      rotate_left
      · intro W' hW'; obtain ⟨v0,v1⟩ := hcells W' hW'; go_simp <;> with_reducible rfl
      simp only [Act.put, List.setIfInBounds_toArray, List.set_cons_zero, List.set_cons_succ]
      refine wpAnyH_take (i := 2) (v := ?_) (by simp only [List.getElem?_toArray, List.getElem?_cons_succ, List.getElem?_cons_zero]; rfl) (by kernel_rfl) (by kernel_rfl) (by kernel_rfl) (by exact fun _ _ _ h => h) (Or.inl ⟨by rfl, ?_⟩) hHeld ?_
      rotate_left
      · intro W' hW'; go_simp <;> with_reducible rfl
      simp only [Act.put, List.setIfInBounds_toArray, List.set_cons_zero, List.set_cons_succ]
      refine wpAnyH_take (i := 3) (v := ?_) (by simp only [List.getElem?_toArray, List.getElem?_cons_succ, List.getElem?_cons_zero]; rfl) (by kernel_rfl) (by kernel_rfl) (by kernel_rfl) (by exact fun _ _ _ h => h) (Or.inl ⟨by rfl, ?_⟩) hHeld ?_
      rotate_left
      · intro W' hW'; go_simp <;> with_reducible rfl
      simp only [Act.put, List.setIfInBounds_toArray, List.set_cons_zero, List.set_cons_succ]
      refine wpAnyH_take (i := 4) (v := ?_) (by simp only [List.getElem?_toArray, List.getElem?_cons_succ, List.getElem?_cons_zero]; rfl) (by kernel_rfl) (by kernel_rfl) (by kernel_rfl) (by exact fun _ _ _ h => h) (Or.inl ⟨by rfl, ?_⟩) hHeld ?_
      rotate_left
      · intro W' hW'; go_simp <;> with_reducible rfl
      simp only [Act.put, List.setIfInBounds_toArray, List.set_cons_zero, List.set_cons_succ]
      refine wpAnyH_take (i := 5) (v := ?_) (by simp only [List.getElem?_toArray, List.getElem?_cons_succ, List.getElem?_cons_zero]; rfl) (by kernel_rfl) (by kernel_rfl) (by kernel_rfl) (by exact fun _ _ _ h => h) (Or.inl ⟨by rfl, ?_⟩) hHeld ?_
      rotate_left
      · intro W' hW'; obtain ⟨v0,v1⟩ := hcells W' hW'; go_simp <;> with_reducible rfl
      simp only [Act.put, List.setIfInBounds_toArray, List.set_cons_zero, List.set_cons_succ]
      refine wpAnyH_take (i := 6) (v := ?_) (by simp only [List.getElem?_toArray, List.getElem?_cons_succ, List.getElem?_cons_zero]; rfl) (by kernel_rfl) (by kernel_rfl) (by kernel_rfl) (by exact fun _ _ _ h => h) (Or.inl ⟨by rfl, ?_⟩) hHeld ?_
      rotate_left
      · intro W' hW'; go_simp <;> with_reducible rfl
      simp only [Act.put, List.setIfInBounds_toArray, List.set_cons_zero, List.set_cons_succ]
      refine wpAnyH_take (i := 7) (v := ?_) (by simp only [List.getElem?_toArray, List.getElem?_cons_succ, List.getElem?_cons_zero]; rfl) (by kernel_rfl) (by kernel_rfl) (by kernel_rfl) (by exact fun _ _ _ h => h) (Or.inl ⟨by rfl, ?_⟩) hHeld ?_
      rotate_left
      · intro W' hW'; go_simp <;> with_reducible rfl
      simp only [Act.put, List.setIfInBounds_toArray, List.set_cons_zero, List.set_cons_succ]
      refine wpAnyH_ready (rs := [8]) (by kernel_rfl) (by simp) ?_
      refine AllReadyH.cons (by simp only [List.getElem?_toArray, List.getElem?_cons_succ, List.getElem?_cons_zero]; rfl) (fun K hK => ?_) AllReadyH.nil
      rw [if_pos (by rfl)]
      go_simp
      refine (pickA rb _ 9 _ HH.out.1 (by omega) (by omega) (by omega)).mono ?_
      rintro e w9 ⟨z, rfl, hz, hr9, ha9⟩
      have bX := (ha9.cell (p := ⟨X, 1, none⟩) lXw (by show X ≠ rb; omega)).trans bX
      have bG := (ha9.cell (p := ⟨A .gs, g * 3, none⟩) lGw (by have := (ne.out .gs trivial).2.2.1; show A .gs ≠ rb; omega)).trans bG
      replace HH := hidE (HH.out.adv hlt ha9 hr9)
      have lXw := Nat.lt_of_lt_of_le lXw ha9.size
      have lGw := Nat.lt_of_lt_of_le lGw ha9.size
      have hS9 : S w9 := by rw [hSE]; exact ⟨bX, bG⟩
      clear hHeld hr9 ha9
      try go_wp2_with (fail)
      refine hK.out _ _ hS9 (fun hHeld => ?_)
      clear hK K
      try simp only [Act.put, List.setIfInBounds_toArray, List.set_cons_zero, List.set_cons_succ]
      refine wpAnyH_take (i := 9) (v := ?_) (by simp only [List.getElem?_toArray, List.getElem?_cons_succ, List.getElem?_cons_zero]; rfl) (by kernel_rfl) (by kernel_rfl) (by kernel_rfl) (by exact fun _ _ _ h => h) (Or.inl ⟨by rfl, ?_⟩) hHeld ?_
      rotate_left
      · intro W' hW'; go_simp <;> with_reducible rfl
      simp only [Act.put, List.setIfInBounds_toArray, List.set_cons_zero, List.set_cons_succ]
      refine wpAnyH_take (i := 10) (v := ?_) (by simp only [List.getElem?_toArray, List.getElem?_cons_succ, List.getElem?_cons_zero]; rfl) (by kernel_rfl) (by kernel_rfl) (by kernel_rfl) (by exact fun _ _ _ h => h) (Or.inl ⟨by rfl, ?_⟩) hHeld ?_
      rotate_left
      · intro W' hW'; go_simp <;> with_reducible rfl
      simp only [Act.put, List.setIfInBounds_toArray, List.set_cons_zero, List.set_cons_succ]
      clear x0 x1 x2 c0 c1 c2 hXl r0 r1 r2 f0 f1 f2 hRl q1 q2 q3 qf q4 u0 u1 u2 uf0 uf1 uf2 d0 df t0 t1 t2 t3 t4 t5 t6 t7 lG lM lR lS lD hr
      obtain ⟨⟨⟨x0, x1, x2⟩, ⟨c0, c1, c2⟩, hXl, ⟨r0, r1, r2⟩, ⟨f0, f1, f2⟩, hRl⟩, ⟨m1, m2, m3, dc, q1, q2, q3, qf, q4⟩, ⟨ub, uz, uc, u0, u1, u2, uf0, uf1, uf2⟩, ⟨dz, d0, df⟩, ⟨sv0, sv1, sv2, sv3, t0, t1, t2, t3, t4, t5, t6, t7⟩, ⟨lG, lM, lR, lS, lD⟩, hr⟩ := HH.out.facts hl hgn hp6
      have hSf : S (w9.setCell ⟨A (.maps g), p * 3 + 1, none⟩ (.int .i64 (z : Int))) := by rw [hSE]; exact ⟨(eoff w9 _ _ _ _ _ eM2).trans bX, (eoff w9 _ _ _ _ _ nGM).trans bG⟩
      refine wpAnyH_ready (rs := [11]) (by kernel_rfl) (by simp) ?_
      refine AllReadyH.cons (by simp only [List.getElem?_toArray, List.getElem?_cons_succ, List.getElem?_cons_zero]; rfl) (fun K hK => ?_) AllReadyH.nil
      rw [if_pos (by rfl)]
      go_simp
      refine hK.out _ _ hSf (fun hHeld => ?_)
      clear hK K
      try simp only [Act.put, List.setIfInBounds_toArray, List.set_cons_zero, List.set_cons_succ]
      refine wpAnyH_done (by kernel_rfl) ?_ _
      clear hHeld hSd hSf hS9
      go_wp2_with (fail)
      refine bodyPost_ret (v := .agg #[.slice (some ⟨A .fr, 0, none⟩) 8 cf, .slice (some ⟨A .gs, 0, none⟩) n cg, .int .i64 h.hand]) (by simp [results, Try.results45, go_sem, *]) rfl ?_
      exact FinH.below (hfin.out (w9.setCell ⟨A (.maps g), p * 3 + 1, none⟩ (.int .i64 (z : Int))) (kz + 1) (.slice (some ⟨A .fr, 0, none⟩) 8 cf) (.slice (some ⟨A .gs, 0, none⟩) n cg) _ (drawnAt_sep (HH.out.2.2.2.2.2.2.2.1.mapF hg' hp6 z) (wfs_setM wf hg' (wf_nine (by omega) (by omega))) (hl2 _) cf cg) (HH.out.1.other _ _ (ne.out (.maps g) hgn).2.2.1 _) (HH.out.2.1.setCell (p := ⟨A (.maps g), p * 3 + 1, none⟩) (Or.inr (ne.out (.maps g) hgn).2.2.2) _) (by omega) ⟨_, _, _, rfl, by omega, by omega⟩ (.slice (some ⟨A .fr, 0, none⟩) 8 cf) (.slice (some ⟨A .gs, 0, none⟩) n cg) (.int .i64 h.hand) _ (rfl)) hlt (by (repeat' (with_reducible (first | exact Below.refl _ _ | apply Below.setCell | apply Below.alloc | apply below_drewN | apply Below.drew))) <;> (first | exact Nat.le_refl _ | (simp; done) | (simp; omega)))

    · --CASE5
      obtain ⟨⟨⟨x0, x1, x2⟩, ⟨c0, c1, c2⟩, hXl, ⟨r0, r1, r2⟩, ⟨f0, f1, f2⟩, hRl⟩, ⟨m1, m2, m3, dc, q1, q2, q3, qf, q4⟩, ⟨ub, uz, uc, u0, u1, u2, uf0, uf1, uf2⟩, ⟨dz, d0, df⟩, ⟨sv0, sv1, sv2, sv3, t0, t1, t2, t3, t4, t5, t6, t7⟩, ⟨lG, lM, lR, lS, lD⟩, hr⟩ := H8.out.facts hl hgn hp6
      go_wp2_with (fail)
      all_goals
        refine bodyPost_ret (v := .agg #[.slice (some ⟨A .fr, 0, none⟩) 8 cf, .slice (some ⟨A .gs, 0, none⟩) n cg, .int .i64 h.hand]) (by simp [results, Try.results45, go_sem, *]) rfl ?_
        exact FinH.below (hfin.out (w8.setCell ⟨A (.dsk g p), 0, none⟩ (.int .i64 1)) kz (.slice (some ⟨A .fr, 0, none⟩) 8 cf) (.slice (some ⟨A .gs, 0, none⟩) n cg) _ (drawnAt_sep (hS8.out.dword hg' hp6 0 1) (wfs_setG wf (fun p hp => wf g hg' p hp)) (hl2 _) cf cg) (hr.other _ _ (ne.out (.dsk g p) ⟨hgn, hp6⟩).2.2.1 _) (ha8.out.setCell (p := ⟨A (.dsk g p), 0, none⟩) (Or.inr (ne.out ((.dsk g p)) ⟨hgn, hp6⟩).2.2.2) _) (by omega) ⟨_, _, _, rfl, by omega, by omega⟩ (.slice (some ⟨A .fr, 0, none⟩) 8 cf) (.slice (some ⟨A .gs, 0, none⟩) n cg) (.int .i64 h.hand) _ (rfl)) hlt (by (repeat' (with_reducible (first | exact Below.refl _ _ | apply Below.setCell | apply Below.alloc | apply below_drewN | apply Below.drew))) <;> (first | exact Nat.le_refl _ | (simp; done) | (simp; omega)))
    · --CASE6
      obtain ⟨⟨⟨x0, x1, x2⟩, ⟨c0, c1, c2⟩, hXl, ⟨r0, r1, r2⟩, ⟨f0, f1, f2⟩, hRl⟩, ⟨m1, m2, m3, dc, q1, q2, q3, qf, q4⟩, ⟨ub, uz, uc, u0, u1, u2, uf0, uf1, uf2⟩, ⟨dz, d0, df⟩, ⟨sv0, sv1, sv2, sv3, t0, t1, t2, t3, t4, t5, t6, t7⟩, ⟨lG, lM, lR, lS, lD⟩, hr⟩ := H8.out.facts hl hgn hp6
      go_wp2_with (fail)
      have eoff := fun (V : World) (b i j : Nat) (u : Value) (t : Nat) (ht : b ≠ t) => World.cell?_of_block (a := ⟨b, i, none⟩) (Below.heap_setCell V ⟨t, j, none⟩ u b (by simpa using ht))
      have nGS : A .gs ≠ A (.shd g) := fun e => by have := hS8.out.inj .gs (.shd g) trivial hg' e; cases this
      obtain ⟨S, hSE⟩ : ∃ S : World → Prop, S = fun W' => W'.cell? ⟨X, 1, none⟩ = some (.slice (some ⟨A .gs, 0, none⟩) n cg) ∧ W'.cell? ⟨A .gs, g * 3 + 2, none⟩ = some (.slice (some ⟨A (.shd g), 0, none⟩) 6 m3) := ⟨_, rfl⟩
      have hcells : ∀ W', S W' → W'.cell? ⟨X, 1, none⟩ = some (.slice (some ⟨A .gs, 0, none⟩) n cg) ∧ W'.cell? ⟨A .gs, g * 3 + 2, none⟩ = some (.slice (some ⟨A (.shd g), 0, none⟩) 6 m3) := fun W' h => by rw [hSE] at h; exact h
      have hSd : S w8.drew := by rw [hSE]; exact ⟨x1, q3⟩
      have HH := hidE (H8.out.adv hlt ((Adv.refl _ _).drew) hr.drew)
      have bX := x1
      have lXw : X < w8.drew.heap.size := hXl
      have lGw : A .gs < w8.drew.heap.size := lG
      have bX : w8.drew.cell? ⟨X, 1, none⟩ = _ := x1
      have bG : w8.drew.cell? ⟨A .gs, g * 3 + 2, none⟩ = _ := q3
      refine wp_region_held_drew (S := S) (by kernel_rfl) hSd (fun hHeld => ?_)
      refine wpAnyH_take (i := 0) (v := ?_) (by simp only [List.getElem?_toArray, List.getElem?_cons_succ, List.getElem?_cons_zero]; rfl) (by kernel_rfl) (by kernel_rfl) (by kernel_rfl) (by exact fun _ _ _ h => h) (Or.inl ⟨by rfl, ?_⟩) hHeld ?_
      rotate_left
      · intro W' hW'; go_simp <;> with_reducible rfl
      simp only [Act.put, List.setIfInBounds_toArray, List.set_cons_zero, List.set_cons_succ]
      refine wpAnyH_take (i := 1) (v := ?_) (by simp only [List.getElem?_toArray, List.getElem?_cons_succ, List.getElem?_cons_zero]; rfl) (by kernel_rfl) (by kernel_rfl) (by kernel_rfl) (by exact fun _ _ _ h => h) (Or.inl ⟨by rfl, ?_⟩) hHeld ?_
      rotate_left
      · intro W' hW'; obtain ⟨v0,v1⟩ := hcells W' hW'; go_simp <;> with_reducible rfl
      simp only [Act.put, List.setIfInBounds_toArray, List.set_cons_zero, List.set_cons_succ]
      refine wpAnyH_take (i := 2) (v := ?_) (by simp only [List.getElem?_toArray, List.getElem?_cons_succ, List.getElem?_cons_zero]; rfl) (by kernel_rfl) (by kernel_rfl) (by kernel_rfl) (by exact fun _ _ _ h => h) (Or.inl ⟨by rfl, ?_⟩) hHeld ?_
      rotate_left
      · intro W' hW'; go_simp <;> with_reducible rfl
      simp only [Act.put, List.setIfInBounds_toArray, List.set_cons_zero, List.set_cons_succ]
      refine wpAnyH_take (i := 3) (v := ?_) (by simp only [List.getElem?_toArray, List.getElem?_cons_succ, List.getElem?_cons_zero]; rfl) (by kernel_rfl) (by kernel_rfl) (by kernel_rfl) (by exact fun _ _ _ h => h) (Or.inl ⟨by rfl, ?_⟩) hHeld ?_
      rotate_left
      · intro W' hW'; go_simp <;> with_reducible rfl
      simp only [Act.put, List.setIfInBounds_toArray, List.set_cons_zero, List.set_cons_succ]
      refine wpAnyH_take (i := 4) (v := ?_) (by simp only [List.getElem?_toArray, List.getElem?_cons_succ, List.getElem?_cons_zero]; rfl) (by kernel_rfl) (by kernel_rfl) (by kernel_rfl) (by exact fun _ _ _ h => h) (Or.inl ⟨by rfl, ?_⟩) hHeld ?_
      rotate_left
      · intro W' hW'; go_simp <;> with_reducible rfl
      simp only [Act.put, List.setIfInBounds_toArray, List.set_cons_zero, List.set_cons_succ]
      refine wpAnyH_take (i := 5) (v := ?_) (by simp only [List.getElem?_toArray, List.getElem?_cons_succ, List.getElem?_cons_zero]; rfl) (by kernel_rfl) (by kernel_rfl) (by kernel_rfl) (by exact fun _ _ _ h => h) (Or.inl ⟨by rfl, ?_⟩) hHeld ?_
      rotate_left
      · intro W' hW'; obtain ⟨v0,v1⟩ := hcells W' hW'; go_simp <;> with_reducible rfl
      simp only [Act.put, List.setIfInBounds_toArray, List.set_cons_zero, List.set_cons_succ]
      refine wpAnyH_take (i := 6) (v := ?_) (by simp only [List.getElem?_toArray, List.getElem?_cons_succ, List.getElem?_cons_zero]; rfl) (by kernel_rfl) (by kernel_rfl) (by kernel_rfl) (by exact fun _ _ _ h => h) (Or.inl ⟨by rfl, ?_⟩) hHeld ?_
      rotate_left
      · intro W' hW'; go_simp <;> with_reducible rfl
      simp only [Act.put, List.setIfInBounds_toArray, List.set_cons_zero, List.set_cons_succ]
      refine wpAnyH_take (i := 7) (v := ?_) (by simp only [List.getElem?_toArray, List.getElem?_cons_succ, List.getElem?_cons_zero]; rfl) (by kernel_rfl) (by kernel_rfl) (by kernel_rfl) (by exact fun _ _ _ h => h) (Or.inl ⟨by rfl, ?_⟩) hHeld ?_
      rotate_left
      · intro W' hW'; go_simp <;> with_reducible rfl
      simp only [Act.put, List.setIfInBounds_toArray, List.set_cons_zero, List.set_cons_succ]
      refine wpAnyH_take (i := 9) (v := ?_) (by simp only [List.getElem?_toArray, List.getElem?_cons_succ, List.getElem?_cons_zero]; rfl) (by kernel_rfl) (by kernel_rfl) (by kernel_rfl) (by exact fun _ _ _ h => h) (Or.inl ⟨by rfl, ?_⟩) hHeld ?_
      rotate_left
      · intro W' hW'; go_simp <;> with_reducible rfl
      simp only [Act.put, List.setIfInBounds_toArray, List.set_cons_zero, List.set_cons_succ]
      refine wpAnyH_take (i := 11) (v := ?_) (by simp only [List.getElem?_toArray, List.getElem?_cons_succ, List.getElem?_cons_zero]; rfl) (by kernel_rfl) (by kernel_rfl) (by kernel_rfl) (by exact fun _ _ _ h => h) (Or.inl ⟨by rfl, ?_⟩) hHeld ?_
      rotate_left
      · intro W' hW'; go_simp <;> with_reducible rfl
      simp only [Act.put, List.setIfInBounds_toArray, List.set_cons_zero, List.set_cons_succ]
      refine wpAnyH_ready (rs := [8]) (by kernel_rfl) (by simp) ?_
      refine AllReadyH.cons (by simp only [List.getElem?_toArray, List.getElem?_cons_succ, List.getElem?_cons_zero]; rfl) (fun K hK => ?_) AllReadyH.nil
      rw [if_pos (by rfl)]
      go_simp
      refine (pickA rb _ 6 _ HH.out.1 (by omega) (by omega) (by omega)).mono ?_
      rintro e w9 ⟨y1, rfl, hy1, hr9, ha9⟩
      have bX := (ha9.cell (p := ⟨X, 1, none⟩) lXw (by show X ≠ rb; omega)).trans bX
      have bG := (ha9.cell (p := ⟨A .gs, g * 3 + 2, none⟩) lGw (by have := (ne.out .gs trivial).2.2.1; show A .gs ≠ rb; omega)).trans bG
      replace HH := hidE (HH.out.adv hlt ha9 hr9)
      have lXw := Nat.lt_of_lt_of_le lXw ha9.size
      have lGw := Nat.lt_of_lt_of_le lGw ha9.size
      have hS9 : S w9 := by rw [hSE]; exact ⟨bX, bG⟩
      clear hHeld hr9 ha9
      try go_wp2_with (fail)
      refine hK.out _ _ hS9 (fun hHeld => ?_)
      clear hK K
      try simp only [Act.put, List.setIfInBounds_toArray, List.set_cons_zero, List.set_cons_succ]
      refine wpAnyH_ready (rs := [10]) (by kernel_rfl) (by simp) ?_
      refine AllReadyH.cons (by simp only [List.getElem?_toArray, List.getElem?_cons_succ, List.getElem?_cons_zero]; rfl) (fun K hK => ?_) AllReadyH.nil
      rw [if_pos (by rfl)]
      go_simp
      refine (pickA rb _ 8 _ HH.out.1 (by omega) (by omega) (by omega)).mono ?_
      rintro e w9 ⟨y2, rfl, hy2, hr9, ha9⟩
      have bX := (ha9.cell (p := ⟨X, 1, none⟩) lXw (by show X ≠ rb; omega)).trans bX
      have bG := (ha9.cell (p := ⟨A .gs, g * 3 + 2, none⟩) lGw (by have := (ne.out .gs trivial).2.2.1; show A .gs ≠ rb; omega)).trans bG
      replace HH := hidE (HH.out.adv hlt ha9 hr9)
      have lXw := Nat.lt_of_lt_of_le lXw ha9.size
      have lGw := Nat.lt_of_lt_of_le lGw ha9.size
      have hS9 : S w9 := by rw [hSE]; exact ⟨bX, bG⟩
      clear hHeld hr9 ha9
      try go_wp2_with (fail)
      refine hK.out _ _ hS9 (fun hHeld => ?_)
      clear hK K
      try simp only [Act.put, List.setIfInBounds_toArray, List.set_cons_zero, List.set_cons_succ]
      refine wpAnyH_ready (rs := [12]) (by kernel_rfl) (by simp) ?_
      refine AllReadyH.cons (by simp only [List.getElem?_toArray, List.getElem?_cons_succ, List.getElem?_cons_zero]; rfl) (fun K hK => ?_) AllReadyH.nil
      rw [if_pos (by rfl)]
      go_simp
      refine (pickA rb _ 2 _ HH.out.1 (by omega) (by omega) (by omega)).mono ?_
      rintro e w9 ⟨y3, rfl, hy3, hr9, ha9⟩
      have bX := (ha9.cell (p := ⟨X, 1, none⟩) lXw (by show X ≠ rb; omega)).trans bX
      have bG := (ha9.cell (p := ⟨A .gs, g * 3 + 2, none⟩) lGw (by have := (ne.out .gs trivial).2.2.1; show A .gs ≠ rb; omega)).trans bG
      replace HH := hidE (HH.out.adv hlt ha9 hr9)
      have lXw := Nat.lt_of_lt_of_le lXw ha9.size
      have lGw := Nat.lt_of_lt_of_le lGw ha9.size
      have hS9 : S w9 := by rw [hSE]; exact ⟨bX, bG⟩
      clear hHeld hr9 ha9
      try go_wp2_with (fail)
      refine hK.out _ _ hS9 (fun hHeld => ?_)
      clear hK K
      try simp only [Act.put, List.setIfInBounds_toArray, List.set_cons_zero, List.set_cons_succ]
      refine wpAnyH_take (i := 13) (v := ?_) (by simp only [List.getElem?_toArray, List.getElem?_cons_succ, List.getElem?_cons_zero]; rfl) (by kernel_rfl) (by kernel_rfl) (by kernel_rfl) (by exact fun _ _ _ h => h) (Or.inl ⟨by rfl, ?_⟩) hHeld ?_
      rotate_left
      · intro W' hW'; go_simp <;> with_reducible rfl
      simp only [Act.put, List.setIfInBounds_toArray, List.set_cons_zero, List.set_cons_succ]
      refine wpAnyH_take (i := 14) (v := ?_) (by simp only [List.getElem?_toArray, List.getElem?_cons_succ, List.getElem?_cons_zero]; rfl) (by kernel_rfl) (by kernel_rfl) (by kernel_rfl) (by exact fun _ _ _ h => h) (Or.inl ⟨by rfl, ?_⟩) hHeld ?_
      rotate_left
      · intro W' hW'; go_simp <;> with_reducible rfl
      simp only [Act.put, List.setIfInBounds_toArray, List.set_cons_zero, List.set_cons_succ]
      refine wpAnyH_take (i := 15) (v := ?_) (by simp only [List.getElem?_toArray, List.getElem?_cons_succ, List.getElem?_cons_zero]; rfl) (by kernel_rfl) (by kernel_rfl) (by kernel_rfl) (by exact fun _ _ _ h => h) (Or.inl ⟨by rfl, ?_⟩) hHeld ?_
      rotate_left
      · intro W' hW'; go_simp <;> with_reducible rfl
      simp only [Act.put, List.setIfInBounds_toArray, List.set_cons_zero, List.set_cons_succ]
      clear x0 x1 x2 c0 c1 c2 hXl r0 r1 r2 f0 f1 f2 hRl q1 q2 q3 qf q4 u0 u1 u2 uf0 uf1 uf2 d0 df t0 t1 t2 t3 t4 t5 t6 t7 lG lM lR lS lD hr
      obtain ⟨⟨⟨x0, x1, x2⟩, ⟨c0, c1, c2⟩, hXl, ⟨r0, r1, r2⟩, ⟨f0, f1, f2⟩, hRl⟩, ⟨m1, m2, m3, dc, q1, q2, q3, qf, q4⟩, ⟨ub, uz, uc, u0, u1, u2, uf0, uf1, uf2⟩, ⟨dz, d0, df⟩, ⟨sv0, sv1, sv2, sv3, t0, t1, t2, t3, t4, t5, t6, t7⟩, ⟨lG, lM, lR, lS, lD⟩, hr⟩ := HH.out.facts hl hgn hp6
      have hSf : S (((((w9).setCell ⟨A (.shd g), p * 4, none⟩ (.bool true)).setCell ⟨A (.shd g), p * 4 + 1, none⟩ (.int .i64 (y1 : Int))).setCell ⟨A (.shd g), p * 4 + 2, none⟩ (.int .i64 (y2 : Int))).setCell ⟨A (.shd g), p * 4 + 3, none⟩ (.bool ((y3 : Int) == 0))) := by rw [hSE]; exact ⟨(eoff _ _ _ _ _ _ eS2).trans ((eoff _ _ _ _ _ _ eS2).trans ((eoff _ _ _ _ _ _ eS2).trans ((eoff _ _ _ _ _ _ eS2).trans bX))), (eoff _ _ _ _ _ _ nGS).trans ((eoff _ _ _ _ _ _ nGS).trans ((eoff _ _ _ _ _ _ nGS).trans ((eoff _ _ _ _ _ _ nGS).trans bG)))⟩
      refine wpAnyH_ready (rs := [16]) (by kernel_rfl) (by simp) ?_
      refine AllReadyH.cons (by simp only [List.getElem?_toArray, List.getElem?_cons_succ, List.getElem?_cons_zero]; rfl) (fun K hK => ?_) AllReadyH.nil
      rw [if_pos (by rfl)]
      go_simp
      refine hK.out _ _ hSf (fun hHeld => ?_)
      clear hK K
      try simp only [Act.put, List.setIfInBounds_toArray, List.set_cons_zero, List.set_cons_succ]
      refine wpAnyH_done (by kernel_rfl) ?_ _
      clear hHeld hSd hSf hS9
      go_wp2_with (fail)
      refine bodyPost_ret (v := .agg #[.slice (some ⟨A .fr, 0, none⟩) 8 cf, .slice (some ⟨A .gs, 0, none⟩) n cg, .int .i64 h.hand]) (by simp [results, Try.results45, go_sem, *]) rfl ?_
      exact FinH.below (hfin.out (((((w9).setCell ⟨A (.shd g), p * 4, none⟩ (.bool true)).setCell ⟨A (.shd g), p * 4 + 1, none⟩ (.int .i64 (y1 : Int))).setCell ⟨A (.shd g), p * 4 + 2, none⟩ (.int .i64 (y2 : Int))).setCell ⟨A (.shd g), p * 4 + 3, none⟩ (.bool ((y3 : Int) == 0))) (kz + 1 + 1 + 1) (.slice (some ⟨A .fr, 0, none⟩) 8 cf) (.slice (some ⟨A .gs, 0, none⟩) n cg) _ (drawnAt_sep (show SepH (((((w9).setCell ⟨A (.shd g), p * 4, none⟩ (.bool true)).setCell ⟨A (.shd g), p * 4 + 1, none⟩ (.int .i64 (y1 : Int))).setCell ⟨A (.shd g), p * 4 + 2, none⟩ (.int .i64 (y2 : Int))).setCell ⟨A (.shd g), p * 4 + 3, none⟩ (.bool ((y3 : Int) == 0))) lo A _ from HH.out.2.2.2.2.2.2.2.1.shade hg' hp6 (true, (y1 : Int), (y2 : Int), ((y3 : Int) == 0))) (wfs_setG wf (fun p hp => wf g hg' p hp)) (hl2 _) cf cg) ((((HH.out.1.other _ _ (ne.out (.shd g) hgn).2.2.1 _).other _ _ (ne.out (.shd g) hgn).2.2.1 _).other _ _ (ne.out (.shd g) hgn).2.2.1 _).other _ _ (ne.out (.shd g) hgn).2.2.1 _) ((((HH.out.2.1.setCell (p := ⟨A (.shd g), p * 4, none⟩) (Or.inr (ne.out (.shd g) hgn).2.2.2) _).setCell (p := ⟨A (.shd g), p * 4 + 1, none⟩) (Or.inr (ne.out (.shd g) hgn).2.2.2) _).setCell (p := ⟨A (.shd g), p * 4 + 2, none⟩) (Or.inr (ne.out (.shd g) hgn).2.2.2) _).setCell (p := ⟨A (.shd g), p * 4 + 3, none⟩) (Or.inr (ne.out (.shd g) hgn).2.2.2) _) (by omega) ⟨_, _, _, rfl, by omega, by omega⟩ (.slice (some ⟨A .fr, 0, none⟩) 8 cf) (.slice (some ⟨A .gs, 0, none⟩) n cg) (.int .i64 h.hand) _ (rfl)) hlt (by (repeat' (with_reducible (first | exact Below.refl _ _ | apply Below.setCell | apply Below.alloc | apply below_drewN | apply Below.drew))) <;> (first | exact Nat.le_refl _ | (simp; done) | (simp; omega)))

    · --CASE7
      obtain ⟨⟨⟨x0, x1, x2⟩, ⟨c0, c1, c2⟩, hXl, ⟨r0, r1, r2⟩, ⟨f0, f1, f2⟩, hRl⟩, ⟨m1, m2, m3, dc, q1, q2, q3, qf, q4⟩, ⟨ub, uz, uc, u0, u1, u2, uf0, uf1, uf2⟩, ⟨dz, d0, df⟩, ⟨sv0, sv1, sv2, sv3, t0, t1, t2, t3, t4, t5, t6, t7⟩, ⟨lG, lM, lR, lS, lD⟩, hr⟩ := H8.out.facts hl hgn hp6
      obtain ⟨⟨z1, p1⟩, ⟨z2, p2⟩, z3, p3⟩ := (hS8.out.held .gs trivial).1 0 (by omega)
      rw [Nat.zero_mul] at p1
      rw [Nat.zero_mul, Nat.zero_add] at p2 p3
      have hn0 : (0 : Int) < (n : Int) := by omega
      have hn00 : 0 < n := by omega
      obtain ⟨T, c7, w9, happ, hB9, hk9, ⟨P1, P2, P3⟩, hfd⟩ := drawn_twice (hS8.out.belowK ((Below.refl _ _).drew)) wf hl h1 hsp p1 p2 p3 cf (X := X) hXl (fun x hx => H8.out.2.2.2.2.2.2.2.2 x hx)
      simp only [World.size_drew, World.alloc_drew] at happ
      have eX9 := hk9 X hXl (Ne.symm (ne.out .gs trivial).1)
      have eR9 := hk9 w.heap.size hRl (Ne.symm (ne.out .gs trivial).2.1)
      obtain ⟨y0, y1, y2, g0, g1, g2⟩ := (show Var3 w8.drew X _ _ _ from ⟨x0, x1, x2, c0, c1, c2⟩).same eX9
      obtain ⟨v0, v1, v2, i0, i1, i2⟩ := (show Var3 w8.drew w.heap.size _ _ _ from ⟨r0, r1, r2, f0, f1, f2⟩).same eR9
      have s9 := hB9.size
      rw [World.size_drew] at s9
      have l9 : X < w9.heap.size := by omega
      have l9R : w.heap.size < w9.heap.size := by omega
      go_wp2_with (fail)
      obtain ⟨S, hSE⟩ : ∃ S : World → Prop, S = fun W' => W'.cell? ⟨A .gs, 0, none⟩ = some (.slice (some ⟨A (.maps 0), 0, none⟩) 6 z1) ∧ W'.cell? ⟨A .gs, 1, none⟩ = some (.slice (some ⟨A (.row 0), 0, none⟩) 6 z2) ∧ W'.cell? ⟨A .gs, 2, none⟩ = some (.slice (some ⟨A (.shd 0), 0, none⟩) 6 z3) := ⟨_, rfl⟩
      have hcells : ∀ W', S W' → W'.cell? ⟨A .gs, 0, none⟩ = some (.slice (some ⟨A (.maps 0), 0, none⟩) 6 z1) ∧ W'.cell? ⟨A .gs, 1, none⟩ = some (.slice (some ⟨A (.row 0), 0, none⟩) 6 z2) ∧ W'.cell? ⟨A .gs, 2, none⟩ = some (.slice (some ⟨A (.shd 0), 0, none⟩) 6 z3) := fun W' h => by rw [hSE] at h; exact h
      have hSd : S w8.drew := by rw [hSE]; exact ⟨p1, p2, p3⟩
      have bSa : Below w8.heap.size w8 (w8.alloc (.cells #[.slice (some ⟨A (.maps 0), 0, none⟩) 6 z1, .slice (some ⟨A (.row 0), 0, none⟩) 6 z2, .slice (some ⟨A (.shd 0), 0, none⟩) 6 z3, .slice (some ⟨A (.maps 0), 0, none⟩) 6 z1, .slice (some ⟨A (.row 0), 0, none⟩) 6 z2, .slice (some ⟨A (.shd 0), 0, none⟩) 6 z3] 39)).drew := ((Below.refl _ _).alloc (Nat.le_refl _) _).drew
      have hSa : S (w8.alloc (.cells #[.slice (some ⟨A (.maps 0), 0, none⟩) 6 z1, .slice (some ⟨A (.row 0), 0, none⟩) 6 z2, .slice (some ⟨A (.shd 0), 0, none⟩) 6 z3, .slice (some ⟨A (.maps 0), 0, none⟩) 6 z1, .slice (some ⟨A (.row 0), 0, none⟩) 6 z2, .slice (some ⟨A (.shd 0), 0, none⟩) 6 z3] 39)).drew := by rw [hSE]; exact ⟨(bSa.cell (p := ⟨A .gs, 0, none⟩) lG).trans p1, (bSa.cell (p := ⟨A .gs, 1, none⟩) lG).trans p2, (bSa.cell (p := ⟨A .gs, 2, none⟩) lG).trans p3⟩
      have hS9 : S w9 := by rw [hSE]; exact ⟨P1, P2, P3⟩
      have hSf : S (w9.setCell ⟨X, 1, none⟩ (.slice (some ⟨T, 0, none⟩) (n + 2) c7)) := by
        have e := fun (b j : Nat) (hb : b ≠ X) => World.cell?_of_block (a := ⟨b, j, none⟩) (Below.heap_setCell w9 ⟨X, 1, none⟩ (.slice (some ⟨T, 0, none⟩) (n + 2) c7) b (by simpa using hb))
        rw [hSE]; exact ⟨(e _ _ eG).trans P1, (e _ _ eG).trans P2, (e _ _ eG).trans P3⟩
      clear bSa P1 P2 P3 u0 u1 u2 uf0 uf1 uf2 d0 df t0 t1 t2 t3 t4 t5 t6 t7 q1 q2 q3 qf q4
      obtain ⟨h', e1, hd⟩ := hfd (w9.setCell ⟨X, 1, none⟩ (.slice (some ⟨T, 0, none⟩) (n + 2) c7)) (by simp) (fun j hj => Below.heap_setCell _ _ _ _ (by simpa using hj))
      refine wp_region_held_drew (S := S) (by kernel_rfl) hSd (fun hHeld => ?_)
      refine wpAnyH_take (i := 0) (v := ?_) (by simp only [List.getElem?_toArray, List.getElem?_cons_succ, List.getElem?_cons_zero]; rfl) (by kernel_rfl) (by kernel_rfl) (by kernel_rfl) (by exact fun _ _ _ h => h) (Or.inl ⟨by rfl, ?_⟩) hHeld ?_
      rotate_left
      · intro W' hW'; go_simp <;> with_reducible rfl
      simp only [Act.put, List.setIfInBounds_toArray, List.set_cons_zero, List.set_cons_succ]
      refine wpAnyH_take (i := 2) (v := ?_) (by simp only [List.getElem?_toArray, List.getElem?_cons_succ, List.getElem?_cons_zero]; rfl) (by kernel_rfl) (by kernel_rfl) (by kernel_rfl) (by exact fun _ _ _ h => h) (Or.inl ⟨by rfl, ?_⟩) hHeld ?_
      rotate_left
      · intro W' hW'; go_simp <;> with_reducible rfl
      simp only [Act.put, List.setIfInBounds_toArray, List.set_cons_zero, List.set_cons_succ]
      refine wpAnyH_take (i := 6) (v := ?_) (by simp only [List.getElem?_toArray, List.getElem?_cons_succ, List.getElem?_cons_zero]; rfl) (by kernel_rfl) (by kernel_rfl) (by kernel_rfl) (by exact fun _ _ _ h => h) (Or.inl ⟨by rfl, ?_⟩) hHeld ?_
      rotate_left
      · intro W' hW'; go_simp <;> with_reducible rfl
      simp only [Act.put, List.setIfInBounds_toArray, List.set_cons_zero, List.set_cons_succ]
      refine wpAnyH_ready (rs := [1, 3, 7]) (by kernel_rfl) (by simp) ?_
      refine AllReadyH.cons (by simp only [List.getElem?_toArray, List.getElem?_cons_succ, List.getElem?_cons_zero]; rfl) (fun K hK => ?_) (AllReadyH.cons (by simp only [List.getElem?_toArray, List.getElem?_cons_succ, List.getElem?_cons_zero]; rfl) (fun K hK => ?_) (AllReadyH.cons (by simp only [List.getElem?_toArray, List.getElem?_cons_succ, List.getElem?_cons_zero]; rfl) (fun K hK => ?_) AllReadyH.nil))
      · rw [if_pos (by rfl)]
        go_simp
        refine hK.out _ _ hSd (fun hHeld => ?_)
        clear hK K
        try simp only [Act.put, List.setIfInBounds_toArray, List.set_cons_zero, List.set_cons_succ]
        refine wpAnyH_ready (rs := [3, 7]) (by kernel_rfl) (by simp) ?_
        refine AllReadyH.cons (by simp only [List.getElem?_toArray, List.getElem?_cons_succ, List.getElem?_cons_zero]; rfl) (fun K hK => ?_) (AllReadyH.cons (by simp only [List.getElem?_toArray, List.getElem?_cons_succ, List.getElem?_cons_zero]; rfl) (fun K hK => ?_) AllReadyH.nil)
        · rw [if_pos (by rfl)]
          go_simp
          refine hK.out _ _ hSd (fun hHeld => ?_)
          clear hK K
          try simp only [Act.put, List.setIfInBounds_toArray, List.set_cons_zero, List.set_cons_succ]
          refine wpAnyH_take (i := 4) (v := ?_) (by simp only [List.getElem?_toArray, List.getElem?_cons_succ, List.getElem?_cons_zero]; rfl) (by kernel_rfl) (by kernel_rfl) (by kernel_rfl) (by exact fun _ _ _ h => h) (Or.inl ⟨by rfl, ?_⟩) hHeld ?_
          rotate_left
          · intro W' hW'; go_simp <;> with_reducible rfl
          simp only [Act.put, List.setIfInBounds_toArray, List.set_cons_zero, List.set_cons_succ]
          refine wpAnyH_take (i := 5) (v := ?_) (by simp only [List.getElem?_toArray, List.getElem?_cons_succ, List.getElem?_cons_zero]; rfl) (by kernel_rfl) (by kernel_rfl) (by kernel_rfl) (by exact fun _ _ _ h => h) (Or.inl ⟨by rfl, ?_⟩) hHeld ?_
          rotate_left
          · intro W' hW'; obtain ⟨v0,v1,v2⟩ := hcells W' hW'; go_simp <;> with_reducible rfl
          simp only [Act.put, List.setIfInBounds_toArray, List.set_cons_zero, List.set_cons_succ]
          refine wpAnyH_ready (rs := [7]) (by kernel_rfl) (by simp) ?_
          refine AllReadyH.cons (by simp only [List.getElem?_toArray, List.getElem?_cons_succ, List.getElem?_cons_zero]; rfl) (fun K hK => ?_) AllReadyH.nil
          · rw [if_pos (by rfl)]
            go_simp
            refine hK.out _ _ hSd (fun hHeld => ?_)
            clear hK K
            try simp only [Act.put, List.setIfInBounds_toArray, List.set_cons_zero, List.set_cons_succ]
            refine wpAnyH_take (i := 8) (v := ?_) (by simp only [List.getElem?_toArray, List.getElem?_cons_succ, List.getElem?_cons_zero]; rfl) (by kernel_rfl) (by kernel_rfl) (by kernel_rfl) (by exact fun _ _ _ h => h) (Or.inl ⟨by rfl, ?_⟩) hHeld ?_
            rotate_left
            · intro W' hW'; go_simp <;> with_reducible rfl
            simp only [Act.put, List.setIfInBounds_toArray, List.set_cons_zero, List.set_cons_succ]
            refine wpAnyH_take (i := 9) (v := ?_) (by simp only [List.getElem?_toArray, List.getElem?_cons_succ, List.getElem?_cons_zero]; rfl) (by kernel_rfl) (by kernel_rfl) (by kernel_rfl) (by exact fun _ _ _ h => h) (Or.inl ⟨by rfl, ?_⟩) hHeld ?_
            rotate_left
            · intro W' hW'; obtain ⟨v0,v1,v2⟩ := hcells W' hW'; go_simp <;> with_reducible rfl
            simp only [Act.put, List.setIfInBounds_toArray, List.set_cons_zero, List.set_cons_succ]
            refine wpAnyH_ready (rs := [10]) (by kernel_rfl) (by simp) ?_
            refine AllReadyH.cons (by simp only [List.getElem?_toArray, List.getElem?_cons_succ, List.getElem?_cons_zero]; rfl) (fun K hK => ?_) AllReadyH.nil
            · rw [if_pos (by rfl)]
              go_simp
              refine hK.out _ _ hSa (fun hHeld => ?_)
              clear hK K
              try simp only [Act.put, List.setIfInBounds_toArray, List.set_cons_zero, List.set_cons_succ]
              refine wpAnyH_ready (rs := [11]) (by kernel_rfl) (by simp) ?_
              refine AllReadyH.cons (by simp only [List.getElem?_toArray, List.getElem?_cons_succ, List.getElem?_cons_zero]; rfl) (fun K hK => ?_) AllReadyH.nil
              rw [if_pos (by rfl)]
              go_simp
              refine hK.out _ _ hS9 (fun hHeld => ?_)
              clear hK K
              try simp only [Act.put, List.setIfInBounds_toArray, List.set_cons_zero, List.set_cons_succ]
              refine wpAnyH_take (i := 12) (v := ?_) (by simp only [List.getElem?_toArray, List.getElem?_cons_succ, List.getElem?_cons_zero]; rfl) (by kernel_rfl) (by kernel_rfl) (by kernel_rfl) (by exact fun _ _ _ h => h) (Or.inl ⟨by rfl, ?_⟩) hHeld ?_
              rotate_left
              · intro W' hW'; go_simp <;> with_reducible rfl
              simp only [Act.put, List.setIfInBounds_toArray, List.set_cons_zero, List.set_cons_succ]
              refine wpAnyH_ready (rs := [13]) (by kernel_rfl) (by simp) ?_
              refine AllReadyH.cons (by simp only [List.getElem?_toArray, List.getElem?_cons_succ, List.getElem?_cons_zero]; rfl) (fun K hK => ?_) AllReadyH.nil
              rw [if_pos (by rfl)]
              go_simp
              refine hK.out _ _ hSf (fun hHeld => ?_)
              clear hK K
              refine wpAnyH_done (by kernel_rfl) ?_ _
              clear hHeld
              go_wp2_with (fail)
              refine bodyPost_ret (v := .agg #[.slice (some ⟨A .fr, 0, none⟩) 8 cf, .slice (some ⟨T, 0, none⟩) (n + 2) c7, .int .i64 h.hand]) (by simp [results, Try.results45, go_sem, *]) rfl ?_
              exact FinH.below (hfin.out (w9.setCell ⟨X, 1, none⟩ (.slice (some ⟨T, 0, none⟩) (n + 2) c7)) kz (.slice (some ⟨A .fr, 0, none⟩) 8 cf) (.slice (some ⟨T, 0, none⟩) (n + 2) c7) h' (hd) (((hr.drew).below hB9 (by have := H8.out.2.2.2.2.2.2.1; omega)).other X 1 nXb _) (((ha8.out.drew).then_belowA (hB9.mono (by have := H8.out.2.2.2.2.2.2.1; omega))).setCell (p := ⟨X, 1, none⟩) (Or.inr (by have := H8.out.2.2.2.2.2.2.1; have := H8.out.2.2.2.2.1; show w.heap.size ≤ X; omega)) _) (by omega) ⟨_, _, _, rfl, by omega, by omega⟩ (.slice (some ⟨A .fr, 0, none⟩) 8 cf) (.slice (some ⟨T, 0, none⟩) (n + 2) c7) (.int .i64 h.hand) _ (by rw [e1])) hlt (by (repeat' (with_reducible (first | exact Below.refl _ _ | apply Below.setCell | apply Below.alloc | apply below_drewN | apply Below.drew))) <;> (first | exact Nat.le_refl _ | (simp; done) | (simp; omega)))
        · rw [if_pos (by rfl)]
          go_simp
          refine hK.out _ _ hSd (fun hHeld => ?_)
          clear hK K
          try simp only [Act.put, List.setIfInBounds_toArray, List.set_cons_zero, List.set_cons_succ]
          refine wpAnyH_take (i := 8) (v := ?_) (by simp only [List.getElem?_toArray, List.getElem?_cons_succ, List.getElem?_cons_zero]; rfl) (by kernel_rfl) (by kernel_rfl) (by kernel_rfl) (by exact fun _ _ _ h => h) (Or.inl ⟨by rfl, ?_⟩) hHeld ?_
          rotate_left
          · intro W' hW'; go_simp <;> with_reducible rfl
          simp only [Act.put, List.setIfInBounds_toArray, List.set_cons_zero, List.set_cons_succ]
          refine wpAnyH_take (i := 9) (v := ?_) (by simp only [List.getElem?_toArray, List.getElem?_cons_succ, List.getElem?_cons_zero]; rfl) (by kernel_rfl) (by kernel_rfl) (by kernel_rfl) (by exact fun _ _ _ h => h) (Or.inl ⟨by rfl, ?_⟩) hHeld ?_
          rotate_left
          · intro W' hW'; obtain ⟨v0,v1,v2⟩ := hcells W' hW'; go_simp <;> with_reducible rfl
          simp only [Act.put, List.setIfInBounds_toArray, List.set_cons_zero, List.set_cons_succ]
          refine wpAnyH_ready (rs := [3]) (by kernel_rfl) (by simp) ?_
          refine AllReadyH.cons (by simp only [List.getElem?_toArray, List.getElem?_cons_succ, List.getElem?_cons_zero]; rfl) (fun K hK => ?_) AllReadyH.nil
          · rw [if_pos (by rfl)]
            go_simp
            refine hK.out _ _ hSd (fun hHeld => ?_)
            clear hK K
            try simp only [Act.put, List.setIfInBounds_toArray, List.set_cons_zero, List.set_cons_succ]
            refine wpAnyH_take (i := 4) (v := ?_) (by simp only [List.getElem?_toArray, List.getElem?_cons_succ, List.getElem?_cons_zero]; rfl) (by kernel_rfl) (by kernel_rfl) (by kernel_rfl) (by exact fun _ _ _ h => h) (Or.inl ⟨by rfl, ?_⟩) hHeld ?_
            rotate_left
            · intro W' hW'; go_simp <;> with_reducible rfl
            simp only [Act.put, List.setIfInBounds_toArray, List.set_cons_zero, List.set_cons_succ]
            refine wpAnyH_take (i := 5) (v := ?_) (by simp only [List.getElem?_toArray, List.getElem?_cons_succ, List.getElem?_cons_zero]; rfl) (by kernel_rfl) (by kernel_rfl) (by kernel_rfl) (by exact fun _ _ _ h => h) (Or.inl ⟨by rfl, ?_⟩) hHeld ?_
            rotate_left
            · intro W' hW'; obtain ⟨v0,v1,v2⟩ := hcells W' hW'; go_simp <;> with_reducible rfl
            simp only [Act.put, List.setIfInBounds_toArray, List.set_cons_zero, List.set_cons_succ]
            refine wpAnyH_ready (rs := [10]) (by kernel_rfl) (by simp) ?_
            refine AllReadyH.cons (by simp only [List.getElem?_toArray, List.getElem?_cons_succ, List.getElem?_cons_zero]; rfl) (fun K hK => ?_) AllReadyH.nil
            · rw [if_pos (by rfl)]
              go_simp
              refine hK.out _ _ hSa (fun hHeld => ?_)
              clear hK K
              try simp only [Act.put, List.setIfInBounds_toArray, List.set_cons_zero, List.set_cons_succ]
              refine wpAnyH_ready (rs := [11]) (by kernel_rfl) (by simp) ?_
              refine AllReadyH.cons (by simp only [List.getElem?_toArray, List.getElem?_cons_succ, List.getElem?_cons_zero]; rfl) (fun K hK => ?_) AllReadyH.nil
              rw [if_pos (by rfl)]
              go_simp
              refine hK.out _ _ hS9 (fun hHeld => ?_)
              clear hK K
              try simp only [Act.put, List.setIfInBounds_toArray, List.set_cons_zero, List.set_cons_succ]
              refine wpAnyH_take (i := 12) (v := ?_) (by simp only [List.getElem?_toArray, List.getElem?_cons_succ, List.getElem?_cons_zero]; rfl) (by kernel_rfl) (by kernel_rfl) (by kernel_rfl) (by exact fun _ _ _ h => h) (Or.inl ⟨by rfl, ?_⟩) hHeld ?_
              rotate_left
              · intro W' hW'; go_simp <;> with_reducible rfl
              simp only [Act.put, List.setIfInBounds_toArray, List.set_cons_zero, List.set_cons_succ]
              refine wpAnyH_ready (rs := [13]) (by kernel_rfl) (by simp) ?_
              refine AllReadyH.cons (by simp only [List.getElem?_toArray, List.getElem?_cons_succ, List.getElem?_cons_zero]; rfl) (fun K hK => ?_) AllReadyH.nil
              rw [if_pos (by rfl)]
              go_simp
              refine hK.out _ _ hSf (fun hHeld => ?_)
              clear hK K
              refine wpAnyH_done (by kernel_rfl) ?_ _
              clear hHeld
              go_wp2_with (fail)
              refine bodyPost_ret (v := .agg #[.slice (some ⟨A .fr, 0, none⟩) 8 cf, .slice (some ⟨T, 0, none⟩) (n + 2) c7, .int .i64 h.hand]) (by simp [results, Try.results45, go_sem, *]) rfl ?_
              exact FinH.below (hfin.out (w9.setCell ⟨X, 1, none⟩ (.slice (some ⟨T, 0, none⟩) (n + 2) c7)) kz (.slice (some ⟨A .fr, 0, none⟩) 8 cf) (.slice (some ⟨T, 0, none⟩) (n + 2) c7) h' (hd) (((hr.drew).below hB9 (by have := H8.out.2.2.2.2.2.2.1; omega)).other X 1 nXb _) (((ha8.out.drew).then_belowA (hB9.mono (by have := H8.out.2.2.2.2.2.2.1; omega))).setCell (p := ⟨X, 1, none⟩) (Or.inr (by have := H8.out.2.2.2.2.2.2.1; have := H8.out.2.2.2.2.1; show w.heap.size ≤ X; omega)) _) (by omega) ⟨_, _, _, rfl, by omega, by omega⟩ (.slice (some ⟨A .fr, 0, none⟩) 8 cf) (.slice (some ⟨T, 0, none⟩) (n + 2) c7) (.int .i64 h.hand) _ (by rw [e1])) hlt (by (repeat' (with_reducible (first | exact Below.refl _ _ | apply Below.setCell | apply Below.alloc | apply below_drewN | apply Below.drew))) <;> (first | exact Nat.le_refl _ | (simp; done) | (simp; omega)))
      · rw [if_pos (by rfl)]
        go_simp
        refine hK.out _ _ hSd (fun hHeld => ?_)
        clear hK K
        try simp only [Act.put, List.setIfInBounds_toArray, List.set_cons_zero, List.set_cons_succ]
        refine wpAnyH_take (i := 4) (v := ?_) (by simp only [List.getElem?_toArray, List.getElem?_cons_succ, List.getElem?_cons_zero]; rfl) (by kernel_rfl) (by kernel_rfl) (by kernel_rfl) (by exact fun _ _ _ h => h) (Or.inl ⟨by rfl, ?_⟩) hHeld ?_
        rotate_left
        · intro W' hW'; go_simp <;> with_reducible rfl
        simp only [Act.put, List.setIfInBounds_toArray, List.set_cons_zero, List.set_cons_succ]
        refine wpAnyH_take (i := 5) (v := ?_) (by simp only [List.getElem?_toArray, List.getElem?_cons_succ, List.getElem?_cons_zero]; rfl) (by kernel_rfl) (by kernel_rfl) (by kernel_rfl) (by exact fun _ _ _ h => h) (Or.inl ⟨by rfl, ?_⟩) hHeld ?_
        rotate_left
        · intro W' hW'; obtain ⟨v0,v1,v2⟩ := hcells W' hW'; go_simp <;> with_reducible rfl
        simp only [Act.put, List.setIfInBounds_toArray, List.set_cons_zero, List.set_cons_succ]
        refine wpAnyH_ready (rs := [1, 7]) (by kernel_rfl) (by simp) ?_
        refine AllReadyH.cons (by simp only [List.getElem?_toArray, List.getElem?_cons_succ, List.getElem?_cons_zero]; rfl) (fun K hK => ?_) (AllReadyH.cons (by simp only [List.getElem?_toArray, List.getElem?_cons_succ, List.getElem?_cons_zero]; rfl) (fun K hK => ?_) AllReadyH.nil)
        · rw [if_pos (by rfl)]
          go_simp
          refine hK.out _ _ hSd (fun hHeld => ?_)
          clear hK K
          try simp only [Act.put, List.setIfInBounds_toArray, List.set_cons_zero, List.set_cons_succ]
          refine wpAnyH_ready (rs := [7]) (by kernel_rfl) (by simp) ?_
          refine AllReadyH.cons (by simp only [List.getElem?_toArray, List.getElem?_cons_succ, List.getElem?_cons_zero]; rfl) (fun K hK => ?_) AllReadyH.nil
          · rw [if_pos (by rfl)]
            go_simp
            refine hK.out _ _ hSd (fun hHeld => ?_)
            clear hK K
            try simp only [Act.put, List.setIfInBounds_toArray, List.set_cons_zero, List.set_cons_succ]
            refine wpAnyH_take (i := 8) (v := ?_) (by simp only [List.getElem?_toArray, List.getElem?_cons_succ, List.getElem?_cons_zero]; rfl) (by kernel_rfl) (by kernel_rfl) (by kernel_rfl) (by exact fun _ _ _ h => h) (Or.inl ⟨by rfl, ?_⟩) hHeld ?_
            rotate_left
            · intro W' hW'; go_simp <;> with_reducible rfl
            simp only [Act.put, List.setIfInBounds_toArray, List.set_cons_zero, List.set_cons_succ]
            refine wpAnyH_take (i := 9) (v := ?_) (by simp only [List.getElem?_toArray, List.getElem?_cons_succ, List.getElem?_cons_zero]; rfl) (by kernel_rfl) (by kernel_rfl) (by kernel_rfl) (by exact fun _ _ _ h => h) (Or.inl ⟨by rfl, ?_⟩) hHeld ?_
            rotate_left
            · intro W' hW'; obtain ⟨v0,v1,v2⟩ := hcells W' hW'; go_simp <;> with_reducible rfl
            simp only [Act.put, List.setIfInBounds_toArray, List.set_cons_zero, List.set_cons_succ]
            refine wpAnyH_ready (rs := [10]) (by kernel_rfl) (by simp) ?_
            refine AllReadyH.cons (by simp only [List.getElem?_toArray, List.getElem?_cons_succ, List.getElem?_cons_zero]; rfl) (fun K hK => ?_) AllReadyH.nil
            · rw [if_pos (by rfl)]
              go_simp
              refine hK.out _ _ hSa (fun hHeld => ?_)
              clear hK K
              try simp only [Act.put, List.setIfInBounds_toArray, List.set_cons_zero, List.set_cons_succ]
              refine wpAnyH_ready (rs := [11]) (by kernel_rfl) (by simp) ?_
              refine AllReadyH.cons (by simp only [List.getElem?_toArray, List.getElem?_cons_succ, List.getElem?_cons_zero]; rfl) (fun K hK => ?_) AllReadyH.nil
              rw [if_pos (by rfl)]
              go_simp
              refine hK.out _ _ hS9 (fun hHeld => ?_)
              clear hK K
              try simp only [Act.put, List.setIfInBounds_toArray, List.set_cons_zero, List.set_cons_succ]
              refine wpAnyH_take (i := 12) (v := ?_) (by simp only [List.getElem?_toArray, List.getElem?_cons_succ, List.getElem?_cons_zero]; rfl) (by kernel_rfl) (by kernel_rfl) (by kernel_rfl) (by exact fun _ _ _ h => h) (Or.inl ⟨by rfl, ?_⟩) hHeld ?_
              rotate_left
              · intro W' hW'; go_simp <;> with_reducible rfl
              simp only [Act.put, List.setIfInBounds_toArray, List.set_cons_zero, List.set_cons_succ]
              refine wpAnyH_ready (rs := [13]) (by kernel_rfl) (by simp) ?_
              refine AllReadyH.cons (by simp only [List.getElem?_toArray, List.getElem?_cons_succ, List.getElem?_cons_zero]; rfl) (fun K hK => ?_) AllReadyH.nil
              rw [if_pos (by rfl)]
              go_simp
              refine hK.out _ _ hSf (fun hHeld => ?_)
              clear hK K
              refine wpAnyH_done (by kernel_rfl) ?_ _
              clear hHeld
              go_wp2_with (fail)
              refine bodyPost_ret (v := .agg #[.slice (some ⟨A .fr, 0, none⟩) 8 cf, .slice (some ⟨T, 0, none⟩) (n + 2) c7, .int .i64 h.hand]) (by simp [results, Try.results45, go_sem, *]) rfl ?_
              exact FinH.below (hfin.out (w9.setCell ⟨X, 1, none⟩ (.slice (some ⟨T, 0, none⟩) (n + 2) c7)) kz (.slice (some ⟨A .fr, 0, none⟩) 8 cf) (.slice (some ⟨T, 0, none⟩) (n + 2) c7) h' (hd) (((hr.drew).below hB9 (by have := H8.out.2.2.2.2.2.2.1; omega)).other X 1 nXb _) (((ha8.out.drew).then_belowA (hB9.mono (by have := H8.out.2.2.2.2.2.2.1; omega))).setCell (p := ⟨X, 1, none⟩) (Or.inr (by have := H8.out.2.2.2.2.2.2.1; have := H8.out.2.2.2.2.1; show w.heap.size ≤ X; omega)) _) (by omega) ⟨_, _, _, rfl, by omega, by omega⟩ (.slice (some ⟨A .fr, 0, none⟩) 8 cf) (.slice (some ⟨T, 0, none⟩) (n + 2) c7) (.int .i64 h.hand) _ (by rw [e1])) hlt (by (repeat' (with_reducible (first | exact Below.refl _ _ | apply Below.setCell | apply Below.alloc | apply below_drewN | apply Below.drew))) <;> (first | exact Nat.le_refl _ | (simp; done) | (simp; omega)))
        · rw [if_pos (by rfl)]
          go_simp
          refine hK.out _ _ hSd (fun hHeld => ?_)
          clear hK K
          try simp only [Act.put, List.setIfInBounds_toArray, List.set_cons_zero, List.set_cons_succ]
          refine wpAnyH_take (i := 8) (v := ?_) (by simp only [List.getElem?_toArray, List.getElem?_cons_succ, List.getElem?_cons_zero]; rfl) (by kernel_rfl) (by kernel_rfl) (by kernel_rfl) (by exact fun _ _ _ h => h) (Or.inl ⟨by rfl, ?_⟩) hHeld ?_
          rotate_left
          · intro W' hW'; go_simp <;> with_reducible rfl
          simp only [Act.put, List.setIfInBounds_toArray, List.set_cons_zero, List.set_cons_succ]
          refine wpAnyH_take (i := 9) (v := ?_) (by simp only [List.getElem?_toArray, List.getElem?_cons_succ, List.getElem?_cons_zero]; rfl) (by kernel_rfl) (by kernel_rfl) (by kernel_rfl) (by exact fun _ _ _ h => h) (Or.inl ⟨by rfl, ?_⟩) hHeld ?_
          rotate_left
          · intro W' hW'; obtain ⟨v0,v1,v2⟩ := hcells W' hW'; go_simp <;> with_reducible rfl
          simp only [Act.put, List.setIfInBounds_toArray, List.set_cons_zero, List.set_cons_succ]
          refine wpAnyH_ready (rs := [1, 10]) (by kernel_rfl) (by simp) ?_
          refine AllReadyH.cons (by simp only [List.getElem?_toArray, List.getElem?_cons_succ, List.getElem?_cons_zero]; rfl) (fun K hK => ?_) (AllReadyH.cons (by simp only [List.getElem?_toArray, List.getElem?_cons_succ, List.getElem?_cons_zero]; rfl) (fun K hK => ?_) AllReadyH.nil)
          · rw [if_pos (by rfl)]
            go_simp
            refine hK.out _ _ hSd (fun hHeld => ?_)
            clear hK K
            try simp only [Act.put, List.setIfInBounds_toArray, List.set_cons_zero, List.set_cons_succ]
            refine wpAnyH_ready (rs := [10]) (by kernel_rfl) (by simp) ?_
            refine AllReadyH.cons (by simp only [List.getElem?_toArray, List.getElem?_cons_succ, List.getElem?_cons_zero]; rfl) (fun K hK => ?_) AllReadyH.nil
            · rw [if_pos (by rfl)]
              go_simp
              refine hK.out _ _ hSa (fun hHeld => ?_)
              clear hK K
              try simp only [Act.put, List.setIfInBounds_toArray, List.set_cons_zero, List.set_cons_succ]
              refine wpAnyH_ready (rs := [11]) (by kernel_rfl) (by simp) ?_
              refine AllReadyH.cons (by simp only [List.getElem?_toArray, List.getElem?_cons_succ, List.getElem?_cons_zero]; rfl) (fun K hK => ?_) AllReadyH.nil
              rw [if_pos (by rfl)]
              go_simp
              refine hK.out _ _ hS9 (fun hHeld => ?_)
              clear hK K
              try simp only [Act.put, List.setIfInBounds_toArray, List.set_cons_zero, List.set_cons_succ]
              refine wpAnyH_take (i := 12) (v := ?_) (by simp only [List.getElem?_toArray, List.getElem?_cons_succ, List.getElem?_cons_zero]; rfl) (by kernel_rfl) (by kernel_rfl) (by kernel_rfl) (by exact fun _ _ _ h => h) (Or.inl ⟨by rfl, ?_⟩) hHeld ?_
              rotate_left
              · intro W' hW'; go_simp <;> with_reducible rfl
              simp only [Act.put, List.setIfInBounds_toArray, List.set_cons_zero, List.set_cons_succ]
              refine wpAnyH_ready (rs := [13]) (by kernel_rfl) (by simp) ?_
              refine AllReadyH.cons (by simp only [List.getElem?_toArray, List.getElem?_cons_succ, List.getElem?_cons_zero]; rfl) (fun K hK => ?_) AllReadyH.nil
              rw [if_pos (by rfl)]
              go_simp
              refine hK.out _ _ hSf (fun hHeld => ?_)
              clear hK K
              refine wpAnyH_done (by kernel_rfl) ?_ _
              clear hHeld
              go_wp2_with (fail)
              refine bodyPost_ret (v := .agg #[.slice (some ⟨A .fr, 0, none⟩) 8 cf, .slice (some ⟨T, 0, none⟩) (n + 2) c7, .int .i64 h.hand]) (by simp [results, Try.results45, go_sem, *]) rfl ?_
              exact FinH.below (hfin.out (w9.setCell ⟨X, 1, none⟩ (.slice (some ⟨T, 0, none⟩) (n + 2) c7)) kz (.slice (some ⟨A .fr, 0, none⟩) 8 cf) (.slice (some ⟨T, 0, none⟩) (n + 2) c7) h' (hd) (((hr.drew).below hB9 (by have := H8.out.2.2.2.2.2.2.1; omega)).other X 1 nXb _) (((ha8.out.drew).then_belowA (hB9.mono (by have := H8.out.2.2.2.2.2.2.1; omega))).setCell (p := ⟨X, 1, none⟩) (Or.inr (by have := H8.out.2.2.2.2.2.2.1; have := H8.out.2.2.2.2.1; show w.heap.size ≤ X; omega)) _) (by omega) ⟨_, _, _, rfl, by omega, by omega⟩ (.slice (some ⟨A .fr, 0, none⟩) 8 cf) (.slice (some ⟨T, 0, none⟩) (n + 2) c7) (.int .i64 h.hand) _ (by rw [e1])) hlt (by (repeat' (with_reducible (first | exact Below.refl _ _ | apply Below.setCell | apply Below.alloc | apply below_drewN | apply Below.drew))) <;> (first | exact Nat.le_refl _ | (simp; done) | (simp; omega)))
          · rw [if_pos (by rfl)]
            go_simp
            refine hK.out _ _ hSa (fun hHeld => ?_)
            clear hK K
            try simp only [Act.put, List.setIfInBounds_toArray, List.set_cons_zero, List.set_cons_succ]
            refine wpAnyH_ready (rs := [1]) (by kernel_rfl) (by simp) ?_
            refine AllReadyH.cons (by simp only [List.getElem?_toArray, List.getElem?_cons_succ, List.getElem?_cons_zero]; rfl) (fun K hK => ?_) AllReadyH.nil
            · rw [if_pos (by rfl)]
              go_simp
              refine hK.out _ _ hSa (fun hHeld => ?_)
              clear hK K
              try simp only [Act.put, List.setIfInBounds_toArray, List.set_cons_zero, List.set_cons_succ]
              refine wpAnyH_ready (rs := [11]) (by kernel_rfl) (by simp) ?_
              refine AllReadyH.cons (by simp only [List.getElem?_toArray, List.getElem?_cons_succ, List.getElem?_cons_zero]; rfl) (fun K hK => ?_) AllReadyH.nil
              rw [if_pos (by rfl)]
              go_simp
              refine hK.out _ _ hS9 (fun hHeld => ?_)
              clear hK K
              try simp only [Act.put, List.setIfInBounds_toArray, List.set_cons_zero, List.set_cons_succ]
              refine wpAnyH_take (i := 12) (v := ?_) (by simp only [List.getElem?_toArray, List.getElem?_cons_succ, List.getElem?_cons_zero]; rfl) (by kernel_rfl) (by kernel_rfl) (by kernel_rfl) (by exact fun _ _ _ h => h) (Or.inl ⟨by rfl, ?_⟩) hHeld ?_
              rotate_left
              · intro W' hW'; go_simp <;> with_reducible rfl
              simp only [Act.put, List.setIfInBounds_toArray, List.set_cons_zero, List.set_cons_succ]
              refine wpAnyH_ready (rs := [13]) (by kernel_rfl) (by simp) ?_
              refine AllReadyH.cons (by simp only [List.getElem?_toArray, List.getElem?_cons_succ, List.getElem?_cons_zero]; rfl) (fun K hK => ?_) AllReadyH.nil
              rw [if_pos (by rfl)]
              go_simp
              refine hK.out _ _ hSf (fun hHeld => ?_)
              clear hK K
              refine wpAnyH_done (by kernel_rfl) ?_ _
              clear hHeld
              go_wp2_with (fail)
              refine bodyPost_ret (v := .agg #[.slice (some ⟨A .fr, 0, none⟩) 8 cf, .slice (some ⟨T, 0, none⟩) (n + 2) c7, .int .i64 h.hand]) (by simp [results, Try.results45, go_sem, *]) rfl ?_
              exact FinH.below (hfin.out (w9.setCell ⟨X, 1, none⟩ (.slice (some ⟨T, 0, none⟩) (n + 2) c7)) kz (.slice (some ⟨A .fr, 0, none⟩) 8 cf) (.slice (some ⟨T, 0, none⟩) (n + 2) c7) h' (hd) (((hr.drew).below hB9 (by have := H8.out.2.2.2.2.2.2.1; omega)).other X 1 nXb _) (((ha8.out.drew).then_belowA (hB9.mono (by have := H8.out.2.2.2.2.2.2.1; omega))).setCell (p := ⟨X, 1, none⟩) (Or.inr (by have := H8.out.2.2.2.2.2.2.1; have := H8.out.2.2.2.2.1; show w.heap.size ≤ X; omega)) _) (by omega) ⟨_, _, _, rfl, by omega, by omega⟩ (.slice (some ⟨A .fr, 0, none⟩) 8 cf) (.slice (some ⟨T, 0, none⟩) (n + 2) c7) (.int .i64 h.hand) _ (by rw [e1])) hlt (by (repeat' (with_reducible (first | exact Below.refl _ _ | apply Below.setCell | apply Below.alloc | apply below_drewN | apply Below.drew))) <;> (first | exact Nat.le_refl _ | (simp; done) | (simp; omega)))
      · rw [if_pos (by rfl)]
        go_simp
        refine hK.out _ _ hSd (fun hHeld => ?_)
        clear hK K
        try simp only [Act.put, List.setIfInBounds_toArray, List.set_cons_zero, List.set_cons_succ]
        refine wpAnyH_take (i := 8) (v := ?_) (by simp only [List.getElem?_toArray, List.getElem?_cons_succ, List.getElem?_cons_zero]; rfl) (by kernel_rfl) (by kernel_rfl) (by kernel_rfl) (by exact fun _ _ _ h => h) (Or.inl ⟨by rfl, ?_⟩) hHeld ?_
        rotate_left
        · intro W' hW'; go_simp <;> with_reducible rfl
        simp only [Act.put, List.setIfInBounds_toArray, List.set_cons_zero, List.set_cons_succ]
        refine wpAnyH_take (i := 9) (v := ?_) (by simp only [List.getElem?_toArray, List.getElem?_cons_succ, List.getElem?_cons_zero]; rfl) (by kernel_rfl) (by kernel_rfl) (by kernel_rfl) (by exact fun _ _ _ h => h) (Or.inl ⟨by rfl, ?_⟩) hHeld ?_
        rotate_left
        · intro W' hW'; obtain ⟨v0,v1,v2⟩ := hcells W' hW'; go_simp <;> with_reducible rfl
        simp only [Act.put, List.setIfInBounds_toArray, List.set_cons_zero, List.set_cons_succ]
        refine wpAnyH_ready (rs := [1, 3]) (by kernel_rfl) (by simp) ?_
        refine AllReadyH.cons (by simp only [List.getElem?_toArray, List.getElem?_cons_succ, List.getElem?_cons_zero]; rfl) (fun K hK => ?_) (AllReadyH.cons (by simp only [List.getElem?_toArray, List.getElem?_cons_succ, List.getElem?_cons_zero]; rfl) (fun K hK => ?_) AllReadyH.nil)
        · rw [if_pos (by rfl)]
          go_simp
          refine hK.out _ _ hSd (fun hHeld => ?_)
          clear hK K
          try simp only [Act.put, List.setIfInBounds_toArray, List.set_cons_zero, List.set_cons_succ]
          refine wpAnyH_ready (rs := [3]) (by kernel_rfl) (by simp) ?_
          refine AllReadyH.cons (by simp only [List.getElem?_toArray, List.getElem?_cons_succ, List.getElem?_cons_zero]; rfl) (fun K hK => ?_) AllReadyH.nil
          · rw [if_pos (by rfl)]
            go_simp
            refine hK.out _ _ hSd (fun hHeld => ?_)
            clear hK K
            try simp only [Act.put, List.setIfInBounds_toArray, List.set_cons_zero, List.set_cons_succ]
            refine wpAnyH_take (i := 4) (v := ?_) (by simp only [List.getElem?_toArray, List.getElem?_cons_succ, List.getElem?_cons_zero]; rfl) (by kernel_rfl) (by kernel_rfl) (by kernel_rfl) (by exact fun _ _ _ h => h) (Or.inl ⟨by rfl, ?_⟩) hHeld ?_
            rotate_left
            · intro W' hW'; go_simp <;> with_reducible rfl
            simp only [Act.put, List.setIfInBounds_toArray, List.set_cons_zero, List.set_cons_succ]
            refine wpAnyH_take (i := 5) (v := ?_) (by simp only [List.getElem?_toArray, List.getElem?_cons_succ, List.getElem?_cons_zero]; rfl) (by kernel_rfl) (by kernel_rfl) (by kernel_rfl) (by exact fun _ _ _ h => h) (Or.inl ⟨by rfl, ?_⟩) hHeld ?_
            rotate_left
            · intro W' hW'; obtain ⟨v0,v1,v2⟩ := hcells W' hW'; go_simp <;> with_reducible rfl
            simp only [Act.put, List.setIfInBounds_toArray, List.set_cons_zero, List.set_cons_succ]
            refine wpAnyH_ready (rs := [10]) (by kernel_rfl) (by simp) ?_
            refine AllReadyH.cons (by simp only [List.getElem?_toArray, List.getElem?_cons_succ, List.getElem?_cons_zero]; rfl) (fun K hK => ?_) AllReadyH.nil
            · rw [if_pos (by rfl)]
              go_simp
              refine hK.out _ _ hSa (fun hHeld => ?_)
              clear hK K
              try simp only [Act.put, List.setIfInBounds_toArray, List.set_cons_zero, List.set_cons_succ]
              refine wpAnyH_ready (rs := [11]) (by kernel_rfl) (by simp) ?_
              refine AllReadyH.cons (by simp only [List.getElem?_toArray, List.getElem?_cons_succ, List.getElem?_cons_zero]; rfl) (fun K hK => ?_) AllReadyH.nil
              rw [if_pos (by rfl)]
              go_simp
              refine hK.out _ _ hS9 (fun hHeld => ?_)
              clear hK K
              try simp only [Act.put, List.setIfInBounds_toArray, List.set_cons_zero, List.set_cons_succ]
              refine wpAnyH_take (i := 12) (v := ?_) (by simp only [List.getElem?_toArray, List.getElem?_cons_succ, List.getElem?_cons_zero]; rfl) (by kernel_rfl) (by kernel_rfl) (by kernel_rfl) (by exact fun _ _ _ h => h) (Or.inl ⟨by rfl, ?_⟩) hHeld ?_
              rotate_left
              · intro W' hW'; go_simp <;> with_reducible rfl
              simp only [Act.put, List.setIfInBounds_toArray, List.set_cons_zero, List.set_cons_succ]
              refine wpAnyH_ready (rs := [13]) (by kernel_rfl) (by simp) ?_
              refine AllReadyH.cons (by simp only [List.getElem?_toArray, List.getElem?_cons_succ, List.getElem?_cons_zero]; rfl) (fun K hK => ?_) AllReadyH.nil
              rw [if_pos (by rfl)]
              go_simp
              refine hK.out _ _ hSf (fun hHeld => ?_)
              clear hK K
              refine wpAnyH_done (by kernel_rfl) ?_ _
              clear hHeld
              go_wp2_with (fail)
              refine bodyPost_ret (v := .agg #[.slice (some ⟨A .fr, 0, none⟩) 8 cf, .slice (some ⟨T, 0, none⟩) (n + 2) c7, .int .i64 h.hand]) (by simp [results, Try.results45, go_sem, *]) rfl ?_
              exact FinH.below (hfin.out (w9.setCell ⟨X, 1, none⟩ (.slice (some ⟨T, 0, none⟩) (n + 2) c7)) kz (.slice (some ⟨A .fr, 0, none⟩) 8 cf) (.slice (some ⟨T, 0, none⟩) (n + 2) c7) h' (hd) (((hr.drew).below hB9 (by have := H8.out.2.2.2.2.2.2.1; omega)).other X 1 nXb _) (((ha8.out.drew).then_belowA (hB9.mono (by have := H8.out.2.2.2.2.2.2.1; omega))).setCell (p := ⟨X, 1, none⟩) (Or.inr (by have := H8.out.2.2.2.2.2.2.1; have := H8.out.2.2.2.2.1; show w.heap.size ≤ X; omega)) _) (by omega) ⟨_, _, _, rfl, by omega, by omega⟩ (.slice (some ⟨A .fr, 0, none⟩) 8 cf) (.slice (some ⟨T, 0, none⟩) (n + 2) c7) (.int .i64 h.hand) _ (by rw [e1])) hlt (by (repeat' (with_reducible (first | exact Below.refl _ _ | apply Below.setCell | apply Below.alloc | apply below_drewN | apply Below.drew))) <;> (first | exact Nat.le_refl _ | (simp; done) | (simp; omega)))
        · rw [if_pos (by rfl)]
          go_simp
          refine hK.out _ _ hSd (fun hHeld => ?_)
          clear hK K
          try simp only [Act.put, List.setIfInBounds_toArray, List.set_cons_zero, List.set_cons_succ]
          refine wpAnyH_take (i := 4) (v := ?_) (by simp only [List.getElem?_toArray, List.getElem?_cons_succ, List.getElem?_cons_zero]; rfl) (by kernel_rfl) (by kernel_rfl) (by kernel_rfl) (by exact fun _ _ _ h => h) (Or.inl ⟨by rfl, ?_⟩) hHeld ?_
          rotate_left
          · intro W' hW'; go_simp <;> with_reducible rfl
          simp only [Act.put, List.setIfInBounds_toArray, List.set_cons_zero, List.set_cons_succ]
          refine wpAnyH_take (i := 5) (v := ?_) (by simp only [List.getElem?_toArray, List.getElem?_cons_succ, List.getElem?_cons_zero]; rfl) (by kernel_rfl) (by kernel_rfl) (by kernel_rfl) (by exact fun _ _ _ h => h) (Or.inl ⟨by rfl, ?_⟩) hHeld ?_
          rotate_left
          · intro W' hW'; obtain ⟨v0,v1,v2⟩ := hcells W' hW'; go_simp <;> with_reducible rfl
          simp only [Act.put, List.setIfInBounds_toArray, List.set_cons_zero, List.set_cons_succ]
          refine wpAnyH_ready (rs := [1, 10]) (by kernel_rfl) (by simp) ?_
          refine AllReadyH.cons (by simp only [List.getElem?_toArray, List.getElem?_cons_succ, List.getElem?_cons_zero]; rfl) (fun K hK => ?_) (AllReadyH.cons (by simp only [List.getElem?_toArray, List.getElem?_cons_succ, List.getElem?_cons_zero]; rfl) (fun K hK => ?_) AllReadyH.nil)
          · rw [if_pos (by rfl)]
            go_simp
            refine hK.out _ _ hSd (fun hHeld => ?_)
            clear hK K
            try simp only [Act.put, List.setIfInBounds_toArray, List.set_cons_zero, List.set_cons_succ]
            refine wpAnyH_ready (rs := [10]) (by kernel_rfl) (by simp) ?_
            refine AllReadyH.cons (by simp only [List.getElem?_toArray, List.getElem?_cons_succ, List.getElem?_cons_zero]; rfl) (fun K hK => ?_) AllReadyH.nil
            · rw [if_pos (by rfl)]
              go_simp
              refine hK.out _ _ hSa (fun hHeld => ?_)
              clear hK K
              try simp only [Act.put, List.setIfInBounds_toArray, List.set_cons_zero, List.set_cons_succ]
              refine wpAnyH_ready (rs := [11]) (by kernel_rfl) (by simp) ?_
              refine AllReadyH.cons (by simp only [List.getElem?_toArray, List.getElem?_cons_succ, List.getElem?_cons_zero]; rfl) (fun K hK => ?_) AllReadyH.nil
              rw [if_pos (by rfl)]
              go_simp
              refine hK.out _ _ hS9 (fun hHeld => ?_)
              clear hK K
              try simp only [Act.put, List.setIfInBounds_toArray, List.set_cons_zero, List.set_cons_succ]
              refine wpAnyH_take (i := 12) (v := ?_) (by simp only [List.getElem?_toArray, List.getElem?_cons_succ, List.getElem?_cons_zero]; rfl) (by kernel_rfl) (by kernel_rfl) (by kernel_rfl) (by exact fun _ _ _ h => h) (Or.inl ⟨by rfl, ?_⟩) hHeld ?_
              rotate_left
              · intro W' hW'; go_simp <;> with_reducible rfl
              simp only [Act.put, List.setIfInBounds_toArray, List.set_cons_zero, List.set_cons_succ]
              refine wpAnyH_ready (rs := [13]) (by kernel_rfl) (by simp) ?_
              refine AllReadyH.cons (by simp only [List.getElem?_toArray, List.getElem?_cons_succ, List.getElem?_cons_zero]; rfl) (fun K hK => ?_) AllReadyH.nil
              rw [if_pos (by rfl)]
              go_simp
              refine hK.out _ _ hSf (fun hHeld => ?_)
              clear hK K
              refine wpAnyH_done (by kernel_rfl) ?_ _
              clear hHeld
              go_wp2_with (fail)
              refine bodyPost_ret (v := .agg #[.slice (some ⟨A .fr, 0, none⟩) 8 cf, .slice (some ⟨T, 0, none⟩) (n + 2) c7, .int .i64 h.hand]) (by simp [results, Try.results45, go_sem, *]) rfl ?_
              exact FinH.below (hfin.out (w9.setCell ⟨X, 1, none⟩ (.slice (some ⟨T, 0, none⟩) (n + 2) c7)) kz (.slice (some ⟨A .fr, 0, none⟩) 8 cf) (.slice (some ⟨T, 0, none⟩) (n + 2) c7) h' (hd) (((hr.drew).below hB9 (by have := H8.out.2.2.2.2.2.2.1; omega)).other X 1 nXb _) (((ha8.out.drew).then_belowA (hB9.mono (by have := H8.out.2.2.2.2.2.2.1; omega))).setCell (p := ⟨X, 1, none⟩) (Or.inr (by have := H8.out.2.2.2.2.2.2.1; have := H8.out.2.2.2.2.1; show w.heap.size ≤ X; omega)) _) (by omega) ⟨_, _, _, rfl, by omega, by omega⟩ (.slice (some ⟨A .fr, 0, none⟩) 8 cf) (.slice (some ⟨T, 0, none⟩) (n + 2) c7) (.int .i64 h.hand) _ (by rw [e1])) hlt (by (repeat' (with_reducible (first | exact Below.refl _ _ | apply Below.setCell | apply Below.alloc | apply below_drewN | apply Below.drew))) <;> (first | exact Nat.le_refl _ | (simp; done) | (simp; omega)))
          · rw [if_pos (by rfl)]
            go_simp
            refine hK.out _ _ hSa (fun hHeld => ?_)
            clear hK K
            try simp only [Act.put, List.setIfInBounds_toArray, List.set_cons_zero, List.set_cons_succ]
            refine wpAnyH_ready (rs := [1]) (by kernel_rfl) (by simp) ?_
            refine AllReadyH.cons (by simp only [List.getElem?_toArray, List.getElem?_cons_succ, List.getElem?_cons_zero]; rfl) (fun K hK => ?_) AllReadyH.nil
            · rw [if_pos (by rfl)]
              go_simp
              refine hK.out _ _ hSa (fun hHeld => ?_)
              clear hK K
              try simp only [Act.put, List.setIfInBounds_toArray, List.set_cons_zero, List.set_cons_succ]
              refine wpAnyH_ready (rs := [11]) (by kernel_rfl) (by simp) ?_
              refine AllReadyH.cons (by simp only [List.getElem?_toArray, List.getElem?_cons_succ, List.getElem?_cons_zero]; rfl) (fun K hK => ?_) AllReadyH.nil
              rw [if_pos (by rfl)]
              go_simp
              refine hK.out _ _ hS9 (fun hHeld => ?_)
              clear hK K
              try simp only [Act.put, List.setIfInBounds_toArray, List.set_cons_zero, List.set_cons_succ]
              refine wpAnyH_take (i := 12) (v := ?_) (by simp only [List.getElem?_toArray, List.getElem?_cons_succ, List.getElem?_cons_zero]; rfl) (by kernel_rfl) (by kernel_rfl) (by kernel_rfl) (by exact fun _ _ _ h => h) (Or.inl ⟨by rfl, ?_⟩) hHeld ?_
              rotate_left
              · intro W' hW'; go_simp <;> with_reducible rfl
              simp only [Act.put, List.setIfInBounds_toArray, List.set_cons_zero, List.set_cons_succ]
              refine wpAnyH_ready (rs := [13]) (by kernel_rfl) (by simp) ?_
              refine AllReadyH.cons (by simp only [List.getElem?_toArray, List.getElem?_cons_succ, List.getElem?_cons_zero]; rfl) (fun K hK => ?_) AllReadyH.nil
              rw [if_pos (by rfl)]
              go_simp
              refine hK.out _ _ hSf (fun hHeld => ?_)
              clear hK K
              refine wpAnyH_done (by kernel_rfl) ?_ _
              clear hHeld
              go_wp2_with (fail)
              refine bodyPost_ret (v := .agg #[.slice (some ⟨A .fr, 0, none⟩) 8 cf, .slice (some ⟨T, 0, none⟩) (n + 2) c7, .int .i64 h.hand]) (by simp [results, Try.results45, go_sem, *]) rfl ?_
              exact FinH.below (hfin.out (w9.setCell ⟨X, 1, none⟩ (.slice (some ⟨T, 0, none⟩) (n + 2) c7)) kz (.slice (some ⟨A .fr, 0, none⟩) 8 cf) (.slice (some ⟨T, 0, none⟩) (n + 2) c7) h' (hd) (((hr.drew).below hB9 (by have := H8.out.2.2.2.2.2.2.1; omega)).other X 1 nXb _) (((ha8.out.drew).then_belowA (hB9.mono (by have := H8.out.2.2.2.2.2.2.1; omega))).setCell (p := ⟨X, 1, none⟩) (Or.inr (by have := H8.out.2.2.2.2.2.2.1; have := H8.out.2.2.2.2.1; show w.heap.size ≤ X; omega)) _) (by omega) ⟨_, _, _, rfl, by omega, by omega⟩ (.slice (some ⟨A .fr, 0, none⟩) 8 cf) (.slice (some ⟨T, 0, none⟩) (n + 2) c7) (.int .i64 h.hand) _ (by rw [e1])) hlt (by (repeat' (with_reducible (first | exact Below.refl _ _ | apply Below.setCell | apply Below.alloc | apply below_drewN | apply Below.drew))) <;> (first | exact Nat.le_refl _ | (simp; done) | (simp; omega)))
    · --CASE8
      obtain ⟨⟨⟨x0, x1, x2⟩, ⟨c0, c1, c2⟩, hXl, ⟨r0, r1, r2⟩, ⟨f0, f1, f2⟩, hRl⟩, ⟨m1, m2, m3, dc, q1, q2, q3, qf, q4⟩, ⟨ub, uz, uc, u0, u1, u2, uf0, uf1, uf2⟩, ⟨dz, d0, df⟩, ⟨sv0, sv1, sv2, sv3, t0, t1, t2, t3, t4, t5, t6, t7⟩, ⟨lG, lM, lR, lS, lD⟩, hr⟩ := H8.out.facts hl hgn hp6
      by_cases hm : m3 = 1
      · subst hm
        have eoff := fun (V : World) (b i j : Nat) (u : Value) (t : Nat) (ht : b ≠ t) => World.cell?_of_block (a := ⟨b, i, none⟩) (Below.heap_setCell V ⟨t, j, none⟩ u b (by simpa using ht))
        obtain ⟨S, hSE⟩ : ∃ S : World → Prop, S = fun W' => W'.cell? ⟨X, 1, none⟩ = some (.slice (some ⟨A .gs, 0, none⟩) n cg) ∧ W'.cell? ⟨X, 0, none⟩ = some (.slice (some ⟨A .fr, 0, none⟩) 8 cf) := ⟨_, rfl⟩
        have hcells : ∀ W', S W' → W'.cell? ⟨X, 1, none⟩ = some (.slice (some ⟨A .gs, 0, none⟩) n cg) ∧ W'.cell? ⟨X, 0, none⟩ = some (.slice (some ⟨A .fr, 0, none⟩) 8 cf) := fun W' h => by rw [hSE] at h; exact h
        have hSd : S w8.drew := by rw [hSE]; exact ⟨x1, x0⟩
        have hSf : S (w8.setCell ⟨A .gs, g * 3 + 2, none⟩ (.slice (some ⟨A (.shd g), 0, none⟩) 5 0)).drew := by rw [hSE]; exact ⟨(eoff w8 _ _ _ _ _ eG2).trans x1, (eoff w8 _ _ _ _ _ eG2).trans x0⟩
        go_wp2_with (fail)
        refine wp_region_held_drew (S := S) (by kernel_rfl) hSd (fun hHeld => ?_)
        refine wpAnyH_take (i := 0) (v := ?_) (by simp only [List.getElem?_toArray, List.getElem?_cons_succ, List.getElem?_cons_zero]; rfl) (by kernel_rfl) (by kernel_rfl) (by kernel_rfl) (by exact fun _ _ _ h => h) (Or.inl ⟨by rfl, ?_⟩) hHeld ?_
        rotate_left
        · intro W' hW'; go_simp <;> with_reducible rfl
        simp only [Act.put, List.setIfInBounds_toArray, List.set_cons_zero, List.set_cons_succ]
        refine wpAnyH_take (i := 1) (v := ?_) (by simp only [List.getElem?_toArray, List.getElem?_cons_succ, List.getElem?_cons_zero]; rfl) (by kernel_rfl) (by kernel_rfl) (by kernel_rfl) (by exact fun _ _ _ h => h) (Or.inl ⟨by rfl, ?_⟩) hHeld ?_
        rotate_left
        · intro W' hW'; obtain ⟨v0,v1⟩ := hcells W' hW'; go_simp <;> with_reducible rfl
        simp only [Act.put, List.setIfInBounds_toArray, List.set_cons_zero, List.set_cons_succ]
        refine wpAnyH_take (i := 2) (v := ?_) (by simp only [List.getElem?_toArray, List.getElem?_cons_succ, List.getElem?_cons_zero]; rfl) (by kernel_rfl) (by kernel_rfl) (by kernel_rfl) (by exact fun _ _ _ h => h) (Or.inl ⟨by rfl, ?_⟩) hHeld ?_
        rotate_left
        · intro W' hW'; go_simp <;> with_reducible rfl
        simp only [Act.put, List.setIfInBounds_toArray, List.set_cons_zero, List.set_cons_succ]
        refine wpAnyH_take (i := 3) (v := ?_) (by simp only [List.getElem?_toArray, List.getElem?_cons_succ, List.getElem?_cons_zero]; rfl) (by kernel_rfl) (by kernel_rfl) (by kernel_rfl) (by exact fun _ _ _ h => h) (Or.inl ⟨by rfl, ?_⟩) hHeld ?_
        rotate_left
        · intro W' hW'; go_simp <;> with_reducible rfl
        simp only [Act.put, List.setIfInBounds_toArray, List.set_cons_zero, List.set_cons_succ]
        refine wpAnyH_take (i := 4) (v := ?_) (by simp only [List.getElem?_toArray, List.getElem?_cons_succ, List.getElem?_cons_zero]; rfl) (by kernel_rfl) (by kernel_rfl) (by kernel_rfl) (by exact fun _ _ _ h => h) (Or.inl ⟨by rfl, ?_⟩) hHeld ?_
        rotate_left
        · intro W' hW'; obtain ⟨v0,v1⟩ := hcells W' hW'; go_simp <;> with_reducible rfl
        simp only [Act.put, List.setIfInBounds_toArray, List.set_cons_zero, List.set_cons_succ]
        refine wpAnyH_take (i := 5) (v := ?_) (by simp only [List.getElem?_toArray, List.getElem?_cons_succ, List.getElem?_cons_zero]; rfl) (by kernel_rfl) (by kernel_rfl) (by kernel_rfl) (by exact fun _ _ _ h => h) (Or.inl ⟨by rfl, ?_⟩) hHeld ?_
        rotate_left
        · intro W' hW'; go_simp <;> with_reducible rfl
        simp only [Act.put, List.setIfInBounds_toArray, List.set_cons_zero, List.set_cons_succ]
        refine wpAnyH_take (i := 6) (v := ?_) (by simp only [List.getElem?_toArray, List.getElem?_cons_succ, List.getElem?_cons_zero]; rfl) (by kernel_rfl) (by kernel_rfl) (by kernel_rfl) (by exact fun _ _ _ h => h) (Or.inl ⟨by rfl, ?_⟩) hHeld ?_
        rotate_left
        · intro W' hW'; go_simp <;> with_reducible rfl
        simp only [Act.put, List.setIfInBounds_toArray, List.set_cons_zero, List.set_cons_succ]
        refine wpAnyH_take (i := 7) (v := ?_) (by simp only [List.getElem?_toArray, List.getElem?_cons_succ, List.getElem?_cons_zero]; rfl) (by kernel_rfl) (by kernel_rfl) (by kernel_rfl) (by exact fun _ _ _ h => h) (Or.inl ⟨by rfl, ?_⟩) hHeld ?_
        rotate_left
        · intro W' hW'; go_simp <;> with_reducible rfl
        simp only [Act.put, List.setIfInBounds_toArray, List.set_cons_zero, List.set_cons_succ]
        refine wpAnyH_ready (rs := [8]) (by kernel_rfl) (by simp) ?_
        refine AllReadyH.cons (by simp only [List.getElem?_toArray, List.getElem?_cons_succ, List.getElem?_cons_zero]; rfl) (fun K hK => ?_) AllReadyH.nil
        rw [if_pos (by rfl)]
        go_simp
        refine hK.out _ _ hSd (fun hHeld => ?_)
        clear hK K
        try simp only [Act.put, List.setIfInBounds_toArray, List.set_cons_zero, List.set_cons_succ]
        refine wpAnyH_take (i := 9) (v := ?_) (by simp only [List.getElem?_toArray, List.getElem?_cons_succ, List.getElem?_cons_zero]; rfl) (by kernel_rfl) (by kernel_rfl) (by kernel_rfl) (by exact fun _ _ _ h => h) (Or.inl ⟨by rfl, ?_⟩) hHeld ?_
        rotate_left
        · intro W' hW'; go_simp <;> with_reducible rfl
        simp only [Act.put, List.setIfInBounds_toArray, List.set_cons_zero, List.set_cons_succ]
        refine wpAnyH_take (i := 10) (v := ?_) (by simp only [List.getElem?_toArray, List.getElem?_cons_succ, List.getElem?_cons_zero]; rfl) (by kernel_rfl) (by kernel_rfl) (by kernel_rfl) (by exact fun _ _ _ h => h) (Or.inl ⟨by rfl, ?_⟩) hHeld ?_
        rotate_left
        · intro W' hW'; go_simp <;> with_reducible rfl
        simp only [Act.put, List.setIfInBounds_toArray, List.set_cons_zero, List.set_cons_succ]
        refine wpAnyH_take (i := 11) (v := ?_) (by simp only [List.getElem?_toArray, List.getElem?_cons_succ, List.getElem?_cons_zero]; rfl) (by kernel_rfl) (by kernel_rfl) (by kernel_rfl) (by exact fun _ _ _ h => h) (Or.inl ⟨by rfl, ?_⟩) hHeld ?_
        rotate_left
        · intro W' hW'; go_simp <;> with_reducible rfl
        simp only [Act.put, List.setIfInBounds_toArray, List.set_cons_zero, List.set_cons_succ]
        refine wpAnyH_ready (rs := [12]) (by kernel_rfl) (by simp) ?_
        refine AllReadyH.cons (by simp only [List.getElem?_toArray, List.getElem?_cons_succ, List.getElem?_cons_zero]; rfl) (fun K hK => ?_) AllReadyH.nil
        rw [if_pos (by rfl)]
        go_simp
        refine hK.out _ _ hSf (fun hHeld => ?_)
        clear hK K
        try simp only [Act.put, List.setIfInBounds_toArray, List.set_cons_zero, List.set_cons_succ]
        refine wpAnyH_done (by kernel_rfl) ?_ _
        clear hHeld hSd hSf
        go_wp2_with (fail)
        obtain ⟨h', e1, hd⟩ := drawn_cutS hS8.out wf hl hgn 0 0 cf cg (Or.inl rfl)
        refine bodyPost_ret (v := .agg #[.slice (some ⟨A .fr, 0, none⟩) 8 cf, .slice (some ⟨A .gs, 0, none⟩) n cg, .int .i64 h.hand]) (by simp [results, Try.results45, go_sem, *]) rfl ?_
        exact FinH.below (hfin.out (w8.setCell ⟨A .gs, g * 3 + 2, none⟩ (.slice (some ⟨A (.shd g), 0, none⟩) 5 0)) kz (.slice (some ⟨A .fr, 0, none⟩) 8 cf) (.slice (some ⟨A .gs, 0, none⟩) n cg) h' (hd) (hr.other _ _ (ne.out .gs trivial).2.2.1 _) (ha8.out.setCell (p := ⟨A .gs, g * 3 + 2, none⟩) (Or.inr (ne.out .gs trivial).2.2.2) _) (by omega) ⟨_, _, _, rfl, by omega, by omega⟩ (.slice (some ⟨A .fr, 0, none⟩) 8 cf) (.slice (some ⟨A .gs, 0, none⟩) n cg) (.int .i64 h.hand) _ (by rw [e1])) hlt (by (repeat' (with_reducible (first | exact Below.refl _ _ | apply Below.setCell | apply Below.alloc | apply below_drewN | apply Below.drew))) <;> (first | exact Nat.le_refl _ | (simp; done) | (simp; omega)))

      · skip
        have eoff := fun (V : World) (b i j : Nat) (u : Value) (t : Nat) (ht : b ≠ t) => World.cell?_of_block (a := ⟨b, i, none⟩) (Below.heap_setCell V ⟨t, j, none⟩ u b (by simpa using ht))
        obtain ⟨S, hSE⟩ : ∃ S : World → Prop, S = fun W' => W'.cell? ⟨X, 1, none⟩ = some (.slice (some ⟨A .gs, 0, none⟩) n cg) ∧ W'.cell? ⟨X, 0, none⟩ = some (.slice (some ⟨A .fr, 0, none⟩) 8 cf) := ⟨_, rfl⟩
        have hcells : ∀ W', S W' → W'.cell? ⟨X, 1, none⟩ = some (.slice (some ⟨A .gs, 0, none⟩) n cg) ∧ W'.cell? ⟨X, 0, none⟩ = some (.slice (some ⟨A .fr, 0, none⟩) 8 cf) := fun W' h => by rw [hSE] at h; exact h
        have hSd : S w8.drew := by rw [hSE]; exact ⟨x1, x0⟩
        have hSf : S (w8.setCell ⟨A .gs, g * 3 + 2, none⟩ (.slice (some ⟨A (.shd g), 4, none⟩) 5 (m3 - 1))).drew := by rw [hSE]; exact ⟨(eoff w8 _ _ _ _ _ eG2).trans x1, (eoff w8 _ _ _ _ _ eG2).trans x0⟩
        go_wp2_with (fail)
        refine wp_region_held_drew (S := S) (by kernel_rfl) hSd (fun hHeld => ?_)
        refine wpAnyH_take (i := 0) (v := ?_) (by simp only [List.getElem?_toArray, List.getElem?_cons_succ, List.getElem?_cons_zero]; rfl) (by kernel_rfl) (by kernel_rfl) (by kernel_rfl) (by exact fun _ _ _ h => h) (Or.inl ⟨by rfl, ?_⟩) hHeld ?_
        rotate_left
        · intro W' hW'; go_simp <;> with_reducible rfl
        simp only [Act.put, List.setIfInBounds_toArray, List.set_cons_zero, List.set_cons_succ]
        refine wpAnyH_take (i := 1) (v := ?_) (by simp only [List.getElem?_toArray, List.getElem?_cons_succ, List.getElem?_cons_zero]; rfl) (by kernel_rfl) (by kernel_rfl) (by kernel_rfl) (by exact fun _ _ _ h => h) (Or.inl ⟨by rfl, ?_⟩) hHeld ?_
        rotate_left
        · intro W' hW'; obtain ⟨v0,v1⟩ := hcells W' hW'; go_simp <;> with_reducible rfl
        simp only [Act.put, List.setIfInBounds_toArray, List.set_cons_zero, List.set_cons_succ]
        refine wpAnyH_take (i := 2) (v := ?_) (by simp only [List.getElem?_toArray, List.getElem?_cons_succ, List.getElem?_cons_zero]; rfl) (by kernel_rfl) (by kernel_rfl) (by kernel_rfl) (by exact fun _ _ _ h => h) (Or.inl ⟨by rfl, ?_⟩) hHeld ?_
        rotate_left
        · intro W' hW'; go_simp <;> with_reducible rfl
        simp only [Act.put, List.setIfInBounds_toArray, List.set_cons_zero, List.set_cons_succ]
        refine wpAnyH_take (i := 3) (v := ?_) (by simp only [List.getElem?_toArray, List.getElem?_cons_succ, List.getElem?_cons_zero]; rfl) (by kernel_rfl) (by kernel_rfl) (by kernel_rfl) (by exact fun _ _ _ h => h) (Or.inl ⟨by rfl, ?_⟩) hHeld ?_
        rotate_left
        · intro W' hW'; go_simp <;> with_reducible rfl
        simp only [Act.put, List.setIfInBounds_toArray, List.set_cons_zero, List.set_cons_succ]
        refine wpAnyH_take (i := 4) (v := ?_) (by simp only [List.getElem?_toArray, List.getElem?_cons_succ, List.getElem?_cons_zero]; rfl) (by kernel_rfl) (by kernel_rfl) (by kernel_rfl) (by exact fun _ _ _ h => h) (Or.inl ⟨by rfl, ?_⟩) hHeld ?_
        rotate_left
        · intro W' hW'; obtain ⟨v0,v1⟩ := hcells W' hW'; go_simp <;> with_reducible rfl
        simp only [Act.put, List.setIfInBounds_toArray, List.set_cons_zero, List.set_cons_succ]
        refine wpAnyH_take (i := 5) (v := ?_) (by simp only [List.getElem?_toArray, List.getElem?_cons_succ, List.getElem?_cons_zero]; rfl) (by kernel_rfl) (by kernel_rfl) (by kernel_rfl) (by exact fun _ _ _ h => h) (Or.inl ⟨by rfl, ?_⟩) hHeld ?_
        rotate_left
        · intro W' hW'; go_simp <;> with_reducible rfl
        simp only [Act.put, List.setIfInBounds_toArray, List.set_cons_zero, List.set_cons_succ]
        refine wpAnyH_take (i := 6) (v := ?_) (by simp only [List.getElem?_toArray, List.getElem?_cons_succ, List.getElem?_cons_zero]; rfl) (by kernel_rfl) (by kernel_rfl) (by kernel_rfl) (by exact fun _ _ _ h => h) (Or.inl ⟨by rfl, ?_⟩) hHeld ?_
        rotate_left
        · intro W' hW'; go_simp <;> with_reducible rfl
        simp only [Act.put, List.setIfInBounds_toArray, List.set_cons_zero, List.set_cons_succ]
        refine wpAnyH_take (i := 7) (v := ?_) (by simp only [List.getElem?_toArray, List.getElem?_cons_succ, List.getElem?_cons_zero]; rfl) (by kernel_rfl) (by kernel_rfl) (by kernel_rfl) (by exact fun _ _ _ h => h) (Or.inl ⟨by rfl, ?_⟩) hHeld ?_
        rotate_left
        · intro W' hW'; go_simp <;> with_reducible rfl
        simp only [Act.put, List.setIfInBounds_toArray, List.set_cons_zero, List.set_cons_succ]
        refine wpAnyH_ready (rs := [8]) (by kernel_rfl) (by simp) ?_
        refine AllReadyH.cons (by simp only [List.getElem?_toArray, List.getElem?_cons_succ, List.getElem?_cons_zero]; rfl) (fun K hK => ?_) AllReadyH.nil
        rw [if_pos (by rfl)]
        go_simp
        refine hK.out _ _ hSd (fun hHeld => ?_)
        clear hK K
        try simp only [Act.put, List.setIfInBounds_toArray, List.set_cons_zero, List.set_cons_succ]
        refine wpAnyH_take (i := 9) (v := ?_) (by simp only [List.getElem?_toArray, List.getElem?_cons_succ, List.getElem?_cons_zero]; rfl) (by kernel_rfl) (by kernel_rfl) (by kernel_rfl) (by exact fun _ _ _ h => h) (Or.inl ⟨by rfl, ?_⟩) hHeld ?_
        rotate_left
        · intro W' hW'; go_simp <;> with_reducible rfl
        simp only [Act.put, List.setIfInBounds_toArray, List.set_cons_zero, List.set_cons_succ]
        refine wpAnyH_take (i := 10) (v := ?_) (by simp only [List.getElem?_toArray, List.getElem?_cons_succ, List.getElem?_cons_zero]; rfl) (by kernel_rfl) (by kernel_rfl) (by kernel_rfl) (by exact fun _ _ _ h => h) (Or.inl ⟨by rfl, ?_⟩) hHeld ?_
        rotate_left
        · intro W' hW'; go_simp <;> with_reducible rfl
        simp only [Act.put, List.setIfInBounds_toArray, List.set_cons_zero, List.set_cons_succ]
        refine wpAnyH_take (i := 11) (v := ?_) (by simp only [List.getElem?_toArray, List.getElem?_cons_succ, List.getElem?_cons_zero]; rfl) (by kernel_rfl) (by kernel_rfl) (by kernel_rfl) (by exact fun _ _ _ h => h) (Or.inl ⟨by rfl, ?_⟩) hHeld ?_
        rotate_left
        · intro W' hW'; go_simp <;> with_reducible rfl
        simp only [Act.put, List.setIfInBounds_toArray, List.set_cons_zero, List.set_cons_succ]
        refine wpAnyH_ready (rs := [12]) (by kernel_rfl) (by simp) ?_
        refine AllReadyH.cons (by simp only [List.getElem?_toArray, List.getElem?_cons_succ, List.getElem?_cons_zero]; rfl) (fun K hK => ?_) AllReadyH.nil
        rw [if_pos (by rfl)]
        go_simp
        refine hK.out _ _ hSf (fun hHeld => ?_)
        clear hK K
        try simp only [Act.put, List.setIfInBounds_toArray, List.set_cons_zero, List.set_cons_succ]
        refine wpAnyH_done (by kernel_rfl) ?_ _
        clear hHeld hSd hSf
        go_wp2_with (fail)
        obtain ⟨h', e1, hd⟩ := drawn_cutS hS8.out wf hl hgn 4 (m3 - 1) cf cg (Or.inr rfl)
        refine bodyPost_ret (v := .agg #[.slice (some ⟨A .fr, 0, none⟩) 8 cf, .slice (some ⟨A .gs, 0, none⟩) n cg, .int .i64 h.hand]) (by simp [results, Try.results45, go_sem, *]) rfl ?_
        exact FinH.below (hfin.out (w8.setCell ⟨A .gs, g * 3 + 2, none⟩ (.slice (some ⟨A (.shd g), 4, none⟩) 5 (m3 - 1))) kz (.slice (some ⟨A .fr, 0, none⟩) 8 cf) (.slice (some ⟨A .gs, 0, none⟩) n cg) h' (hd) (hr.other _ _ (ne.out .gs trivial).2.2.1 _) (ha8.out.setCell (p := ⟨A .gs, g * 3 + 2, none⟩) (Or.inr (ne.out .gs trivial).2.2.2) _) (by omega) ⟨_, _, _, rfl, by omega, by omega⟩ (.slice (some ⟨A .fr, 0, none⟩) 8 cf) (.slice (some ⟨A .gs, 0, none⟩) n cg) (.int .i64 h.hand) _ (by rw [e1])) hlt (by (repeat' (with_reducible (first | exact Below.refl _ _ | apply Below.setCell | apply Below.alloc | apply below_drewN | apply Below.drew))) <;> (first | exact Nat.le_refl _ | (simp; done) | (simp; omega)))

  · have hqi : (0 : Int) < (q : Int) := by omega
    obtain ⟨hr, ha, ⟨x0, x1, x2, _, _, _⟩, hXl, _, ⟨r0, r1, r2, f0, f1, f2⟩, hlo, hS, _⟩ := H5.out
    have hRl : w.heap.size < w5.heap.size := by omega
    have HF := hidE (hs_fin (drawnAt_sep hS wf hl cf cg) hlo hr ha hlt)
    clear hr ha hS H5
    go_wp2
    refine bodyPost_ret (v := .agg #[.slice (some ⟨A .fr, 0, none⟩) 8 cf, .slice (some ⟨A .gs, 0, none⟩) n cg, .int .i64 h.hand]) (by simp [results, Try.results45, go_sem, *]) rfl ?_
    obtain ⟨d1, d2, d3⟩ := HF.out (.slice (some ⟨A .fr, 0, none⟩) 8 cf) (.slice (some ⟨A .gs, 0, none⟩) n cg) (.int .i64 h.hand)
    exact ⟨_, _, h, rfl, d1, ⟨_, d2, by omega⟩, d3, by omega, by omega⟩
end Go.Proofs.Ytjegndgdpmlbaaa
