/-
  What the laws' own copying of a guest does.
-/
import Derived.Test.YtpaeigmdhmmjmaaKToHost0
import Derived.Test.YtpaeigmdhmmjmaaKHostEq0
namespace Go.Proofs.Ytpaeigmdhmmjmaa
open Go.RowKit

theorem sameIn_set {lo hi : Nat} (w : World) {b j : Nat} (hb : b < lo ∨ hi ≤ b) (u : Value) : SameIn lo hi w (w.setCell ⟨b, j, none⟩ u) := fun k h1 h2 => Below.heap_setCell _ _ _ _ (by simp; omega)
theorem SameIn.then {lo hi : Nat} {w w' w'' : World} (s : SameIn lo hi w w') (t : SameIn lo hi w' w'') : SameIn lo hi w w'' := fun k a b => (t k a b).trans (s k a b)

set_option maxHeartbeats 2000000 in
theorem toGuest_any (lo hi : Nat) (vm vd vs : Value) (g : Gst) (w : World) (hG : GuestIn w lo hi vm vd vs g) (hh : hi ≤ w.heap.size) (hS : SmallG g) :
    Calls Try.prog 67 #[.agg #[vm, vd, vs]] w fun e w' => ∃ b1 b2 b3, e = .returned (.agg #[.slice (some ⟨b1, 0, none⟩) g.maps.length g.maps.length, .slice (some ⟨b2, 0, none⟩) g.disk.length g.disk.length, .slice (some ⟨b3, 0, none⟩) g.shades.length g.shades.length]) ∧ OwnGuest w' w.heap.size w'.heap.size (.slice (some ⟨b1, 0, none⟩) g.maps.length g.maps.length) (.slice (some ⟨b2, 0, none⟩) g.disk.length g.disk.length) (.slice (some ⟨b3, 0, none⟩) g.shades.length g.shades.length) g ∧ Below w.heap.size w w' := by
  obtain ⟨⟨a1, c1, rfl, hM⟩, ⟨a2, c2, rfl, hD⟩, a3, c3, rfl, hSh⟩ := hG
  obtain ⟨m1, m2, m3, m4⟩ := hS
  obtain ⟨W0, hW0⟩ : ∃ W0, W0 = ((w.alloc (.cells #[.slice a1 g.maps.length c1, .slice a2 g.disk.length c2, .slice a3 g.shades.length c3] 95)).alloc (.cells #[.slice none 0 0, .slice none 0 0, .slice none 0 0] 54)).alloc (.cells #[.slice none 0 0, .slice none 0 0, .slice none 0 0] 54) := ⟨_, rfl⟩
  have B0 : Below w.heap.size w W0 := by rw [hW0]; exact (((Below.refl _ _).alloc (Nat.le_refl _) _).alloc (by simp) _).alloc (by simp; omega) _
  have s0 : W0.heap.size = w.heap.size + 1 + 1 + 1 := by rw [hW0]; simp
  have x1 : W0.cell? ⟨w.heap.size, 1, none⟩ = some (.slice a2 g.disk.length c2) := by rw [hW0]; go_simp
  have x2 : W0.cell? ⟨w.heap.size, 2, none⟩ = some (.slice a3 g.shades.length c3) := by rw [hW0]; go_simp
  have rR : Room W0 (w.heap.size + 1) 3 := by
    rw [hW0]
    intro j hj
    match j, hj with
    | 0, _ => exact ⟨⟨.slice none 0 0, by go_simp⟩, by go_simp⟩
    | 1, _ => exact ⟨⟨.slice none 0 0, by go_simp⟩, by go_simp⟩
    | 2, _ => exact ⟨⟨.slice none 0 0, by go_simp⟩, by go_simp⟩
  have rO : Room W0 (w.heap.size + 1 + 1) 3 := by
    rw [hW0]
    intro j hj
    match j, hj with
    | 0, _ => exact ⟨⟨.slice none 0 0, by go_simp⟩, by go_simp⟩
    | 1, _ => exact ⟨⟨.slice none 0 0, by go_simp⟩, by go_simp⟩
    | 2, _ => exact ⟨⟨.slice none 0 0, by go_simp⟩, by go_simp⟩
  have hc1 := toMapS_any lo hi a1 g.maps.length c1 g.maps W0 (hM.same (below_sameIn B0 hh)) (by omega) m1
  rw [s0] at hc1
  go_enter Try.func67, Try.ntmps67
  go_wp2_with (fail)
  rw [← hW0]
  clear hW0
  refine hc1.mono ?_
  rintro e w1 ⟨rfl, hE1, hR1, l1, B1⟩
  clear hc1
  have x1 := (B1.cell (p := ⟨w.heap.size, 1, none⟩) (by show w.heap.size < _; omega)).trans x1
  have x2 := (B1.cell (p := ⟨w.heap.size, 2, none⟩) (by show w.heap.size < _; omega)).trans x2
  have rR1 : Hid (Room w1 (w.heap.size + 1) 3) := rR.below B1 (by omega)
  have rO1 : Hid (Room w1 (w.heap.size + 1 + 1) 3) := rO.below B1 (by omega)
  obtain ⟨⟨u0, d0⟩, f0⟩ := rO1.out 0 (by omega)
  have HB1 : Hid (Below w.heap.size w w1) := B0.trans (B1.mono (by omega))
  have HE1 : Hid (Ents w1 (w.heap.size + 1 + 1 + 1) 0 g.maps ∧ Room w1 (w.heap.size + 1 + 1 + 1) (g.maps.length * 3)) := ⟨hE1, hR1⟩
  have hD1 : Hid (IsMem w1 lo hi a2 g.disk.length g.disk ∧ IsShades w1 lo hi a3 g.shades.length g.shades) := ⟨hD.same (below_sameIn HB1.out hh), hSh.same (below_sameIn HB1.out hh)⟩
  have l0 : w.heap.size < w1.heap.size := by omega
  clear hE1 hR1 B1 B0 rR rO hM hD hSh s0
  generalize hlm : g.maps.length = lm at *
  go_wp2_with (fail)
  obtain ⟨W2, hW2⟩ : ∃ W2, W2 = w1.setCell ⟨w.heap.size + 1 + 1, 0, none⟩ (.slice (some ⟨w.heap.size + 1 + 1 + 1, 0, none⟩) lm lm) := ⟨_, rfl⟩
  rw [← hW2]
  have s2 : W2.heap.size = w1.heap.size := by rw [hW2]; simp
  have t2 : ∀ p q, w.heap.size + 1 + 1 + 1 ≤ p → SameIn p q w1 W2 := fun p q h => by rw [hW2]; exact sameIn_set w1 (Or.inl (by omega)) _
  have t2' : ∀ q, q ≤ w.heap.size → SameIn lo q w1 W2 := fun q h => by rw [hW2]; exact sameIn_set w1 (Or.inr (by omega)) _
  have y0 : W2.cell? ⟨w.heap.size + 1 + 1, 0, none⟩ = some (.slice (some ⟨w.heap.size + 1 + 1 + 1, 0, none⟩) lm lm) := by rw [hW2]; go_simp
  have x2 : W2.cell? ⟨w.heap.size, 2, none⟩ = some (.slice a3 g.shades.length c3) := by rw [hW2]; go_simp
  have rO2 : Hid (Room W2 (w.heap.size + 1 + 1) 3) := by rw [hW2]; exact rO1.out.put _
  have rR2 : Hid (Room W2 (w.heap.size + 1) 3) := rR1.out.same (w' := W2) (lo := w.heap.size + 1) (hi := w.heap.size + 1 + 1) (by rw [hW2]; exact sameIn_set w1 (Or.inr (by omega)) _) (Nat.le_refl _) (Nat.lt_succ_self _)
  have HB2 : Hid (Below w.heap.size w W2) := by rw [hW2]; exact HB1.out.setCell (p := ⟨w.heap.size + 1 + 1, 0, none⟩) (by show w.heap.size ≤ w.heap.size + 1 + 1; omega) _
  clear hW2 d0 f0 rO1 rR1 x1
  have hc2 := toIntSS_any lo hi a2 g.disk.length c2 g.disk W2 (hD1.out.1.same (t2' hi hh)) (by omega) m3 m4
  refine hc2.mono ?_
  rintro e w3 ⟨rfl, hO3, B3⟩
  clear hc2
  have sB3 := B3.size
  rw [s2] at hO3 sB3
  have x2 := (B3.cell (p := ⟨w.heap.size, 2, none⟩) (by show w.heap.size < _; omega)).trans x2
  have y0 := (B3.cell (p := ⟨w.heap.size + 1 + 1, 0, none⟩) (by show w.heap.size + 1 + 1 < _; omega)).trans y0
  have rO3 : Hid (Room w3 (w.heap.size + 1 + 1) 3) := rO2.out.below B3 (by omega)
  have rR3 : Hid (Room w3 (w.heap.size + 1) 3) := rR2.out.below B3 (by omega)
  obtain ⟨⟨u1, d1⟩, f1⟩ := rO3.out 1 (by omega)
  have HB3 : Hid (Below w.heap.size w w3) := HB2.out.trans (B3.mono HB2.out.size)
  have HO3 : Hid (OwnMem w3 w1.heap.size w3.heap.size (some ⟨w1.heap.size, 0, none⟩) g.disk.length g.disk) := hO3
  have t3 : Hid (SameIn (w.heap.size + 1 + 1 + 1) w1.heap.size w1 w3) := (t2 _ _ (Nat.le_refl _)).then (below_sameIn B3 (by omega))
  clear hO3 B3 rO2 rR2 HB2 t2 t2'
  have hS3 : Hid (IsShades w3 lo hi a3 g.shades.length g.shades) := hD1.out.2.same (fun k h1 h2 => by
    have e1 := HB1.out.block k (by omega)
    have e3 := HB3.out.block k (by omega)
    rw [e1, e3])
  rw [s2]
  clear s2 hD1
  generalize hld : g.disk.length = ld at *
  go_wp2_with (fail)
  obtain ⟨W4, hW4⟩ : ∃ W4, W4 = w3.setCell ⟨w.heap.size + 1 + 1, 1, none⟩ (.slice (some ⟨w1.heap.size, 0, none⟩) ld ld) := ⟨_, rfl⟩
  rw [← hW4]
  have s4 : W4.heap.size = w3.heap.size := by rw [hW4]; simp
  have t4 : ∀ p q, w.heap.size + 1 + 1 + 1 ≤ p → SameIn p q w3 W4 := fun p q h => by rw [hW4]; exact sameIn_set w3 (Or.inl (by omega)) _
  have t4' : ∀ q, q ≤ w.heap.size → SameIn lo q w3 W4 := fun q h => by rw [hW4]; exact sameIn_set w3 (Or.inr (by omega)) _
  have y0 : W4.cell? ⟨w.heap.size + 1 + 1, 0, none⟩ = some (.slice (some ⟨w.heap.size + 1 + 1 + 1, 0, none⟩) lm lm) := by rw [hW4]; go_simp
  have y1 : W4.cell? ⟨w.heap.size + 1 + 1, 1, none⟩ = some (.slice (some ⟨w1.heap.size, 0, none⟩) ld ld) := by rw [hW4]; go_simp
  have rO4 : Hid (Room W4 (w.heap.size + 1 + 1) 3) := by rw [hW4]; exact rO3.out.put _
  have rR4 : Hid (Room W4 (w.heap.size + 1) 3) := rR3.out.same (w' := W4) (lo := w.heap.size + 1) (hi := w.heap.size + 1 + 1) (by rw [hW4]; exact sameIn_set w3 (Or.inr (by omega)) _) (Nat.le_refl _) (Nat.lt_succ_self _)
  have HB4 : Hid (Below w.heap.size w W4) := by rw [hW4]; exact HB3.out.setCell (p := ⟨w.heap.size + 1 + 1, 1, none⟩) (by show w.heap.size ≤ w.heap.size + 1 + 1; omega) _
  clear hW4 d1 f1 rO3 rR3 x2
  have hc3 := toShadeS_any lo hi a3 g.shades.length c3 g.shades W4 (hS3.out.same (t4' hi hh)) (by omega) m2
  refine hc3.mono ?_
  rintro e w5 ⟨rfl, hQ5, hR5, l5, B5⟩
  clear hc3
  rw [s4] at hQ5 hR5 l5
  have y0 := (B5.cell (p := ⟨w.heap.size + 1 + 1, 0, none⟩) (by show w.heap.size + 1 + 1 < _; omega)).trans y0
  have y1 := (B5.cell (p := ⟨w.heap.size + 1 + 1, 1, none⟩) (by show w.heap.size + 1 + 1 < _; omega)).trans y1
  have rO5 : Hid (Room w5 (w.heap.size + 1 + 1) 3) := rO4.out.below B5 (by omega)
  have rR5 : Hid (Room w5 (w.heap.size + 1) 3) := rR4.out.below B5 (by omega)
  obtain ⟨⟨u2, d2⟩, f2⟩ := rO5.out 2 (by omega)
  obtain ⟨⟨v0, g0⟩, h0⟩ := rR5.out 0 (by omega)
  obtain ⟨⟨v1, g1⟩, h1⟩ := rR5.out 1 (by omega)
  obtain ⟨⟨v2, g2⟩, h2⟩ := rR5.out 2 (by omega)
  have HB5 : Hid (Below w.heap.size w w5) := HB4.out.trans (B5.mono HB4.out.size)
  have HQ5 : Hid (Quads w5 w3.heap.size 0 g.shades ∧ Room w5 w3.heap.size (g.shades.length * 4)) := ⟨hQ5, hR5⟩
  have t5 : Hid (SameIn (w.heap.size + 1 + 1 + 1) w3.heap.size w3 w5) := (t4 _ _ (Nat.le_refl _)).then (below_sameIn B5 (by omega))
  clear hQ5 hR5 B5 rO4 rR4 HB4 t4 t4' hS3 rO5 rR5
  rw [s4]
  clear s4
  generalize hls : g.shades.length = ls at *
  go_wp2
  obtain ⟨W6, hW6⟩ : ∃ W6, W6 = w5.setCell ⟨w.heap.size + 1 + 1, 2, none⟩ (.slice (some ⟨w3.heap.size, 0, none⟩) ls ls) := ⟨_, rfl⟩
  rw [← hW6]
  obtain ⟨W7, hW7⟩ : ∃ W7, W7 = ((W6.setCell ⟨w.heap.size + 1, 0, none⟩ (.slice (some ⟨w.heap.size + 1 + 1 + 1, 0, none⟩) lm lm)).setCell ⟨w.heap.size + 1, 1, none⟩ (.slice (some ⟨w1.heap.size, 0, none⟩) ld ld)).setCell ⟨w.heap.size + 1, 2, none⟩ (.slice (some ⟨w3.heap.size, 0, none⟩) ls ls) := ⟨_, rfl⟩
  rw [← hW7]
  have t7 : ∀ p q, w.heap.size + 1 + 1 + 1 ≤ p → SameIn p q w5 W7 := fun p q h => by
    rw [hW7, hW6]
    exact (((sameIn_set _ (Or.inl (by omega)) _).then (sameIn_set _ (Or.inl (by omega)) _)).then (sameIn_set _ (Or.inl (by omega)) _)).then (sameIn_set _ (Or.inl (by omega)) _)
  have s7 : W7.heap.size = w5.heap.size := by rw [hW7, hW6]; simp
  have HB7 : Below w.heap.size w W7 := by
    rw [hW7, hW6]
    exact (((HB5.out.setCell (p := ⟨w.heap.size + 1 + 1, 2, none⟩) (by show w.heap.size ≤ w.heap.size + 1 + 1; omega) _).setCell (p := ⟨w.heap.size + 1, 0, none⟩) (by show w.heap.size ≤ w.heap.size + 1; omega) _).setCell (p := ⟨w.heap.size + 1, 1, none⟩) (by show w.heap.size ≤ w.heap.size + 1; omega) _).setCell (p := ⟨w.heap.size + 1, 2, none⟩) (by show w.heap.size ≤ w.heap.size + 1; omega) _
  have z0 : W7.cell? ⟨w.heap.size + 1, 0, none⟩ = some (.slice (some ⟨w.heap.size + 1 + 1 + 1, 0, none⟩) lm lm) := by rw [hW7, hW6]; go_simp
  have z1 : W7.cell? ⟨w.heap.size + 1, 1, none⟩ = some (.slice (some ⟨w1.heap.size, 0, none⟩) ld ld) := by rw [hW7, hW6]; go_simp
  have z2 : W7.cell? ⟨w.heap.size + 1, 2, none⟩ = some (.slice (some ⟨w3.heap.size, 0, none⟩) ls ls) := by rw [hW7, hW6]; go_simp
  have sE : SameIn (w.heap.size + 1 + 1 + 1) w1.heap.size w1 W7 := (t3.out.then (t5.out.part (Nat.le_refl _) (by omega))).then (t7 _ _ (Nat.le_refl _))
  have sD : SameIn w1.heap.size w3.heap.size w3 W7 := (t5.out.part (by omega) (Nat.le_refl _)).then (t7 _ _ (by omega))
  have sQ : SameIn w3.heap.size w5.heap.size w5 W7 := t7 _ _ (by omega)
  clear hW7 hW6
  refine bodyPost_ret (v := .agg #[.slice (some ⟨w.heap.size + 1 + 1 + 1, 0, none⟩) lm lm, .slice (some ⟨w1.heap.size, 0, none⟩) ld ld, .slice (some ⟨w3.heap.size, 0, none⟩) ls ls]) (by simp [results, Try.results67, go_sem, z0, z1, z2]) rfl ⟨w.heap.size + 1 + 1 + 1, w1.heap.size, w3.heap.size, by rw [hlm, hld, hls], ?_, HB7⟩
  rw [hlm, hld, hls, s7]
  have hE7 := HE1.out.1.sameH sE (Nat.le_refl _) (by omega)
  have hR7 := HE1.out.2.same sE (Nat.le_refl _) (by omega)
  have hQ7 := HQ5.out.1.same sQ (Nat.le_refl _) (by omega)
  have hS7 := HQ5.out.2.same sQ (Nat.le_refl _) (by omega)
  have hD7 := HO3.out.same sD
  exact ⟨w.heap.size + 1 + 1 + 1, w3.heap.size, lm, ls, some ⟨w1.heap.size, 0, none⟩, ld, w1.heap.size, w3.heap.size, by rw [hlm], by rw [hld], by rw [hls], hE7, by rw [hlm]; exact hR7, hQ7, by rw [hls]; exact hS7, by rw [hld]; exact hD7, by omega, by omega, by omega, by omega, by omega, by omega, by omega, by omega, by omega⟩
end Go.Proofs.Ytpaeigmdhmmjmaa
