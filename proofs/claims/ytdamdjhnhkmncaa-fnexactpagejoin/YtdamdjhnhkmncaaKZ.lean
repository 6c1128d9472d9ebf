/-
  What the laws' own copying of maps and shades does.
-/
import Derived.Test.YtdamdjhnhkmncaaKHostMark0
import Derived.Test.YtdamdjhnhkmncaaKHostOut0
import Derived.Test.YtdamdjhnhkmncaaKHostEq0
import Derived.Test.YtdamdjhnhkmncaaKHostGive0
namespace Go.Proofs.Ytdamdjhnhkmncaa
open Go.RowKit

set_option maxHeartbeats 400000 in
theorem toMap_any (h : Bool) (p : Int) (b : Bool) (w : World) :
    Calls Try.prog 144 #[.agg #[.bool h, .int .i64 p, .bool b]] w fun e w' => e = .returned (.agg #[.bool h, .int .i64 p, .bool b]) ∧ ∃ o1 o2 o3, w' = ((w.alloc o1).alloc o2).alloc o3 := by
  go_enter Try.func144, Try.ntmps144
  go_wp2
  refine bodyPost_ret (v := .agg #[.bool h, .int .i64 p, .bool b]) ?res rfl ⟨rfl, _, _, _, rfl⟩
  case res => simp [results, Try.results144, go_sem]
set_option maxHeartbeats 400000 in
theorem toShade_any (h : Bool) (p f : Int) (b : Bool) (w : World) :
    Calls Try.prog 145 #[.agg #[.bool h, .int .i64 p, .int .i64 f, .bool b]] w fun e w' => e = .returned (.agg #[.bool h, .int .i64 p, .int .i64 f, .bool b]) ∧ ∃ o1 o2 o3, w' = ((w.alloc o1).alloc o2).alloc o3 := by
  go_enter Try.func145, Try.ntmps145
  go_wp2
  refine bodyPost_ret (v := .agg #[.bool h, .int .i64 p, .int .i64 f, .bool b]) ?res rfl ⟨rfl, _, _, _, rfl⟩
  case res => simp [results, Try.results145, go_sem]
theorem Ents.belowH {N : Nat} {w w' : World} {b o : Nat} {es : List E3} (h : Ents w b o es) (hb : Below N w w') (hN : b < N) : Ents w' b o es := fun i hi =>
  ⟨(hb.cell (p := ⟨b, o + i * 3, none⟩) hN).trans (h i hi).1, (hb.cell (p := ⟨b, o + i * 3 + 1, none⟩) hN).trans (h i hi).2.1, (hb.cell (p := ⟨b, o + i * 3 + 2, none⟩) hN).trans (h i hi).2.2⟩
theorem Quads.belowH {N : Nat} {w w' : World} {b o : Nat} {ss : List S4} (h : Quads w b o ss) (hb : Below N w w') (hN : b < N) : Quads w' b o ss := fun i hi =>
  ⟨(hb.cell (p := ⟨b, o + i * 4, none⟩) hN).trans (h i hi).1, (hb.cell (p := ⟨b, o + i * 4 + 1, none⟩) hN).trans (h i hi).2.1, (hb.cell (p := ⟨b, o + i * 4 + 2, none⟩) hN).trans (h i hi).2.2.1, (hb.cell (p := ⟨b, o + i * 4 + 3, none⟩) hN).trans (h i hi).2.2.2⟩

set_option maxHeartbeats 1000000 in
theorem toMapS_any (lo hi : Nat) (a : Option Addr) (len cap : Nat) (es : List E3) (w : World) (h : IsMaps w lo hi a len es) (hh : hi ≤ w.heap.size) (hn : len ≤ 1048576) :
    Calls Try.prog 131 #[.slice a len cap] w fun e w' => e = .returned (.slice (some ⟨w.heap.size, 0, none⟩) len len) ∧ Ents w' w.heap.size 0 es ∧ Room w' w.heap.size (len * 3) ∧ w.heap.size < w'.heap.size ∧ Below w.heap.size w w' := by
  obtain ⟨hl, hd⟩ := h
  have hmk := make_maps len hn
  go_enter Try.func131, Try.ntmps131
  go_wp2
  clear hmk
  go_loopw [4] (fun i wr => ∃ k : Nat, k ≤ len ∧ i = .int .i64 k ∧ Hid (Ents wr w.heap.size 0 (es.take k)) ∧ Hid (Room wr w.heap.size (len * 3)) ∧ w.heap.size < wr.heap.size ∧ Below w.heap.size w wr) (fun i _ => len - (intOf i).toNat)
  case atStart => exact ⟨0, Nat.zero_le _, rfl, fun i hi => by simp at hi, room_made _ _ _ _, by simp, (Below.refl _ _).alloc (Nat.le_refl _) _⟩
  case round =>
    obtain ⟨k, hk, rfl, hE, hR, hlt, hB⟩ := hrel
    by_cases hkl : k < len
    · rcases hd with h0 | ⟨b, o, rfl, _, hb2, hc⟩
      · omega
      have hb : b < w.heap.size := by omega
      obtain ⟨q0, q1, q2⟩ := hc k (by omega)
      generalize hG : es.getD k (false, 0, false) = ek at q0 q1 q2
      obtain ⟨eh, ep, eb⟩ := ek
      have c0 := (hB.cell (p := ⟨b, o + k * 3, none⟩) hb).trans q0
      have c1 := (hB.cell (p := ⟨b, o + k * 3 + 1, none⟩) hb).trans q1
      have c2 := (hB.cell (p := ⟨b, o + k * 3 + 2, none⟩) hb).trans q2
      have HG : Hid (es.getD k (false, 0, false) = (eh, ep, eb)) := hG
      clear hG q0 q1 q2
      obtain ⟨⟨u0, d0⟩, f0⟩ := hR.out (k * 3) (by omega)
      obtain ⟨⟨u1, d1⟩, f1⟩ := hR.out (k * 3 + 1) (by omega)
      obtain ⟨⟨u2, d2⟩, f2⟩ := hR.out (k * 3 + 2) (by omega)
      have hlt1 : w.heap.size < wr.heap.size + 1 := by omega
      have hlt2 : w.heap.size < wr.heap.size + 1 + 1 := by omega
      have hki : (k : Int) < (len : Int) := by omega
      go_wp2_with (go_at_call 144; refine (toMap_any _ _ _ _).mono ?_; rintro e w' ⟨rfl, o1, o2, o3, rfl⟩)
      go_roundw
      case rel =>
        have b3 : ∀ W : World, Below W.heap.size W (((W.alloc o1).alloc o2).alloc o3) := fun W => by
          (repeat' (with_reducible (first | exact Below.refl _ _ | apply Below.setCell | apply Below.alloc | apply below_drewN | apply Below.drew))) <;> (first | exact Nat.le_refl _ | (simp; done) | (simp; omega))
        have hs3 : w.heap.size < (((wr.setCell ⟨w.heap.size, k * 3, none⟩ (.bool eh)).setCell ⟨w.heap.size, k * 3 + 1, none⟩ (.int .i64 ep)).setCell ⟨w.heap.size, k * 3 + 2, none⟩ (.bool eb)).heap.size := by simpa using hlt
        refine ⟨k + 1, by omega, by go_num, (ents_put hR.out hE.out (by omega) (by omega) HG.out).belowH (b3 _) hs3, (((hR.out.put _).put _).put _).below (b3 _) hs3, by simp; omega, ?_⟩
        refine Below.trans ?_ ((b3 _).mono (Nat.le_of_lt hs3))
        exact ((hB.setCell (p := ⟨w.heap.size, k * 3, none⟩) (Nat.le_refl _) _).setCell (p := ⟨w.heap.size, k * 3 + 1, none⟩) (Nat.le_refl _) _).setCell (p := ⟨w.heap.size, k * 3 + 2, none⟩) (Nat.le_refl _) _
      case measure => simp [intOf]; omega
    · have HE : Hid (Ents wr w.heap.size 0 es) := by
        have := hE.out
        rwa [List.take_of_length_le (by omega)] at this
      clear hE
      go_wp2
      go_ret
      exact ⟨rfl, HE.out, hR.out, hlt, hB⟩

set_option maxHeartbeats 1000000 in
theorem toShadeS_any (lo hi : Nat) (a : Option Addr) (len cap : Nat) (ss : List S4) (w : World) (h : IsShades w lo hi a len ss) (hh : hi ≤ w.heap.size) (hn : len ≤ 1048576) :
    Calls Try.prog 132 #[.slice a len cap] w fun e w' => e = .returned (.slice (some ⟨w.heap.size, 0, none⟩) len len) ∧ Quads w' w.heap.size 0 ss ∧ Room w' w.heap.size (len * 4) ∧ w.heap.size < w'.heap.size ∧ Below w.heap.size w w' := by
  obtain ⟨hl, hd⟩ := h
  have hmk := make_shades len hn
  go_enter Try.func132, Try.ntmps132
  go_wp2
  clear hmk
  go_loopw [4] (fun i wr => ∃ k : Nat, k ≤ len ∧ i = .int .i64 k ∧ Hid (Quads wr w.heap.size 0 (ss.take k)) ∧ Hid (Room wr w.heap.size (len * 4)) ∧ w.heap.size < wr.heap.size ∧ Below w.heap.size w wr) (fun i _ => len - (intOf i).toNat)
  case atStart => exact ⟨0, Nat.zero_le _, rfl, fun i hi => by simp at hi, room_made _ _ _ _, by simp, (Below.refl _ _).alloc (Nat.le_refl _) _⟩
  case round =>
    obtain ⟨k, hk, rfl, hE, hR, hlt, hB⟩ := hrel
    by_cases hkl : k < len
    · rcases hd with h0 | ⟨b, o, rfl, _, hb2, hc⟩
      · omega
      have hb : b < w.heap.size := by omega
      obtain ⟨q0, q1, q2, q3⟩ := hc k (by omega)
      generalize hG : ss.getD k noS = ek at q0 q1 q2 q3
      obtain ⟨sh, sp, sf, sw⟩ := ek
      have c0 := (hB.cell (p := ⟨b, o + k * 4, none⟩) hb).trans q0
      have c1 := (hB.cell (p := ⟨b, o + k * 4 + 1, none⟩) hb).trans q1
      have c2 := (hB.cell (p := ⟨b, o + k * 4 + 2, none⟩) hb).trans q2
      have c3 := (hB.cell (p := ⟨b, o + k * 4 + 3, none⟩) hb).trans q3
      have HG : Hid (ss.getD k noS = (sh, sp, sf, sw)) := hG
      clear hG q0 q1 q2 q3
      obtain ⟨⟨u0, d0⟩, f0⟩ := hR.out (k * 4) (by omega)
      obtain ⟨⟨u1, d1⟩, f1⟩ := hR.out (k * 4 + 1) (by omega)
      obtain ⟨⟨u2, d2⟩, f2⟩ := hR.out (k * 4 + 2) (by omega)
      obtain ⟨⟨u3, d3⟩, f3⟩ := hR.out (k * 4 + 3) (by omega)
      have hlt1 : w.heap.size < wr.heap.size + 1 := by omega
      have hlt2 : w.heap.size < wr.heap.size + 1 + 1 := by omega
      have hki : (k : Int) < (len : Int) := by omega
      go_wp2_with (go_at_call 145; refine (toShade_any _ _ _ _ _).mono ?_; rintro e w' ⟨rfl, o1, o2, o3, rfl⟩)
      go_roundw
      case rel =>
        have b3 : ∀ W : World, Below W.heap.size W (((W.alloc o1).alloc o2).alloc o3) := fun W => by
          (repeat' (with_reducible (first | exact Below.refl _ _ | apply Below.setCell | apply Below.alloc | apply below_drewN | apply Below.drew))) <;> (first | exact Nat.le_refl _ | (simp; done) | (simp; omega))
        have hs3 : w.heap.size < ((((wr.setCell ⟨w.heap.size, k * 4, none⟩ (.bool sh)).setCell ⟨w.heap.size, k * 4 + 1, none⟩ (.int .i64 sp)).setCell ⟨w.heap.size, k * 4 + 2, none⟩ (.int .i64 sf)).setCell ⟨w.heap.size, k * 4 + 3, none⟩ (.bool sw)).heap.size := by simpa using hlt
        refine ⟨k + 1, by omega, by go_num, (quads_put hR.out hE.out (by omega) (by omega) HG.out).belowH (b3 _) hs3, ((((hR.out.put _).put _).put _).put _).below (b3 _) hs3, by simp; omega, ?_⟩
        refine Below.trans ?_ ((b3 _).mono (Nat.le_of_lt hs3))
        exact (((hB.setCell (p := ⟨w.heap.size, k * 4, none⟩) (Nat.le_refl _) _).setCell (p := ⟨w.heap.size, k * 4 + 1, none⟩) (Nat.le_refl _) _).setCell (p := ⟨w.heap.size, k * 4 + 2, none⟩) (Nat.le_refl _) _).setCell (p := ⟨w.heap.size, k * 4 + 3, none⟩) (Nat.le_refl _) _
      case measure => simp [intOf]; omega
    · have HE : Hid (Quads wr w.heap.size 0 ss) := by
        have := hE.out
        rwa [List.take_of_length_le (by omega)] at this
      clear hE
      go_wp2
      go_ret
      exact ⟨rfl, HE.out, hR.out, hlt, hB⟩
end Go.Proofs.Ytdamdjhnhkmncaa

/-
  What the laws' own copying of a guest does.
-/
namespace Go.Proofs.Ytdamdjhnhkmncaa
open Go.RowKit

theorem sameIn_set {lo hi : Nat} (w : World) {b j : Nat} (hb : b < lo ∨ hi ≤ b) (u : Value) : SameIn lo hi w (w.setCell ⟨b, j, none⟩ u) := fun k h1 h2 => Below.heap_setCell _ _ _ _ (by simp; omega)
theorem SameIn.then {lo hi : Nat} {w w' w'' : World} (s : SameIn lo hi w w') (t : SameIn lo hi w' w'') : SameIn lo hi w w'' := fun k a b => (t k a b).trans (s k a b)

set_option maxHeartbeats 2000000 in
theorem toGuest_any (lo hi : Nat) (vm vd vs : Value) (g : Gst) (w : World) (hG : GuestIn w lo hi vm vd vs g) (hh : hi ≤ w.heap.size) (hS : SmallG g) :
    Calls Try.prog 101 #[.agg #[vm, vd, vs]] w fun e w' => ∃ b1 b2 b3, e = .returned (.agg #[.slice (some ⟨b1, 0, none⟩) g.maps.length g.maps.length, .slice (some ⟨b2, 0, none⟩) g.disk.length g.disk.length, .slice (some ⟨b3, 0, none⟩) g.shades.length g.shades.length]) ∧ OwnGuest w' w.heap.size w'.heap.size (.slice (some ⟨b1, 0, none⟩) g.maps.length g.maps.length) (.slice (some ⟨b2, 0, none⟩) g.disk.length g.disk.length) (.slice (some ⟨b3, 0, none⟩) g.shades.length g.shades.length) g ∧ Below w.heap.size w w' := by
  obtain ⟨⟨a1, c1, rfl, hM⟩, ⟨a2, c2, rfl, hD⟩, a3, c3, rfl, hSh⟩ := hG
  obtain ⟨m1, m2, m3, m4⟩ := hS
  obtain ⟨W0, hW0⟩ : ∃ W0, W0 = ((w.alloc (.cells #[.slice a1 g.maps.length c1, .slice a2 g.disk.length c2, .slice a3 g.shades.length c3] 125)).alloc (.cells #[.slice none 0 0, .slice none 0 0, .slice none 0 0] 63)).alloc (.cells #[.slice none 0 0, .slice none 0 0, .slice none 0 0] 63) := ⟨_, rfl⟩
  have B0 : Below w.heap.size w W0 := by rw [hW0]; exact (((Below.refl _ _).alloc (Nat.le_refl _) _).alloc (by simp) _).alloc (by simp; omega) _
  have s0 : W0.heap.size = w.heap.size + 1 + 1 + 1 := by rw [hW0]; simp
  have x1 : W0.cell? ⟨w.heap.size, 1, none⟩ = some (.slice a2 g.disk.length c2) := by rw [hW0]; go_simp
  have x2 : W0.cell? ⟨w.heap.size, 2, none⟩ = some (.slice a3 g.shades.length c3) := by rw [hW0]; go_simp
  have rR : Room W0 (w.heap.size + 1) 3 := by
    rw [hW0]
    intro j hj
    match j, hj with
    | 0, _ => exact ⟨⟨.slice none 0 0, by go_simp⟩, by go_simp⟩
    | 1, _ => exact ⟨⟨.slice none 0 0, by go_simp⟩, by go_simp⟩
    | 2, _ => exact ⟨⟨.slice none 0 0, by go_simp⟩, by go_simp⟩
  have rO : Room W0 (w.heap.size + 1 + 1) 3 := by
    rw [hW0]
    intro j hj
    match j, hj with
    | 0, _ => exact ⟨⟨.slice none 0 0, by go_simp⟩, by go_simp⟩
    | 1, _ => exact ⟨⟨.slice none 0 0, by go_simp⟩, by go_simp⟩
    | 2, _ => exact ⟨⟨.slice none 0 0, by go_simp⟩, by go_simp⟩
  have hc1 := toMapS_any lo hi a1 g.maps.length c1 g.maps W0 (hM.same (below_sameIn B0 hh)) (by omega) m1
  rw [s0] at hc1
  go_enter Try.func101, Try.ntmps101
  go_wp2_with (fail)
  rw [← hW0]
  clear hW0
  refine hc1.mono ?_
  rintro e w1 ⟨rfl, hE1, hR1, l1, B1⟩
  clear hc1
  have x1 := (B1.cell (p := ⟨w.heap.size, 1, none⟩) (by show w.heap.size < _; omega)).trans x1
  have x2 := (B1.cell (p := ⟨w.heap.size, 2, none⟩) (by show w.heap.size < _; omega)).trans x2
  have rR1 : Hid (Room w1 (w.heap.size + 1) 3) := rR.below B1 (by omega)
  have rO1 : Hid (Room w1 (w.heap.size + 1 + 1) 3) := rO.below B1 (by omega)
  obtain ⟨⟨u0, d0⟩, f0⟩ := rO1.out 0 (by omega)
  have HB1 : Hid (Below w.heap.size w w1) := B0.trans (B1.mono (by omega))
  have HE1 : Hid (Ents w1 (w.heap.size + 1 + 1 + 1) 0 g.maps ∧ Room w1 (w.heap.size + 1 + 1 + 1) (g.maps.length * 3)) := ⟨hE1, hR1⟩
  have hD1 : Hid (IsMem w1 lo hi a2 g.disk.length g.disk ∧ IsShades w1 lo hi a3 g.shades.length g.shades) := ⟨hD.same (below_sameIn HB1.out hh), hSh.same (below_sameIn HB1.out hh)⟩
  have l0 : w.heap.size < w1.heap.size := by omega
  clear hE1 hR1 B1 B0 rR rO hM hD hSh s0
  generalize hlm : g.maps.length = lm at *
  go_wp2_with (fail)
  obtain ⟨W2, hW2⟩ : ∃ W2, W2 = w1.setCell ⟨w.heap.size + 1 + 1, 0, none⟩ (.slice (some ⟨w.heap.size + 1 + 1 + 1, 0, none⟩) lm lm) := ⟨_, rfl⟩
  rw [← hW2]
  have s2 : W2.heap.size = w1.heap.size := by rw [hW2]; simp
  have t2 : ∀ p q, w.heap.size + 1 + 1 + 1 ≤ p → SameIn p q w1 W2 := fun p q h => by rw [hW2]; exact sameIn_set w1 (Or.inl (by omega)) _
  have t2' : ∀ q, q ≤ w.heap.size → SameIn lo q w1 W2 := fun q h => by rw [hW2]; exact sameIn_set w1 (Or.inr (by omega)) _
  have y0 : W2.cell? ⟨w.heap.size + 1 + 1, 0, none⟩ = some (.slice (some ⟨w.heap.size + 1 + 1 + 1, 0, none⟩) lm lm) := by rw [hW2]; go_simp
  have x2 : W2.cell? ⟨w.heap.size, 2, none⟩ = some (.slice a3 g.shades.length c3) := by rw [hW2]; go_simp
  have rO2 : Hid (Room W2 (w.heap.size + 1 + 1) 3) := by rw [hW2]; exact rO1.out.put _
  have rR2 : Hid (Room W2 (w.heap.size + 1) 3) := rR1.out.same (w' := W2) (lo := w.heap.size + 1) (hi := w.heap.size + 1 + 1) (by rw [hW2]; exact sameIn_set w1 (Or.inr (by omega)) _) (Nat.le_refl _) (Nat.lt_succ_self _)
  have HB2 : Hid (Below w.heap.size w W2) := by rw [hW2]; exact HB1.out.setCell (p := ⟨w.heap.size + 1 + 1, 0, none⟩) (by show w.heap.size ≤ w.heap.size + 1 + 1; omega) _
  clear hW2 d0 f0 rO1 rR1 x1
  have hc2 := toIntSS_any lo hi a2 g.disk.length c2 g.disk W2 (hD1.out.1.same (t2' hi hh)) (by omega) m3 m4
  refine hc2.mono ?_
  rintro e w3 ⟨rfl, hO3, B3⟩
  clear hc2
  have sB3 := B3.size
  rw [s2] at hO3 sB3
  have x2 := (B3.cell (p := ⟨w.heap.size, 2, none⟩) (by show w.heap.size < _; omega)).trans x2
  have y0 := (B3.cell (p := ⟨w.heap.size + 1 + 1, 0, none⟩) (by show w.heap.size + 1 + 1 < _; omega)).trans y0
  have rO3 : Hid (Room w3 (w.heap.size + 1 + 1) 3) := rO2.out.below B3 (by omega)
  have rR3 : Hid (Room w3 (w.heap.size + 1) 3) := rR2.out.below B3 (by omega)
  obtain ⟨⟨u1, d1⟩, f1⟩ := rO3.out 1 (by omega)
  have HB3 : Hid (Below w.heap.size w w3) := HB2.out.trans (B3.mono HB2.out.size)
  have HO3 : Hid (OwnMem w3 w1.heap.size w3.heap.size (some ⟨w1.heap.size, 0, none⟩) g.disk.length g.disk) := hO3
  have t3 : Hid (SameIn (w.heap.size + 1 + 1 + 1) w1.heap.size w1 w3) := (t2 _ _ (Nat.le_refl _)).then (below_sameIn B3 (by omega))
  clear hO3 B3 rO2 rR2 HB2 t2 t2'
  have hS3 : Hid (IsShades w3 lo hi a3 g.shades.length g.shades) := hD1.out.2.same (fun k h1 h2 => by
    have e1 := HB1.out.block k (by omega)
    have e3 := HB3.out.block k (by omega)
    rw [e1, e3])
  rw [s2]
  clear s2 hD1
  generalize hld : g.disk.length = ld at *
  go_wp2_with (fail)
  obtain ⟨W4, hW4⟩ : ∃ W4, W4 = w3.setCell ⟨w.heap.size + 1 + 1, 1, none⟩ (.slice (some ⟨w1.heap.size, 0, none⟩) ld ld) := ⟨_, rfl⟩
  rw [← hW4]
  have s4 : W4.heap.size = w3.heap.size := by rw [hW4]; simp
  have t4 : ∀ p q, w.heap.size + 1 + 1 + 1 ≤ p → SameIn p q w3 W4 := fun p q h => by rw [hW4]; exact sameIn_set w3 (Or.inl (by omega)) _
  have t4' : ∀ q, q ≤ w.heap.size → SameIn lo q w3 W4 := fun q h => by rw [hW4]; exact sameIn_set w3 (Or.inr (by omega)) _
  have y0 : W4.cell? ⟨w.heap.size + 1 + 1, 0, none⟩ = some (.slice (some ⟨w.heap.size + 1 + 1 + 1, 0, none⟩) lm lm) := by rw [hW4]; go_simp
  have y1 : W4.cell? ⟨w.heap.size + 1 + 1, 1, none⟩ = some (.slice (some ⟨w1.heap.size, 0, none⟩) ld ld) := by rw [hW4]; go_simp
  have rO4 : Hid (Room W4 (w.heap.size + 1 + 1) 3) := by rw [hW4]; exact rO3.out.put _
  have rR4 : Hid (Room W4 (w.heap.size + 1) 3) := rR3.out.same (w' := W4) (lo := w.heap.size + 1) (hi := w.heap.size + 1 + 1) (by rw [hW4]; exact sameIn_set w3 (Or.inr (by omega)) _) (Nat.le_refl _) (Nat.lt_succ_self _)
  have HB4 : Hid (Below w.heap.size w W4) := by rw [hW4]; exact HB3.out.setCell (p := ⟨w.heap.size + 1 + 1, 1, none⟩) (by show w.heap.size ≤ w.heap.size + 1 + 1; omega) _
  clear hW4 d1 f1 rO3 rR3 x2
  have hc3 := toShadeS_any lo hi a3 g.shades.length c3 g.shades W4 (hS3.out.same (t4' hi hh)) (by omega) m2
  refine hc3.mono ?_
  rintro e w5 ⟨rfl, hQ5, hR5, l5, B5⟩
  clear hc3
  rw [s4] at hQ5 hR5 l5
  have y0 := (B5.cell (p := ⟨w.heap.size + 1 + 1, 0, none⟩) (by show w.heap.size + 1 + 1 < _; omega)).trans y0
  have y1 := (B5.cell (p := ⟨w.heap.size + 1 + 1, 1, none⟩) (by show w.heap.size + 1 + 1 < _; omega)).trans y1
  have rO5 : Hid (Room w5 (w.heap.size + 1 + 1) 3) := rO4.out.below B5 (by omega)
  have rR5 : Hid (Room w5 (w.heap.size + 1) 3) := rR4.out.below B5 (by omega)
  obtain ⟨⟨u2, d2⟩, f2⟩ := rO5.out 2 (by omega)
  obtain ⟨⟨v0, g0⟩, h0⟩ := rR5.out 0 (by omega)
  obtain ⟨⟨v1, g1⟩, h1⟩ := rR5.out 1 (by omega)
  obtain ⟨⟨v2, g2⟩, h2⟩ := rR5.out 2 (by omega)
  have HB5 : Hid (Below w.heap.size w w5) := HB4.out.trans (B5.mono HB4.out.size)
  have HQ5 : Hid (Quads w5 w3.heap.size 0 g.shades ∧ Room w5 w3.heap.size (g.shades.length * 4)) := ⟨hQ5, hR5⟩
  have t5 : Hid (SameIn (w.heap.size + 1 + 1 + 1) w3.heap.size w3 w5) := (t4 _ _ (Nat.le_refl _)).then (below_sameIn B5 (by omega))
  clear hQ5 hR5 B5 rO4 rR4 HB4 t4 t4' hS3 rO5 rR5
  rw [s4]
  clear s4
  generalize hls : g.shades.length = ls at *
  go_wp2
  obtain ⟨W6, hW6⟩ : ∃ W6, W6 = w5.setCell ⟨w.heap.size + 1 + 1, 2, none⟩ (.slice (some ⟨w3.heap.size, 0, none⟩) ls ls) := ⟨_, rfl⟩
  rw [← hW6]
  obtain ⟨W7, hW7⟩ : ∃ W7, W7 = ((W6.setCell ⟨w.heap.size + 1, 0, none⟩ (.slice (some ⟨w.heap.size + 1 + 1 + 1, 0, none⟩) lm lm)).setCell ⟨w.heap.size + 1, 1, none⟩ (.slice (some ⟨w1.heap.size, 0, none⟩) ld ld)).setCell ⟨w.heap.size + 1, 2, none⟩ (.slice (some ⟨w3.heap.size, 0, none⟩) ls ls) := ⟨_, rfl⟩
  rw [← hW7]
  have t7 : ∀ p q, w.heap.size + 1 + 1 + 1 ≤ p → SameIn p q w5 W7 := fun p q h => by
    rw [hW7, hW6]
    exact (((sameIn_set _ (Or.inl (by omega)) _).then (sameIn_set _ (Or.inl (by omega)) _)).then (sameIn_set _ (Or.inl (by omega)) _)).then (sameIn_set _ (Or.inl (by omega)) _)
  have s7 : W7.heap.size = w5.heap.size := by rw [hW7, hW6]; simp
  have HB7 : Below w.heap.size w W7 := by
    rw [hW7, hW6]
    exact (((HB5.out.setCell (p := ⟨w.heap.size + 1 + 1, 2, none⟩) (by show w.heap.size ≤ w.heap.size + 1 + 1; omega) _).setCell (p := ⟨w.heap.size + 1, 0, none⟩) (by show w.heap.size ≤ w.heap.size + 1; omega) _).setCell (p := ⟨w.heap.size + 1, 1, none⟩) (by show w.heap.size ≤ w.heap.size + 1; omega) _).setCell (p := ⟨w.heap.size + 1, 2, none⟩) (by show w.heap.size ≤ w.heap.size + 1; omega) _
  have z0 : W7.cell? ⟨w.heap.size + 1, 0, none⟩ = some (.slice (some ⟨w.heap.size + 1 + 1 + 1, 0, none⟩) lm lm) := by rw [hW7, hW6]; go_simp
  have z1 : W7.cell? ⟨w.heap.size + 1, 1, none⟩ = some (.slice (some ⟨w1.heap.size, 0, none⟩) ld ld) := by rw [hW7, hW6]; go_simp
  have z2 : W7.cell? ⟨w.heap.size + 1, 2, none⟩ = some (.slice (some ⟨w3.heap.size, 0, none⟩) ls ls) := by rw [hW7, hW6]; go_simp
  have sE : SameIn (w.heap.size + 1 + 1 + 1) w1.heap.size w1 W7 := (t3.out.then (t5.out.part (Nat.le_refl _) (by omega))).then (t7 _ _ (Nat.le_refl _))
  have sD : SameIn w1.heap.size w3.heap.size w3 W7 := (t5.out.part (by omega) (Nat.le_refl _)).then (t7 _ _ (by omega))
  have sQ : SameIn w3.heap.size w5.heap.size w5 W7 := t7 _ _ (by omega)
  clear hW7 hW6
  refine bodyPost_ret (v := .agg #[.slice (some ⟨w.heap.size + 1 + 1 + 1, 0, none⟩) lm lm, .slice (some ⟨w1.heap.size, 0, none⟩) ld ld, .slice (some ⟨w3.heap.size, 0, none⟩) ls ls]) (by simp [results, Try.results101, go_sem, z0, z1, z2]) rfl ⟨w.heap.size + 1 + 1 + 1, w1.heap.size, w3.heap.size, by rw [hlm, hld, hls], ?_, HB7⟩
  rw [hlm, hld, hls, s7]
  have hE7 := HE1.out.1.sameH sE (Nat.le_refl _) (by omega)
  have hR7 := HE1.out.2.same sE (Nat.le_refl _) (by omega)
  have hQ7 := HQ5.out.1.same sQ (Nat.le_refl _) (by omega)
  have hS7 := HQ5.out.2.same sQ (Nat.le_refl _) (by omega)
  have hD7 := HO3.out.same sD
  exact ⟨w.heap.size + 1 + 1 + 1, w3.heap.size, lm, ls, some ⟨w1.heap.size, 0, none⟩, ld, w1.heap.size, w3.heap.size, by rw [hlm], by rw [hld], by rw [hls], hE7, by rw [hlm]; exact hR7, hQ7, by rw [hls]; exact hS7, by rw [hld]; exact hD7, by omega, by omega, by omega, by omega, by omega, by omega, by omega, by omega, by omega⟩
end Go.Proofs.Ytdamdjhnhkmncaa

/-
  What the laws' own copying of a host does.
-/
namespace Go.Proofs.Ytdamdjhnhkmncaa
open Go.RowKit

set_option maxHeartbeats 2000000 in
theorem toGuestS_any (lo hi : Nat) (a : Option Addr) (len cap : Nat) (gs : List Gst) (w : World) (h : IsGuests w lo hi a len gs) (hh : hi ≤ w.heap.size) (hn : len ≤ 1048576) (hS : ∀ i, i < len → SmallG (gs.getD i noG)) :
    Calls Try.prog 62 #[.slice a len cap] w fun e w' => e = .returned (.slice (some ⟨w.heap.size, 0, none⟩) len len) ∧ GuestsUp w' w.heap.size (w.heap.size + 1) w'.heap.size len gs ∧ w.heap.size < w'.heap.size ∧ Below w.heap.size w w' := by
  obtain ⟨hl, hd⟩ := h
  have hmk := make_guests len hn
  go_enter Try.func62, Try.ntmps62
  go_wp2
  clear hmk
  go_loopw [4] (fun i wr => ∃ k : Nat, k ≤ len ∧ i = .int .i64 k ∧ Hid (GuestsUp wr w.heap.size (w.heap.size + 1) wr.heap.size k gs) ∧ Hid (Room wr w.heap.size (len * 3)) ∧ w.heap.size < wr.heap.size ∧ Below w.heap.size w wr) (fun i _ => len - (intOf i).toNat)
  case atStart => exact ⟨0, Nat.zero_le _, rfl, ⟨fun _ => 0, fun _ => 0, fun i hi => by omega, fun i j h1 h2 => by omega, fun i hi => by omega⟩, room_made _ _ _ _, by simp, (Below.refl _ _).alloc (Nat.le_refl _) _⟩
  case round =>
    obtain ⟨k, hk, rfl, hE, hR, hlt, hB⟩ := hrel
    by_cases hkl : k < len
    · rcases hd with h0 | ⟨b, o, rfl, _, hb2, hc⟩
      · omega
      have hb : b < w.heap.size := by omega
      obtain ⟨vm, vd, vs, q0, q1, q2, hGk⟩ := hc k hkl
      have hSk := hS k hkl
      obtain ⟨g, hg⟩ : ∃ g, g = gs.getD k noG := ⟨_, rfl⟩
      have Hg : Hid (g = gs.getD k noG) := hg
      rw [← hg] at hGk hSk
      clear hg
      have hGs := hGk
      obtain ⟨⟨a1, c1, rfl, _⟩, ⟨a2, c2, rfl, _⟩, a3, c3, rfl, _⟩ := hGs
      have c0 := (hB.cell (p := ⟨b, o + k * 3, none⟩) hb).trans q0
      have c1 := (hB.cell (p := ⟨b, o + k * 3 + 1, none⟩) hb).trans q1
      have c2 := (hB.cell (p := ⟨b, o + k * 3 + 2, none⟩) hb).trans q2
      have sB := hB.size
      have hct := toGuest_any lo hi _ _ _ g wr (hGk.same (below_sameIn hB hh)) (by omega) hSk
      have hki : (k : Int) < (len : Int) := by omega
      clear q0 q1 q2 hc hGk
      go_wp2_with (fail)
      refine hct.mono ?_
      rintro e w1 ⟨b1, b2, b3, rfl, hO, B1⟩
      clear hct c0 c1 c2
      have sB1 := B1.size
      have R1 : Hid (Room w1 w.heap.size (len * 3)) := hR.out.below B1 hlt
      obtain ⟨⟨u0, d0⟩, f0⟩ := R1.out (k * 3) (by omega)
      obtain ⟨⟨u1, d1⟩, f1⟩ := R1.out (k * 3 + 1) (by omega)
      obtain ⟨⟨u2, d2⟩, f2⟩ := R1.out (k * 3 + 2) (by omega)
      have hlt2 : w.heap.size < w1.heap.size := by omega
      have HN := GuestsUp.step hE.out (below_sameIn B1 (Nat.le_refl _)) (below_sameIn B1 (by omega)) (by omega) R1.out (show k * 3 + 2 < len * 3 by omega) (Nat.le_refl _) sB1 (Or.inl hlt) (by rw [← Hg.out]; exact hO)
      have HN' : Hid (GuestsUp (((w1.setCell ⟨w.heap.size, k * 3, none⟩ (.slice (some ⟨b1, 0, none⟩) g.maps.length g.maps.length)).setCell ⟨w.heap.size, k * 3 + 1, none⟩ (.slice (some ⟨b2, 0, none⟩) g.disk.length g.disk.length)).setCell ⟨w.heap.size, k * 3 + 2, none⟩ (.slice (some ⟨b3, 0, none⟩) g.shades.length g.shades.length)) w.heap.size (w.heap.size + 1) w1.heap.size (k + 1) gs) := HN
      have HB1 : Hid (Below w.heap.size w w1) := hB.trans (B1.mono sB)
      clear hO B1 HN hE hR
      generalize g.maps.length = lm at *
      generalize g.disk.length = ld at *
      generalize g.shades.length = ls at *
      go_wp2
      go_roundw
      case rel =>
        refine ⟨k + 1, by omega, by go_num, ?_, ((R1.out.put _).put _).put _, by simpa using hlt2, ?_⟩
        · simp only [World.size_setCell]
          exact HN'
        · exact ((HB1.out.setCell (p := ⟨w.heap.size, k * 3, none⟩) (Nat.le_refl _) _).setCell (p := ⟨w.heap.size, k * 3 + 1, none⟩) (Nat.le_refl _) _).setCell (p := ⟨w.heap.size, k * 3 + 2, none⟩) (Nat.le_refl _) _
      case measure => simp [intOf]; omega
    · obtain rfl : k = len := by omega
      clear hR
      go_wp2
      go_ret
      exact ⟨rfl, hE.out, hlt, hB⟩

set_option maxHeartbeats 2000000 in
theorem toHost_any (lo hi : Nat) (vf vg : Value) (h : Hst) (w : World) (hH : HostIn w lo hi vf vg h) (hh : hi ≤ w.heap.size) (hS : SmallH h) :
    Calls Try.prog 22 #[.agg #[vf, vg, .int .i64 h.hand]] w fun e w' => ∃ b1 b2, e = .returned (.agg #[.slice (some ⟨b1, 0, none⟩) h.frames.length h.frames.length, .slice (some ⟨b2, 0, none⟩) h.guests.length h.guests.length, .int .i64 h.hand]) ∧ OwnHost w' w.heap.size w'.heap.size (.slice (some ⟨b1, 0, none⟩) h.frames.length h.frames.length) (.slice (some ⟨b2, 0, none⟩) h.guests.length h.guests.length) h ∧ Below w.heap.size w w' := by
  obtain ⟨⟨a1, c1, rfl, hF⟩, a2, c2, rfl, hG⟩ := hH
  obtain ⟨m1, m2, m3, m4⟩ := hS
  obtain ⟨W0, hW0⟩ : ∃ W0, W0 = ((w.alloc (.cells #[.slice a1 h.frames.length c1, .slice a2 h.guests.length c2, .int .i64 h.hand] 38)).alloc (.cells #[.slice none 0 0, .slice none 0 0, .int .i64 0] 27)).alloc (.cells #[.slice none 0 0, .slice none 0 0, .int .i64 0] 27) := ⟨_, rfl⟩
  have B0 : Below w.heap.size w W0 := by rw [hW0]; exact (((Below.refl _ _).alloc (Nat.le_refl _) _).alloc (by simp) _).alloc (by simp; omega) _
  have s0 : W0.heap.size = w.heap.size + 1 + 1 + 1 := by rw [hW0]; simp
  have x1 : W0.cell? ⟨w.heap.size, 1, none⟩ = some (.slice a2 h.guests.length c2) := by rw [hW0]; go_simp
  have x2 : W0.cell? ⟨w.heap.size, 2, none⟩ = some (.int .i64 h.hand) := by rw [hW0]; go_simp
  have rR : Room W0 (w.heap.size + 1) 3 := by
    rw [hW0]
    intro j hj
    match j, hj with
    | 0, _ => exact ⟨⟨.slice none 0 0, by go_simp⟩, by go_simp⟩
    | 1, _ => exact ⟨⟨.slice none 0 0, by go_simp⟩, by go_simp⟩
    | 2, _ => exact ⟨⟨.int .i64 0, by go_simp⟩, by go_simp⟩
  have rO : Room W0 (w.heap.size + 1 + 1) 3 := by
    rw [hW0]
    intro j hj
    match j, hj with
    | 0, _ => exact ⟨⟨.slice none 0 0, by go_simp⟩, by go_simp⟩
    | 1, _ => exact ⟨⟨.slice none 0 0, by go_simp⟩, by go_simp⟩
    | 2, _ => exact ⟨⟨.int .i64 0, by go_simp⟩, by go_simp⟩
  have hc1 := toIntSS_any lo hi a1 h.frames.length c1 h.frames W0 (hF.same (below_sameIn B0 hh)) (by omega) m1 m2
  rw [s0] at hc1
  go_enter Try.func22, Try.ntmps22
  go_wp2_with (fail)
  rw [← hW0]
  clear hW0
  refine hc1.mono ?_
  rintro e w1 ⟨rfl, hO1, B1⟩
  clear hc1
  have sB1 := B1.size
  have x1 := (B1.cell (p := ⟨w.heap.size, 1, none⟩) (by show w.heap.size < _; omega)).trans x1
  have x2 := (B1.cell (p := ⟨w.heap.size, 2, none⟩) (by show w.heap.size < _; omega)).trans x2
  have rR1 : Hid (Room w1 (w.heap.size + 1) 3) := rR.below B1 (by omega)
  have rO1 : Hid (Room w1 (w.heap.size + 1 + 1) 3) := rO.below B1 (by omega)
  obtain ⟨⟨u0, d0⟩, f0⟩ := rO1.out 0 (by omega)
  have HB1 : Hid (Below w.heap.size w w1) := B0.trans (B1.mono (by omega))
  have HO1 : Hid (OwnMem w1 (w.heap.size + 1 + 1 + 1) w1.heap.size (some ⟨w.heap.size + 1 + 1 + 1, 0, none⟩) h.frames.length h.frames) := hO1
  have hG1 : Hid (IsGuests w1 lo hi a2 h.guests.length h.guests) := hG.same (below_sameIn HB1.out hh)
  have l0 : w.heap.size < w1.heap.size := by omega
  have l3 : w.heap.size + 1 + 1 + 1 ≤ w1.heap.size := by omega
  clear hO1 B1 B0 rR rO hF hG s0 sB1
  generalize hlm : h.frames.length = lm at *
  go_wp2_with (fail)
  obtain ⟨W2, hW2⟩ : ∃ W2, W2 = w1.setCell ⟨w.heap.size + 1 + 1, 0, none⟩ (.slice (some ⟨w.heap.size + 1 + 1 + 1, 0, none⟩) lm lm) := ⟨_, rfl⟩
  rw [← hW2]
  have s2 : W2.heap.size = w1.heap.size := by rw [hW2]; simp
  have t2 : ∀ p q, w.heap.size + 1 + 1 + 1 ≤ p → SameIn p q w1 W2 := fun p q h => by rw [hW2]; exact sameIn_set w1 (Or.inl (by omega)) _
  have t2' : ∀ q, q ≤ w.heap.size → SameIn lo q w1 W2 := fun q h => by rw [hW2]; exact sameIn_set w1 (Or.inr (by omega)) _
  have y0 : W2.cell? ⟨w.heap.size + 1 + 1, 0, none⟩ = some (.slice (some ⟨w.heap.size + 1 + 1 + 1, 0, none⟩) lm lm) := by rw [hW2]; go_simp
  have x2 : W2.cell? ⟨w.heap.size, 2, none⟩ = some (.int .i64 h.hand) := by rw [hW2]; go_simp
  have rO2 : Hid (Room W2 (w.heap.size + 1 + 1) 3) := by rw [hW2]; exact rO1.out.put _
  have rR2 : Hid (Room W2 (w.heap.size + 1) 3) := rR1.out.same (w' := W2) (lo := w.heap.size + 1) (hi := w.heap.size + 1 + 1) (by rw [hW2]; exact sameIn_set w1 (Or.inr (by omega)) _) (Nat.le_refl _) (Nat.lt_succ_self _)
  have HB2 : Hid (Below w.heap.size w W2) := by rw [hW2]; exact HB1.out.setCell (p := ⟨w.heap.size + 1 + 1, 0, none⟩) (by show w.heap.size ≤ w.heap.size + 1 + 1; omega) _
  clear hW2 d0 f0 rO1 rR1 x1
  have hc2 := toGuestS_any lo hi a2 h.guests.length c2 h.guests W2 (hG1.out.same (t2' hi hh)) (by omega) m3 m4
  refine hc2.mono ?_
  rintro e w3 ⟨rfl, hU3, l3', B3⟩
  clear hc2
  rw [s2] at hU3 l3'
  have x2 := (B3.cell (p := ⟨w.heap.size, 2, none⟩) (by show w.heap.size < _; omega)).trans x2
  have y0 := (B3.cell (p := ⟨w.heap.size + 1 + 1, 0, none⟩) (by show w.heap.size + 1 + 1 < _; omega)).trans y0
  have rO3 : Hid (Room w3 (w.heap.size + 1 + 1) 3) := rO2.out.below B3 (by omega)
  have rR3 : Hid (Room w3 (w.heap.size + 1) 3) := rR2.out.below B3 (by omega)
  obtain ⟨⟨u1, d1⟩, f1⟩ := rO3.out 1 (by omega)
  obtain ⟨⟨u2, d2⟩, f2⟩ := rO3.out 2 (by omega)
  obtain ⟨⟨v0, g0⟩, h0⟩ := rR3.out 0 (by omega)
  obtain ⟨⟨v1, g1⟩, h1⟩ := rR3.out 1 (by omega)
  obtain ⟨⟨v2, g2⟩, h2⟩ := rR3.out 2 (by omega)
  have HB3 : Hid (Below w.heap.size w w3) := HB2.out.trans (B3.mono HB2.out.size)
  have HU3 : Hid (GuestsUp w3 w1.heap.size (w1.heap.size + 1) w3.heap.size h.guests.length h.guests) := hU3
  have t3 : Hid (SameIn (w.heap.size + 1 + 1 + 1) w1.heap.size w1 w3) := (t2 _ _ (Nat.le_refl _)).then (below_sameIn B3 (by omega))
  clear hU3 B3 rO2 rR2 HB2 t2 t2' hG1
  rw [s2]
  clear s2
  generalize hld : h.guests.length = ld at *
  have l03 : w.heap.size < w3.heap.size := by omega
  go_wp2
  obtain ⟨W6, hW6⟩ : ∃ W6, W6 = (w3.setCell ⟨w.heap.size + 1 + 1, 1, none⟩ (.slice (some ⟨w1.heap.size, 0, none⟩) ld ld)).setCell ⟨w.heap.size + 1 + 1, 2, none⟩ (.int .i64 h.hand) := ⟨_, rfl⟩
  rw [← hW6]
  obtain ⟨W7, hW7⟩ : ∃ W7, W7 = ((W6.setCell ⟨w.heap.size + 1, 0, none⟩ (.slice (some ⟨w.heap.size + 1 + 1 + 1, 0, none⟩) lm lm)).setCell ⟨w.heap.size + 1, 1, none⟩ (.slice (some ⟨w1.heap.size, 0, none⟩) ld ld)).setCell ⟨w.heap.size + 1, 2, none⟩ (.int .i64 h.hand) := ⟨_, rfl⟩
  rw [← hW7]
  have t7 : ∀ p q, w.heap.size + 1 + 1 + 1 ≤ p → SameIn p q w3 W7 := fun p q h => by
    rw [hW7, hW6]
    exact ((((sameIn_set _ (Or.inl (by omega)) _).then (sameIn_set _ (Or.inl (by omega)) _)).then (sameIn_set _ (Or.inl (by omega)) _)).then (sameIn_set _ (Or.inl (by omega)) _)).then (sameIn_set _ (Or.inl (by omega)) _)
  have s7 : W7.heap.size = w3.heap.size := by rw [hW7, hW6]; simp
  have HB7 : Below w.heap.size w W7 := by
    rw [hW7, hW6]
    exact ((((HB3.out.setCell (p := ⟨w.heap.size + 1 + 1, 1, none⟩) (by show w.heap.size ≤ w.heap.size + 1 + 1; omega) _).setCell (p := ⟨w.heap.size + 1 + 1, 2, none⟩) (by show w.heap.size ≤ w.heap.size + 1 + 1; omega) _).setCell (p := ⟨w.heap.size + 1, 0, none⟩) (by show w.heap.size ≤ w.heap.size + 1; omega) _).setCell (p := ⟨w.heap.size + 1, 1, none⟩) (by show w.heap.size ≤ w.heap.size + 1; omega) _).setCell (p := ⟨w.heap.size + 1, 2, none⟩) (by show w.heap.size ≤ w.heap.size + 1; omega) _
  have z0 : W7.cell? ⟨w.heap.size + 1, 0, none⟩ = some (.slice (some ⟨w.heap.size + 1 + 1 + 1, 0, none⟩) lm lm) := by rw [hW7, hW6]; go_simp
  have z1 : W7.cell? ⟨w.heap.size + 1, 1, none⟩ = some (.slice (some ⟨w1.heap.size, 0, none⟩) ld ld) := by rw [hW7, hW6]; go_simp
  have z2 : W7.cell? ⟨w.heap.size + 1, 2, none⟩ = some (.int .i64 h.hand) := by rw [hW7, hW6]; go_simp
  have sE : SameIn (w.heap.size + 1 + 1 + 1) w1.heap.size w1 W7 := t3.out.then (t7 _ _ (Nat.le_refl _))
  have sD : SameIn (w1.heap.size + 1) w3.heap.size w3 W7 := t7 _ _ (by omega)
  have sT : SameIn w1.heap.size (w1.heap.size + 1) w3 W7 := t7 _ _ (by omega)
  clear hW7 hW6
  refine bodyPost_ret (v := .agg #[.slice (some ⟨w.heap.size + 1 + 1 + 1, 0, none⟩) lm lm, .slice (some ⟨w1.heap.size, 0, none⟩) ld ld, .int .i64 h.hand]) (by simp [results, Try.results22, go_sem, z0, z1, z2]) rfl ⟨w.heap.size + 1 + 1 + 1, w1.heap.size, by rw [hlm, hld], ?_, HB7⟩
  rw [hlm, hld, s7]
  have hD7 := HO1.out.same sE
  have hU7 := HU3.out.same sD sT
  exact ⟨some ⟨w.heap.size + 1 + 1 + 1, 0, none⟩, lm, w.heap.size + 1 + 1 + 1, w1.heap.size, by rw [hlm], by rw [hlm]; exact hD7, by omega, by omega, some ⟨w1.heap.size, 0, none⟩, ld, by rw [hld], Or.inr ⟨w1.heap.size, w1.heap.size + 1, rfl, by omega, by omega, Or.inr (Nat.le_refl _), by omega, by omega, by rw [hld]; exact hU7⟩⟩
end Go.Proofs.Ytdamdjhnhkmncaa
