/-
  What the drawing of an act gives, whatever the bytes are: five small numbers.
-/
import Derived.Test.YteelpikhijkmdaaDoorActs0
import Derived.Test.YteelpikhijkmdaaDoorPick0
namespace Go.Proofs.YteelpikhijkmdaaDoor
open Go.RowKit

theorem hidA {p : Prop} (h : p) : Hid p := h
/-- Five small numbers, the guest one of so many. -/
def SmA (n : Int) (a : A5) : Prop := (-1 ≤ a.1 ∧ a.1 ≤ 64) ∧ (0 ≤ a.2.1 ∧ a.2.1 < n) ∧ (-1 ≤ a.2.2.1 ∧ a.2.2.1 ≤ 64) ∧ (-1 ≤ a.2.2.2.1 ∧ a.2.2.2.1 ≤ 64) ∧ (-1 ≤ a.2.2.2.2 ∧ a.2.2.2.2 ≤ 64)

theorem pickB (rb k : Nat) (n : Int) (w0 w : World) (hr : Rd w rb k) (hA : Adv rb w0 w) (hk : k ≤ 900000) (hn : 1 ≤ n) (hn2 : n ≤ 1000000) :
    Calls Tryd.prog 55 #[.pointer (some ⟨rb, 0, none⟩), .int .i64 n] w fun e w' => ∃ v : Int, e = .returned (.int .i64 v) ∧ 0 ≤ v ∧ v < n ∧ Rd w' rb (k + 1) ∧ Adv rb w0 w' ∧ Adv rb w w' := by
  refine (pickA rb k n w hr hk hn hn2).mono ?_
  rintro e w' ⟨v, rfl, h1, h2, h3⟩
  exact ⟨v, rfl, Int.natCast_nonneg v, h1, h2, hA.trans h3, h3⟩
theorem wordB (rb k : Nat) (w0 w : World) (hr : Rd w rb k) (hA : Adv rb w0 w) (hk : k ≤ 800000) :
    Calls Tryd.prog 56 #[.pointer (some ⟨rb, 0, none⟩)] w fun e w' => ∃ (z : Int) (k' : Nat), e = .returned (.int .i64 z) ∧ 0 ≤ z ∧ z ≤ 63 ∧ Rd w' rb k' ∧ k' ≤ k + 2 ∧ Adv rb w0 w' := by
  refine (drawWord rb k w hr hk).mono ?_
  rintro e w' ⟨v, k', rfl, h1, h2, h3, h4⟩
  exact ⟨v, k', rfl, Int.natCast_nonneg v, by omega, h2, h3, hA.trans h4⟩
/-- The five cells of an act that is being made, behind a draw. -/
theorem Adv.keep5 {rb : Nat} {W w1 : World} (h : Adv rb W w1) {b : Nat} (hN : b < W.heap.size) (hn : b ≠ rb) {v0 v1 v2 v3 v4 : Value}
    (c0 : W.cell? ⟨b, 0, none⟩ = some v0) (c1 : W.cell? ⟨b, 1, none⟩ = some v1) (c2 : W.cell? ⟨b, 2, none⟩ = some v2) (c3 : W.cell? ⟨b, 3, none⟩ = some v3) (c4 : W.cell? ⟨b, 4, none⟩ = some v4) (hf : ∀ i, W.frozen? ⟨b, i, none⟩ = false) :
    w1.cell? ⟨b, 0, none⟩ = some v0 ∧ w1.cell? ⟨b, 1, none⟩ = some v1 ∧ w1.cell? ⟨b, 2, none⟩ = some v2 ∧ w1.cell? ⟨b, 3, none⟩ = some v3 ∧ w1.cell? ⟨b, 4, none⟩ = some v4 ∧ (∀ i, w1.frozen? ⟨b, i, none⟩ = false) ∧ b < w1.heap.size :=
  ⟨(h.cell (p := ⟨b, 0, none⟩) hN hn).trans c0, (h.cell (p := ⟨b, 1, none⟩) hN hn).trans c1, (h.cell (p := ⟨b, 2, none⟩) hN hn).trans c2, (h.cell (p := ⟨b, 3, none⟩) hN hn).trans c3, (h.cell (p := ⟨b, 4, none⟩) hN hn).trans c4, fun i => (h.frozen (p := ⟨b, i, none⟩) hN hn).trans (hf i), Nat.lt_of_lt_of_le hN h.size⟩

/-- The five cells of an act, to be written. -/
def C5 (w : World) (b : Nat) (v0 v1 v2 v3 v4 : Value) : Prop :=
  w.cell? ⟨b, 0, none⟩ = some v0 ∧ w.cell? ⟨b, 1, none⟩ = some v1 ∧ w.cell? ⟨b, 2, none⟩ = some v2 ∧ w.cell? ⟨b, 3, none⟩ = some v3 ∧ w.cell? ⟨b, 4, none⟩ = some v4 ∧ (∀ i, w.frozen? ⟨b, i, none⟩ = false) ∧ b < w.heap.size
theorem C5.adv {rb : Nat} {W w1 : World} {b : Nat} {v0 v1 v2 v3 v4 : Value} (h : C5 W b v0 v1 v2 v3 v4) (ha : Adv rb W w1) (hn : b ≠ rb) : C5 w1 b v0 v1 v2 v3 v4 := ha.keep5 h.2.2.2.2.2.2 hn h.1 h.2.1 h.2.2.1 h.2.2.2.1 h.2.2.2.2.1 h.2.2.2.2.2.1
theorem C5.alloc {W : World} {b : Nat} {v0 v1 v2 v3 v4 : Value} (h : C5 W b v0 v1 v2 v3 v4) (o : Obj) : C5 (W.alloc o) b v0 v1 v2 v3 v4 := h.adv (rb := b + 1) ((Adv.refl _ _).alloc o) (by omega)
theorem C5.off {W : World} {b : Nat} {v0 v1 v2 v3 v4 : Value} (h : C5 W b v0 v1 v2 v3 v4) {b' : Nat} (hn : b ≠ b') (j : Nat) (u : Value) : C5 (W.setCell ⟨b', j, none⟩ u) b v0 v1 v2 v3 v4 :=
  h.adv (rb := b') ((Adv.refl _ _).setCell (p := ⟨b', j, none⟩) (Or.inl rfl) u) hn
theorem frozen_set {W : World} {b j i : Nat} (u : Value) (h : W.frozen? ⟨b, i, none⟩ = false) : (W.setCell ⟨b, j, none⟩ u).frozen? ⟨b, i, none⟩ = false := by rw [← h]; go_simp
theorem C5.put0 {W : World} {b : Nat} {v0 v1 v2 v3 v4 : Value} (h : C5 W b v0 v1 v2 v3 v4) (u : Value) : C5 (W.setCell ⟨b, 0, none⟩ u) b u v1 v2 v3 v4 :=
  ⟨cell_put h.1, (cell_put h.2.1).trans (by simp), (cell_put h.2.2.1).trans (by simp), (cell_put h.2.2.2.1).trans (by simp), (cell_put h.2.2.2.2.1).trans (by simp), fun i => frozen_set u (h.2.2.2.2.2.1 i), by simpa using h.2.2.2.2.2.2⟩
theorem C5.put2 {W : World} {b : Nat} {v0 v1 v2 v3 v4 : Value} (h : C5 W b v0 v1 v2 v3 v4) (u : Value) : C5 (W.setCell ⟨b, 2, none⟩ u) b v0 v1 u v3 v4 :=
  ⟨(cell_put h.1).trans (by simp), (cell_put h.2.1).trans (by simp), cell_put h.2.2.1, (cell_put h.2.2.2.1).trans (by simp), (cell_put h.2.2.2.2.1).trans (by simp), fun i => frozen_set u (h.2.2.2.2.2.1 i), by simpa using h.2.2.2.2.2.2⟩
theorem C5.put3 {W : World} {b : Nat} {v0 v1 v2 v3 v4 : Value} (h : C5 W b v0 v1 v2 v3 v4) (u : Value) : C5 (W.setCell ⟨b, 3, none⟩ u) b v0 v1 v2 u v4 :=
  ⟨(cell_put h.1).trans (by simp), (cell_put h.2.1).trans (by simp), (cell_put h.2.2.1).trans (by simp), cell_put h.2.2.2.1, (cell_put h.2.2.2.2.1).trans (by simp), fun i => frozen_set u (h.2.2.2.2.2.1 i), by simpa using h.2.2.2.2.2.2⟩
theorem C5.put4 {W : World} {b : Nat} {v0 v1 v2 v3 v4 : Value} (h : C5 W b v0 v1 v2 v3 v4) (u : Value) : C5 (W.setCell ⟨b, 4, none⟩ u) b v0 v1 v2 v3 u :=
  ⟨(cell_put h.1).trans (by simp), (cell_put h.2.1).trans (by simp), (cell_put h.2.2.1).trans (by simp), (cell_put h.2.2.2.1).trans (by simp), cell_put h.2.2.2.2.1, fun i => frozen_set u (h.2.2.2.2.2.1 i), by simpa using h.2.2.2.2.2.2⟩

set_option maxRecDepth 100000 in
set_option maxHeartbeats 4000000 in
theorem drawAct (rb k : Nat) (n : Int) (w : World) (hr : Rd w rb k) (hk : k ≤ 700000) (hn : 1 ≤ n) (hn2 : n ≤ 64) :
    Calls Tryd.prog 42 #[.pointer (some ⟨rb, 0, none⟩), .int .i64 n] w fun e w' => ∃ a, e = .returned (actV a) ∧ SmA n a ∧ (∃ k', Rd w' rb k' ∧ k' ≤ k + 10) ∧ Adv rb w w' := by
  have hlt := hr.lt
  obtain ⟨W0, hW0⟩ : ∃ W0, W0 = w.alloc (.cells #[.int .i64 0, .int .i64 0, .int .i64 0, .int .i64 0, .int .i64 0] 37) := ⟨_, rfl⟩
  have hA := Adv.refl rb W0
  have hA0 : Adv rb w W0 := by rw [hW0]; exact (Adv.refl rb w).alloc _
  have hr0 : Rd W0 rb k := by rw [hW0]; exact hr.alloc _
  have hs0 : w.heap.size < W0.heap.size := by rw [hW0]; simp
  obtain ⟨r0, r1, r2, r3, r4, rf⟩ : W0.cell? ⟨w.heap.size, 0, none⟩ = some (.int .i64 0) ∧ W0.cell? ⟨w.heap.size, 1, none⟩ = some (.int .i64 0) ∧ W0.cell? ⟨w.heap.size, 2, none⟩ = some (.int .i64 0) ∧ W0.cell? ⟨w.heap.size, 3, none⟩ = some (.int .i64 0) ∧ W0.cell? ⟨w.heap.size, 4, none⟩ = some (.int .i64 0) ∧ ∀ i, W0.frozen? ⟨w.heap.size, i, none⟩ = false := by rw [hW0]; simp
  go_enter Tryd.func42, Tryd.ntmps42
  go_wp2_with (fail)
  rw [← hW0]
  clear hW0 hr
  refine (pickB rb k n W0 _ hr0 hA (by omega) (by omega) (by omega)).mono ?_
  rintro e w1 ⟨g, rfl, hg', hg, hr1, hA1, _⟩
  clear hr0 hA
  go_wp2_with (fail)
  refine (pickB rb (k + 1) 6 W0 _ hr1 hA1 (by omega) (by omega) (by omega)).mono ?_
  rintro e w2 ⟨p, rfl, hp', hp, hr2, hA2, _⟩
  clear hr1 hA1
  go_wp2_with (fail)
  refine (pickB rb (k + 1 + 1) 4 W0 _ hr2 hA2 (by omega) (by omega) (by omega)).mono ?_
  rintro e w3 ⟨o, rfl, ho', ho, hr3, hA3, _⟩
  clear hr2 hA2
  go_wp2_with (fail)
  refine (wordB rb (k + 1 + 1 + 1) W0 _ hr3 hA3 (by omega)).mono ?_
  rintro e w4 ⟨z, k4, rfl, hz', hz, hr4, hk4, hA4⟩
  clear hr3 hA3
  have hs4 := hA4.size
  go_wp2_with (fail)
  refine (pickB rb k4 20 W0 _ (hr4.alloc _) (hA4.alloc _) (by omega) (by omega) (by omega)).mono ?_
  rintro e w5 ⟨v, rfl, hv', hv, hr, hA5, ha5⟩
  have hC : Hid (C5 w5 w4.heap.size (.int .i64 0) (.int .i64 g) (.int .i64 p) (.int .i64 o) (.int .i64 z)) := C5.adv (W := w4.alloc (.cells #[.int .i64 0, .int .i64 g, .int .i64 p, .int .i64 o, .int .i64 z] 37)) ⟨by simp, by simp, by simp, by simp, by simp, by simp, by simp⟩ ha5 (by omega)
  have hR : Hid (C5 w5 w.heap.size (.int .i64 0) (.int .i64 0) (.int .i64 0) (.int .i64 0) (.int .i64 0)) := C5.adv ⟨r0, r1, r2, r3, r4, rf, hs0⟩ hA5 (by omega)
  clear r0 r1 r2 r3 r4 rf
  obtain ⟨c0, c1, c2, c3, c4, cf, hs5⟩ := hC.out
  obtain ⟨r0, r1, r2, r3, r4, rf, hsr⟩ := hR.out
  have cf0 := cf 0
  have cf2 := cf 2
  have cf3 := cf 3
  have cf4 := cf 4
  have rf0 := rf 0
  have rf1 := rf 1
  have rf2 := rf 2
  have rf3 := rf 3
  have rf4 := rf 4
  have hne : w4.heap.size ≠ w.heap.size := by omega
  have hne' : w.heap.size ≠ w4.heap.size := by omega
  have hle4 : w.heap.size ≤ w4.heap.size := by omega
  have hltr : rb < w4.heap.size := by omega
  have hA := hA0.trans hA5
  clear hr4 hA4 ha5 hA5 hA0 cf rf
  go_wp2_with (fail)
  · (refine bodyPost_ret (v := actV (_, _, _, _, _)) (by simp [results, Tryd.results42, go_sem, *]; unfold actV; with_reducible rfl) rfl ⟨_, rfl, ?_, ⟨_, (by (repeat' (with_reducible (first | exact hr | apply Rd.drewN | apply Rd.drew | apply Rd.alloc | apply Rd.other))) <;> (first | omega | (simp; omega))), (by omega)⟩, (by (repeat' (with_reducible (first | exact hA | apply Adv.drewN | apply Adv.drew | apply Adv.alloc | apply Adv.setCell))) <;> (first | exact Or.inr (Nat.le_refl _) | exact Or.inr (by simpa using hle4)))⟩; refine ⟨⟨?_, ?_⟩, ⟨?_, ?_⟩, ⟨?_, ?_⟩, ⟨?_, ?_⟩, ⟨?_, ?_⟩⟩ <;> (dsimp only; omega))
  · (refine bodyPost_ret (v := actV (_, _, _, _, _)) (by simp [results, Tryd.results42, go_sem, *]; unfold actV; with_reducible rfl) rfl ⟨_, rfl, ?_, ⟨_, (by (repeat' (with_reducible (first | exact hr | apply Rd.drewN | apply Rd.drew | apply Rd.alloc | apply Rd.other))) <;> (first | omega | (simp; omega))), (by omega)⟩, (by (repeat' (with_reducible (first | exact hA | apply Adv.drewN | apply Adv.drew | apply Adv.alloc | apply Adv.setCell))) <;> (first | exact Or.inr (Nat.le_refl _) | exact Or.inr (by simpa using hle4)))⟩; refine ⟨⟨?_, ?_⟩, ⟨?_, ?_⟩, ⟨?_, ?_⟩, ⟨?_, ?_⟩, ⟨?_, ?_⟩⟩ <;> (dsimp only; omega))
  · (refine bodyPost_ret (v := actV (_, _, _, _, _)) (by simp [results, Tryd.results42, go_sem, *]; unfold actV; with_reducible rfl) rfl ⟨_, rfl, ?_, ⟨_, (by (repeat' (with_reducible (first | exact hr | apply Rd.drewN | apply Rd.drew | apply Rd.alloc | apply Rd.other))) <;> (first | omega | (simp; omega))), (by omega)⟩, (by (repeat' (with_reducible (first | exact hA | apply Adv.drewN | apply Adv.drew | apply Adv.alloc | apply Adv.setCell))) <;> (first | exact Or.inr (Nat.le_refl _) | exact Or.inr (by simpa using hle4)))⟩; refine ⟨⟨?_, ?_⟩, ⟨?_, ?_⟩, ⟨?_, ?_⟩, ⟨?_, ?_⟩, ⟨?_, ?_⟩⟩ <;> (dsimp only; omega))
  · (refine bodyPost_ret (v := actV (_, _, _, _, _)) (by simp [results, Tryd.results42, go_sem, *]; unfold actV; with_reducible rfl) rfl ⟨_, rfl, ?_, ⟨_, (by (repeat' (with_reducible (first | exact hr | apply Rd.drewN | apply Rd.drew | apply Rd.alloc | apply Rd.other))) <;> (first | omega | (simp; omega))), (by omega)⟩, (by (repeat' (with_reducible (first | exact hA | apply Adv.drewN | apply Adv.drew | apply Adv.alloc | apply Adv.setCell))) <;> (first | exact Or.inr (Nat.le_refl _) | exact Or.inr (by simpa using hle4)))⟩; refine ⟨⟨?_, ?_⟩, ⟨?_, ?_⟩, ⟨?_, ?_⟩, ⟨?_, ?_⟩, ⟨?_, ?_⟩⟩ <;> (dsimp only; omega))
  rotate_left 2
  · (refine bodyPost_ret (v := actV (_, _, _, _, _)) (by simp [results, Tryd.results42, go_sem, *]; unfold actV; with_reducible rfl) rfl ⟨_, rfl, ?_, ⟨_, (by (repeat' (with_reducible (first | exact hr | apply Rd.drewN | apply Rd.drew | apply Rd.alloc | apply Rd.other))) <;> (first | omega | (simp; omega))), (by omega)⟩, (by (repeat' (with_reducible (first | exact hA | apply Adv.drewN | apply Adv.drew | apply Adv.alloc | apply Adv.setCell))) <;> (first | exact Or.inr (Nat.le_refl _) | exact Or.inr (by simpa using hle4)))⟩; refine ⟨⟨?_, ?_⟩, ⟨?_, ?_⟩, ⟨?_, ?_⟩, ⟨?_, ?_⟩, ⟨?_, ?_⟩⟩ <;> (dsimp only; omega))
  · (refine bodyPost_ret (v := actV (_, _, _, _, _)) (by simp [results, Tryd.results42, go_sem, *]; unfold actV; with_reducible rfl) rfl ⟨_, rfl, ?_, ⟨_, (by (repeat' (with_reducible (first | exact hr | apply Rd.drewN | apply Rd.drew | apply Rd.alloc | apply Rd.other))) <;> (first | omega | (simp; omega))), (by omega)⟩, (by (repeat' (with_reducible (first | exact hA | apply Adv.drewN | apply Adv.drew | apply Adv.alloc | apply Adv.setCell))) <;> (first | exact Or.inr (Nat.le_refl _) | exact Or.inr (by simpa using hle4)))⟩; refine ⟨⟨?_, ?_⟩, ⟨?_, ?_⟩, ⟨?_, ?_⟩, ⟨?_, ?_⟩, ⟨?_, ?_⟩⟩ <;> (dsimp only; omega))
  · (refine bodyPost_ret (v := actV (_, _, _, _, _)) (by simp [results, Tryd.results42, go_sem, *]; unfold actV; with_reducible rfl) rfl ⟨_, rfl, ?_, ⟨_, (by (repeat' (with_reducible (first | exact hr | apply Rd.drewN | apply Rd.drew | apply Rd.alloc | apply Rd.other))) <;> (first | omega | (simp; omega))), (by omega)⟩, (by (repeat' (with_reducible (first | exact hA | apply Adv.drewN | apply Adv.drew | apply Adv.alloc | apply Adv.setCell))) <;> (first | exact Or.inr (Nat.le_refl _) | exact Or.inr (by simpa using hle4)))⟩; refine ⟨⟨?_, ?_⟩, ⟨?_, ?_⟩, ⟨?_, ?_⟩, ⟨?_, ?_⟩, ⟨?_, ?_⟩⟩ <;> (dsimp only; omega))
  · (refine bodyPost_ret (v := actV (_, _, _, _, _)) (by simp [results, Tryd.results42, go_sem, *]; unfold actV; with_reducible rfl) rfl ⟨_, rfl, ?_, ⟨_, (by (repeat' (with_reducible (first | exact hr | apply Rd.drewN | apply Rd.drew | apply Rd.alloc | apply Rd.other))) <;> (first | omega | (simp; omega))), (by omega)⟩, (by (repeat' (with_reducible (first | exact hA | apply Adv.drewN | apply Adv.drew | apply Adv.alloc | apply Adv.setCell))) <;> (first | exact Or.inr (Nat.le_refl _) | exact Or.inr (by simpa using hle4)))⟩; refine ⟨⟨?_, ?_⟩, ⟨?_, ?_⟩, ⟨?_, ?_⟩, ⟨?_, ?_⟩, ⟨?_, ?_⟩⟩ <;> (dsimp only; omega))
  · (refine bodyPost_ret (v := actV (_, _, _, _, _)) (by simp [results, Tryd.results42, go_sem, *]; unfold actV; with_reducible rfl) rfl ⟨_, rfl, ?_, ⟨_, (by (repeat' (with_reducible (first | exact hr | apply Rd.drewN | apply Rd.drew | apply Rd.alloc | apply Rd.other))) <;> (first | omega | (simp; omega))), (by omega)⟩, (by (repeat' (with_reducible (first | exact hA | apply Adv.drewN | apply Adv.drew | apply Adv.alloc | apply Adv.setCell))) <;> (first | exact Or.inr (Nat.le_refl _) | exact Or.inr (by simpa using hle4)))⟩; refine ⟨⟨?_, ?_⟩, ⟨?_, ?_⟩, ⟨?_, ?_⟩, ⟨?_, ?_⟩, ⟨?_, ?_⟩⟩ <;> (dsimp only; omega))
  · (refine bodyPost_ret (v := actV (_, _, _, _, _)) (by simp [results, Tryd.results42, go_sem, *]; unfold actV; with_reducible rfl) rfl ⟨_, rfl, ?_, ⟨_, (by (repeat' (with_reducible (first | exact hr | apply Rd.drewN | apply Rd.drew | apply Rd.alloc | apply Rd.other))) <;> (first | omega | (simp; omega))), (by omega)⟩, (by (repeat' (with_reducible (first | exact hA | apply Adv.drewN | apply Adv.drew | apply Adv.alloc | apply Adv.setCell))) <;> (first | exact Or.inr (Nat.le_refl _) | exact Or.inr (by simpa using hle4)))⟩; refine ⟨⟨?_, ?_⟩, ⟨?_, ?_⟩, ⟨?_, ?_⟩, ⟨?_, ?_⟩, ⟨?_, ?_⟩⟩ <;> (dsimp only; omega))
  · (refine bodyPost_ret (v := actV (_, _, _, _, _)) (by simp [results, Tryd.results42, go_sem, *]; unfold actV; with_reducible rfl) rfl ⟨_, rfl, ?_, ⟨_, (by (repeat' (with_reducible (first | exact hr | apply Rd.drewN | apply Rd.drew | apply Rd.alloc | apply Rd.other))) <;> (first | omega | (simp; omega))), (by omega)⟩, (by (repeat' (with_reducible (first | exact hA | apply Adv.drewN | apply Adv.drew | apply Adv.alloc | apply Adv.setCell))) <;> (first | exact Or.inr (Nat.le_refl _) | exact Or.inr (by simpa using hle4)))⟩; refine ⟨⟨?_, ?_⟩, ⟨?_, ?_⟩, ⟨?_, ?_⟩, ⟨?_, ?_⟩, ⟨?_, ?_⟩⟩ <;> (dsimp only; omega))
  · (refine bodyPost_ret (v := actV (_, _, _, _, _)) (by simp [results, Tryd.results42, go_sem, *]; unfold actV; with_reducible rfl) rfl ⟨_, rfl, ?_, ⟨_, (by (repeat' (with_reducible (first | exact hr | apply Rd.drewN | apply Rd.drew | apply Rd.alloc | apply Rd.other))) <;> (first | omega | (simp; omega))), (by omega)⟩, (by (repeat' (with_reducible (first | exact hA | apply Adv.drewN | apply Adv.drew | apply Adv.alloc | apply Adv.setCell))) <;> (first | exact Or.inr (Nat.le_refl _) | exact Or.inr (by simpa using hle4)))⟩; refine ⟨⟨?_, ?_⟩, ⟨?_, ?_⟩, ⟨?_, ?_⟩, ⟨?_, ?_⟩, ⟨?_, ?_⟩⟩ <;> (dsimp only; omega))
  · (refine bodyPost_ret (v := actV (_, _, _, _, _)) (by simp [results, Tryd.results42, go_sem, *]; unfold actV; with_reducible rfl) rfl ⟨_, rfl, ?_, ⟨_, (by (repeat' (with_reducible (first | exact hr | apply Rd.drewN | apply Rd.drew | apply Rd.alloc | apply Rd.other))) <;> (first | omega | (simp; omega))), (by omega)⟩, (by (repeat' (with_reducible (first | exact hA | apply Adv.drewN | apply Adv.drew | apply Adv.alloc | apply Adv.setCell))) <;> (first | exact Or.inr (Nat.le_refl _) | exact Or.inr (by simpa using hle4)))⟩; refine ⟨⟨?_, ?_⟩, ⟨?_, ?_⟩, ⟨?_, ?_⟩, ⟨?_, ?_⟩, ⟨?_, ?_⟩⟩ <;> (dsimp only; omega))
  · (refine bodyPost_ret (v := actV (_, _, _, _, _)) (by simp [results, Tryd.results42, go_sem, *]; unfold actV; with_reducible rfl) rfl ⟨_, rfl, ?_, ⟨_, (by (repeat' (with_reducible (first | exact hr | apply Rd.drewN | apply Rd.drew | apply Rd.alloc | apply Rd.other))) <;> (first | omega | (simp; omega))), (by omega)⟩, (by (repeat' (with_reducible (first | exact hA | apply Adv.drewN | apply Adv.drew | apply Adv.alloc | apply Adv.setCell))) <;> (first | exact Or.inr (Nat.le_refl _) | exact Or.inr (by simpa using hle4)))⟩; refine ⟨⟨?_, ?_⟩, ⟨?_, ?_⟩, ⟨?_, ?_⟩, ⟨?_, ?_⟩, ⟨?_, ?_⟩⟩ <;> (dsimp only; omega))
  · (refine bodyPost_ret (v := actV (_, _, _, _, _)) (by simp [results, Tryd.results42, go_sem, *]; unfold actV; with_reducible rfl) rfl ⟨_, rfl, ?_, ⟨_, (by (repeat' (with_reducible (first | exact hr | apply Rd.drewN | apply Rd.drew | apply Rd.alloc | apply Rd.other))) <;> (first | omega | (simp; omega))), (by omega)⟩, (by (repeat' (with_reducible (first | exact hA | apply Adv.drewN | apply Adv.drew | apply Adv.alloc | apply Adv.setCell))) <;> (first | exact Or.inr (Nat.le_refl _) | exact Or.inr (by simpa using hle4)))⟩; refine ⟨⟨?_, ?_⟩, ⟨?_, ?_⟩, ⟨?_, ?_⟩, ⟨?_, ?_⟩, ⟨?_, ?_⟩⟩ <;> (dsimp only; omega))
  · refine (pickB rb _ _ w _ (by (repeat' (with_reducible (first | exact hr | apply Rd.drewN | apply Rd.drew | apply Rd.alloc | apply Rd.other))) <;> (first | omega | (simp; omega))) (by (repeat' (with_reducible (first | exact hA | apply Adv.drewN | apply Adv.drew | apply Adv.alloc | apply Adv.setCell))) <;> (first | exact Or.inr (Nat.le_refl _) | exact Or.inr (by simpa using hle4))) (by omega) (by omega) (by omega)).mono ?_; rintro e w6 ⟨x, rfl, hx', hx, hr, hA, ha⟩; clear c0 c1 c2 c3 c4 cf0 cf2 cf3 cf4 r0 r1 r2 r3 r4 rf0 rf1 rf2 rf3 rf4 hs5 hsr
    have hC := hidA ((hC.out.put0 (.int .i64 8)).adv ha (by omega))
    have hR := hidA ((hR.out.off hne' 0 (.int .i64 8)).adv ha (by omega))
    obtain ⟨c0, c1, c2, c3, c4, cf, hs5⟩ := hC.out; obtain ⟨r0, r1, r2, r3, r4, rf, hsr⟩ := hR.out; have cf0 := cf 0; have cf2 := cf 2; have cf3 := cf 3; have cf4 := cf 4; have rf0 := rf 0; have rf1 := rf 1; have rf2 := rf 2; have rf3 := rf 3; have rf4 := rf 4; clear cf rf ha
    go_wp2_with (fail)
    (refine bodyPost_ret (v := actV (_, _, _, _, _)) (by simp [results, Tryd.results42, go_sem, *]; unfold actV; with_reducible rfl) rfl ⟨_, rfl, ?_, ⟨_, (by (repeat' (with_reducible (first | exact hr | apply Rd.drewN | apply Rd.drew | apply Rd.alloc | apply Rd.other))) <;> (first | omega | (simp; omega))), (by omega)⟩, (by (repeat' (with_reducible (first | exact hA | apply Adv.drewN | apply Adv.drew | apply Adv.alloc | apply Adv.setCell))) <;> (first | exact Or.inr (Nat.le_refl _) | exact Or.inr (by simpa using hle4)))⟩; refine ⟨⟨?_, ?_⟩, ⟨?_, ?_⟩, ⟨?_, ?_⟩, ⟨?_, ?_⟩, ⟨?_, ?_⟩⟩ <;> (dsimp only; omega))
  · have hz5 : w4.heap.size ≤ w5.heap.size := Nat.le_of_lt hs5
    refine (pickB rb _ _ w _ (by (repeat' (with_reducible (first | exact hr | apply Rd.drewN | apply Rd.drew | apply Rd.alloc | apply Rd.other))) <;> (first | omega | (simp; omega))) (by (repeat' (with_reducible (first | exact hA | apply Adv.drewN | apply Adv.drew | apply Adv.alloc | apply Adv.setCell))) <;> (first | exact Or.inr (Nat.le_refl _) | exact Or.inr (by simpa using hle4))) (by omega) (by omega) (by omega)).mono ?_; rintro e w6 ⟨x, rfl, hx', hx, hr, hA, ha⟩; clear c0 c1 c2 c3 c4 cf0 cf2 cf3 cf4 r0 r1 r2 r3 r4 rf0 rf1 rf2 rf3 rf4 hs5 hsr
    have hC := hidA ((hC.out.alloc (.cells #[.int .i64 9, .int .i64 8, .int .i64 6] 3)).adv ha (by omega))
    have hR := hidA ((hR.out.alloc (.cells #[.int .i64 9, .int .i64 8, .int .i64 6] 3)).adv ha (by omega))
    rcases (by omega : x = 0 ∨ x = 1 ∨ x = 2) with rfl | rfl | rfl
    · have q := (ha.cell (p := ⟨w5.heap.size, 0, none⟩) (by simp) (by show w5.heap.size ≠ rb; omega)).trans (by simp : _ = some (.int .i64 9))
      obtain ⟨c0, c1, c2, c3, c4, cf, hs5⟩ := hC.out; obtain ⟨r0, r1, r2, r3, r4, rf, hsr⟩ := hR.out; have cf0 := cf 0; have cf2 := cf 2; have cf3 := cf 3; have cf4 := cf 4; have rf0 := rf 0; have rf1 := rf 1; have rf2 := rf 2; have rf3 := rf 3; have rf4 := rf 4; clear cf rf ha
      go_wp2_with (fail)
      (refine bodyPost_ret (v := actV (_, _, _, _, _)) (by simp [results, Tryd.results42, go_sem, *]; unfold actV; with_reducible rfl) rfl ⟨_, rfl, ?_, ⟨_, (by (repeat' (with_reducible (first | exact hr | apply Rd.drewN | apply Rd.drew | apply Rd.alloc | apply Rd.other))) <;> (first | omega | (simp; omega))), (by omega)⟩, (by (repeat' (with_reducible (first | exact hA | apply Adv.drewN | apply Adv.drew | apply Adv.alloc | apply Adv.setCell))) <;> (first | exact Or.inr (Nat.le_refl _) | exact Or.inr (by simpa using hle4)))⟩; refine ⟨⟨?_, ?_⟩, ⟨?_, ?_⟩, ⟨?_, ?_⟩, ⟨?_, ?_⟩, ⟨?_, ?_⟩⟩ <;> (dsimp only; omega))
    · have q := (ha.cell (p := ⟨w5.heap.size, 1, none⟩) (by simp) (by show w5.heap.size ≠ rb; omega)).trans (by simp : _ = some (.int .i64 8))
      obtain ⟨c0, c1, c2, c3, c4, cf, hs5⟩ := hC.out; obtain ⟨r0, r1, r2, r3, r4, rf, hsr⟩ := hR.out; have cf0 := cf 0; have cf2 := cf 2; have cf3 := cf 3; have cf4 := cf 4; have rf0 := rf 0; have rf1 := rf 1; have rf2 := rf 2; have rf3 := rf 3; have rf4 := rf 4; clear cf rf ha
      go_wp2_with (fail)
      (refine bodyPost_ret (v := actV (_, _, _, _, _)) (by simp [results, Tryd.results42, go_sem, *]; unfold actV; with_reducible rfl) rfl ⟨_, rfl, ?_, ⟨_, (by (repeat' (with_reducible (first | exact hr | apply Rd.drewN | apply Rd.drew | apply Rd.alloc | apply Rd.other))) <;> (first | omega | (simp; omega))), (by omega)⟩, (by (repeat' (with_reducible (first | exact hA | apply Adv.drewN | apply Adv.drew | apply Adv.alloc | apply Adv.setCell))) <;> (first | exact Or.inr (Nat.le_refl _) | exact Or.inr (by simpa using hle4)))⟩; refine ⟨⟨?_, ?_⟩, ⟨?_, ?_⟩, ⟨?_, ?_⟩, ⟨?_, ?_⟩, ⟨?_, ?_⟩⟩ <;> (dsimp only; omega))
    · have q := (ha.cell (p := ⟨w5.heap.size, 2, none⟩) (by simp) (by show w5.heap.size ≠ rb; omega)).trans (by simp : _ = some (.int .i64 6))
      obtain ⟨c0, c1, c2, c3, c4, cf, hs5⟩ := hC.out; obtain ⟨r0, r1, r2, r3, r4, rf, hsr⟩ := hR.out; have cf0 := cf 0; have cf2 := cf 2; have cf3 := cf 3; have cf4 := cf 4; have rf0 := rf 0; have rf1 := rf 1; have rf2 := rf 2; have rf3 := rf 3; have rf4 := rf 4; clear cf rf ha
      go_wp2_with (fail)
      (refine bodyPost_ret (v := actV (_, _, _, _, _)) (by simp [results, Tryd.results42, go_sem, *]; unfold actV; with_reducible rfl) rfl ⟨_, rfl, ?_, ⟨_, (by (repeat' (with_reducible (first | exact hr | apply Rd.drewN | apply Rd.drew | apply Rd.alloc | apply Rd.other))) <;> (first | omega | (simp; omega))), (by omega)⟩, (by (repeat' (with_reducible (first | exact hA | apply Adv.drewN | apply Adv.drew | apply Adv.alloc | apply Adv.setCell))) <;> (first | exact Or.inr (Nat.le_refl _) | exact Or.inr (by simpa using hle4)))⟩; refine ⟨⟨?_, ?_⟩, ⟨?_, ?_⟩, ⟨?_, ?_⟩, ⟨?_, ?_⟩, ⟨?_, ?_⟩⟩ <;> (dsimp only; omega))
  · refine (pickB rb _ _ w _ (by (repeat' (with_reducible (first | exact hr | apply Rd.drewN | apply Rd.drew | apply Rd.alloc | apply Rd.other))) <;> (first | omega | (simp; omega))) (by (repeat' (with_reducible (first | exact hA | apply Adv.drewN | apply Adv.drew | apply Adv.alloc | apply Adv.setCell))) <;> (first | exact Or.inr (Nat.le_refl _) | exact Or.inr (by simpa using hle4))) (by omega) (by omega) (by omega)).mono ?_; rintro e w6 ⟨x, rfl, hx', hx, hr, hA, ha⟩; clear c0 c1 c2 c3 c4 cf0 cf2 cf3 cf4 r0 r1 r2 r3 r4 rf0 rf1 rf2 rf3 rf4 hs5 hsr
    have hC := hidA (hC.out.adv ha (by omega))
    have hR := hidA (hR.out.adv ha (by omega))
    obtain ⟨c0, c1, c2, c3, c4, cf, hs5⟩ := hC.out; obtain ⟨r0, r1, r2, r3, r4, rf, hsr⟩ := hR.out; have cf0 := cf 0; have cf2 := cf 2; have cf3 := cf 3; have cf4 := cf 4; have rf0 := rf 0; have rf1 := rf 1; have rf2 := rf 2; have rf3 := rf 3; have rf4 := rf 4; clear cf rf ha
    go_wp2_with (fail)
    · refine (pickB rb _ _ w _ (by (repeat' (with_reducible (first | exact hr | apply Rd.drewN | apply Rd.drew | apply Rd.alloc | apply Rd.other))) <;> (first | omega | (simp; omega))) (by (repeat' (with_reducible (first | exact hA | apply Adv.drewN | apply Adv.drew | apply Adv.alloc | apply Adv.setCell))) <;> (first | exact Or.inr (Nat.le_refl _) | exact Or.inr (by simpa using hle4))) (by omega) (by omega) (by omega)).mono ?_; rintro e w6 ⟨x, rfl, hx', hx, hr, hA, ha⟩; clear c0 c1 c2 c3 c4 cf0 cf2 cf3 cf4 r0 r1 r2 r3 r4 rf0 rf1 rf2 rf3 rf4 hs5 hsr
      have hC := hidA (hC.out.adv ha (by omega))
      have hR := hidA (hR.out.adv ha (by omega))
      obtain ⟨c0, c1, c2, c3, c4, cf, hs5⟩ := hC.out; obtain ⟨r0, r1, r2, r3, r4, rf, hsr⟩ := hR.out; have cf0 := cf 0; have cf2 := cf 2; have cf3 := cf 3; have cf4 := cf 4; have rf0 := rf 0; have rf1 := rf 1; have rf2 := rf 2; have rf3 := rf 3; have rf4 := rf 4; clear cf rf ha
      have hC1 := fun u => hidA (hC.out.put0 u)
      have hR1 := fun u => hidA (hR.out.off hne' 0 u)
      clear hC hR
      cases hk1 : (x - 1 == 0)
      · go_wp2_with (fail)
        (refine bodyPost_ret (v := actV (_, _, _, _, _)) (by simp [results, Tryd.results42, go_sem, *]; unfold actV; with_reducible rfl) rfl ⟨_, rfl, ?_, ⟨_, (by (repeat' (with_reducible (first | exact hr | apply Rd.drewN | apply Rd.drew | apply Rd.alloc | apply Rd.other))) <;> (first | omega | (simp; omega))), (by omega)⟩, (by (repeat' (with_reducible (first | exact hA | apply Adv.drewN | apply Adv.drew | apply Adv.alloc | apply Adv.setCell))) <;> (first | exact Or.inr (Nat.le_refl _) | exact Or.inr (by simpa using hle4)))⟩; refine ⟨⟨?_, ?_⟩, ⟨?_, ?_⟩, ⟨?_, ?_⟩, ⟨?_, ?_⟩, ⟨?_, ?_⟩⟩ <;> (dsimp only; omega))
      · have hC := hC1 (.int .i64 (x - 1))
        have hR := hR1 (.int .i64 (x - 1))
        clear hC1 hR1
        go_wp2_with (fail)
        refine (pickB rb _ _ w _ (by (repeat' (with_reducible (first | exact hr | apply Rd.drewN | apply Rd.drew | apply Rd.alloc | apply Rd.other))) <;> (first | omega | (simp; omega))) (by (repeat' (with_reducible (first | exact hA | apply Adv.drewN | apply Adv.drew | apply Adv.alloc | apply Adv.setCell))) <;> (first | exact Or.inr (Nat.le_refl _) | exact Or.inr (by simpa using hle4))) (by omega) (by omega) (by omega)).mono ?_; rintro e w6 ⟨x, rfl, hx', hx, hr, hA, ha⟩; clear c0 c1 c2 c3 c4 cf0 cf2 cf3 cf4 r0 r1 r2 r3 r4 rf0 rf1 rf2 rf3 rf4 hs5 hsr
        have hC := hidA (hC.out.adv ha (by omega))
        have hR := hidA (hR.out.adv ha (by omega))
        obtain ⟨c0, c1, c2, c3, c4, cf, hs5⟩ := hC.out; obtain ⟨r0, r1, r2, r3, r4, rf, hsr⟩ := hR.out; have cf0 := cf 0; have cf2 := cf 2; have cf3 := cf 3; have cf4 := cf 4; have rf0 := rf 0; have rf1 := rf 1; have rf2 := rf 2; have rf3 := rf 3; have rf4 := rf 4; clear cf rf ha
        go_wp2_with (fail)
        (refine bodyPost_ret (v := actV (_, _, _, _, _)) (by simp [results, Tryd.results42, go_sem, *]; unfold actV; with_reducible rfl) rfl ⟨_, rfl, ?_, ⟨_, (by (repeat' (with_reducible (first | exact hr | apply Rd.drewN | apply Rd.drew | apply Rd.alloc | apply Rd.other))) <;> (first | omega | (simp; omega))), (by omega)⟩, (by (repeat' (with_reducible (first | exact hA | apply Adv.drewN | apply Adv.drew | apply Adv.alloc | apply Adv.setCell))) <;> (first | exact Or.inr (Nat.le_refl _) | exact Or.inr (by simpa using hle4)))⟩; refine ⟨⟨?_, ?_⟩, ⟨?_, ?_⟩, ⟨?_, ?_⟩, ⟨?_, ?_⟩, ⟨?_, ?_⟩⟩ <;> (dsimp only; omega))
    · have hz6 : w4.heap.size ≤ w6.heap.size := Nat.le_of_lt hs5
      obtain ⟨w6', hw6'⟩ : ∃ u, u = w6 := ⟨_, rfl⟩
      refine (pickB rb _ _ w _ (by (repeat' (with_reducible (first | exact hr | apply Rd.drewN | apply Rd.drew | apply Rd.alloc | apply Rd.other))) <;> (first | omega | (simp; omega))) (by (repeat' (with_reducible (first | exact hA | apply Adv.drewN | apply Adv.drew | apply Adv.alloc | apply Adv.setCell))) <;> (first | exact Or.inr (Nat.le_refl _) | exact Or.inr (by simpa using hle4))) (by omega) (by omega) (by omega)).mono ?_; rintro e w6 ⟨x, rfl, hx', hx, hr, hA, ha⟩; clear c0 c1 c2 c3 c4 cf0 cf2 cf3 cf4 r0 r1 r2 r3 r4 rf0 rf1 rf2 rf3 rf4 hs5 hsr
      have hC := hidA ((hC.out.alloc (.cells #[.int .i64 (-1), .int .i64 6] 3)).adv ha (by omega))
      have hR := hidA ((hR.out.alloc (.cells #[.int .i64 (-1), .int .i64 6] 3)).adv ha (by omega))
      rw [← hw6'] at ha hz6
      have q0 := (ha.cell (p := ⟨w6'.heap.size, 0, none⟩) (by simp) (by show w6'.heap.size ≠ rb; omega)).trans (by simp : _ = some (.int .i64 (-1)))
      have q1 := (ha.cell (p := ⟨w6'.heap.size, 1, none⟩) (by simp) (by show w6'.heap.size ≠ rb; omega)).trans (by simp : _ = some (.int .i64 6))
      rw [hw6'] at q0 q1
      clear hw6' hz6
      obtain ⟨c0, c1, c2, c3, c4, cf, hs5⟩ := hC.out; obtain ⟨r0, r1, r2, r3, r4, rf, hsr⟩ := hR.out; have cf0 := cf 0; have cf2 := cf 2; have cf3 := cf 3; have cf4 := cf 4; have rf0 := rf 0; have rf1 := rf 1; have rf2 := rf 2; have rf3 := rf 3; have rf4 := rf 4; clear cf rf ha
      have hC1 := fun u => hidA (hC.out.put2 u)
      have hR1 := fun u => hidA (hR.out.off hne' 2 u)
      clear hC hR
      rcases (by omega : x = 0 ∨ x = 1) with rfl | rfl
      · have hC := hC1 (.int .i64 (-1))
        have hR := hR1 (.int .i64 (-1))
        clear hC1 hR1
        go_wp2_with (fail)
        refine (pickB rb _ _ w _ (by (repeat' (with_reducible (first | exact hr | apply Rd.drewN | apply Rd.drew | apply Rd.alloc | apply Rd.other))) <;> (first | omega | (simp; omega))) (by (repeat' (with_reducible (first | exact hA | apply Adv.drewN | apply Adv.drew | apply Adv.alloc | apply Adv.setCell))) <;> (first | exact Or.inr (Nat.le_refl _) | exact Or.inr (by simpa using hle4))) (by omega) (by omega) (by omega)).mono ?_; rintro e w6 ⟨x, rfl, hx', hx, hr, hA, ha⟩; clear c0 c1 c2 c3 c4 cf0 cf2 cf3 cf4 r0 r1 r2 r3 r4 rf0 rf1 rf2 rf3 rf4 hs5 hsr
        have hC := hidA (hC.out.adv ha (by omega))
        have hR := hidA (hR.out.adv ha (by omega))
        clear q0 q1
        obtain ⟨c0, c1, c2, c3, c4, cf, hs5⟩ := hC.out; obtain ⟨r0, r1, r2, r3, r4, rf, hsr⟩ := hR.out; have cf0 := cf 0; have cf2 := cf 2; have cf3 := cf 3; have cf4 := cf 4; have rf0 := rf 0; have rf1 := rf 1; have rf2 := rf 2; have rf3 := rf 3; have rf4 := rf 4; clear cf rf ha
        go_wp2_with (fail)
        (refine bodyPost_ret (v := actV (_, _, _, _, _)) (by simp [results, Tryd.results42, go_sem, *]; unfold actV; with_reducible rfl) rfl ⟨_, rfl, ?_, ⟨_, (by (repeat' (with_reducible (first | exact hr | apply Rd.drewN | apply Rd.drew | apply Rd.alloc | apply Rd.other))) <;> (first | omega | (simp; omega))), (by omega)⟩, (by (repeat' (with_reducible (first | exact hA | apply Adv.drewN | apply Adv.drew | apply Adv.alloc | apply Adv.setCell))) <;> (first | exact Or.inr (Nat.le_refl _) | exact Or.inr (by simpa using hle4)))⟩; refine ⟨⟨?_, ?_⟩, ⟨?_, ?_⟩, ⟨?_, ?_⟩, ⟨?_, ?_⟩, ⟨?_, ?_⟩⟩ <;> (dsimp only; omega))
      · have hC := hC1 (.int .i64 6)
        have hR := hR1 (.int .i64 6)
        clear hC1 hR1
        go_wp2_with (fail)
        refine (pickB rb _ _ w _ (by (repeat' (with_reducible (first | exact hr | apply Rd.drewN | apply Rd.drew | apply Rd.alloc | apply Rd.other))) <;> (first | omega | (simp; omega))) (by (repeat' (with_reducible (first | exact hA | apply Adv.drewN | apply Adv.drew | apply Adv.alloc | apply Adv.setCell))) <;> (first | exact Or.inr (Nat.le_refl _) | exact Or.inr (by simpa using hle4))) (by omega) (by omega) (by omega)).mono ?_; rintro e w6 ⟨x, rfl, hx', hx, hr, hA, ha⟩; clear c0 c1 c2 c3 c4 cf0 cf2 cf3 cf4 r0 r1 r2 r3 r4 rf0 rf1 rf2 rf3 rf4 hs5 hsr
        have hC := hidA (hC.out.adv ha (by omega))
        have hR := hidA (hR.out.adv ha (by omega))
        clear q0 q1
        obtain ⟨c0, c1, c2, c3, c4, cf, hs5⟩ := hC.out; obtain ⟨r0, r1, r2, r3, r4, rf, hsr⟩ := hR.out; have cf0 := cf 0; have cf2 := cf 2; have cf3 := cf 3; have cf4 := cf 4; have rf0 := rf 0; have rf1 := rf 1; have rf2 := rf 2; have rf3 := rf 3; have rf4 := rf 4; clear cf rf ha
        go_wp2_with (fail)
        (refine bodyPost_ret (v := actV (_, _, _, _, _)) (by simp [results, Tryd.results42, go_sem, *]; unfold actV; with_reducible rfl) rfl ⟨_, rfl, ?_, ⟨_, (by (repeat' (with_reducible (first | exact hr | apply Rd.drewN | apply Rd.drew | apply Rd.alloc | apply Rd.other))) <;> (first | omega | (simp; omega))), (by omega)⟩, (by (repeat' (with_reducible (first | exact hA | apply Adv.drewN | apply Adv.drew | apply Adv.alloc | apply Adv.setCell))) <;> (first | exact Or.inr (Nat.le_refl _) | exact Or.inr (by simpa using hle4)))⟩; refine ⟨⟨?_, ?_⟩, ⟨?_, ?_⟩, ⟨?_, ?_⟩, ⟨?_, ?_⟩, ⟨?_, ?_⟩⟩ <;> (dsimp only; omega))
    · have hz6 : w4.heap.size ≤ w6.heap.size := Nat.le_of_lt hs5
      obtain ⟨w6', hw6'⟩ : ∃ u, u = w6 := ⟨_, rfl⟩
      refine (pickB rb _ _ w _ (by (repeat' (with_reducible (first | exact hr | apply Rd.drewN | apply Rd.drew | apply Rd.alloc | apply Rd.other))) <;> (first | omega | (simp; omega))) (by (repeat' (with_reducible (first | exact hA | apply Adv.drewN | apply Adv.drew | apply Adv.alloc | apply Adv.setCell))) <;> (first | exact Or.inr (Nat.le_refl _) | exact Or.inr (by simpa using hle4))) (by omega) (by omega) (by omega)).mono ?_; rintro e w6 ⟨x, rfl, hx', hx, hr, hA, ha⟩; clear c0 c1 c2 c3 c4 cf0 cf2 cf3 cf4 r0 r1 r2 r3 r4 rf0 rf1 rf2 rf3 rf4 hs5 hsr
      have hC := hidA ((hC.out.alloc (.cells #[.int .i64 (-1), .int .i64 4] 3)).adv ha (by omega))
      have hR := hidA ((hR.out.alloc (.cells #[.int .i64 (-1), .int .i64 4] 3)).adv ha (by omega))
      rw [← hw6'] at ha hz6
      have q0 := (ha.cell (p := ⟨w6'.heap.size, 0, none⟩) (by simp) (by show w6'.heap.size ≠ rb; omega)).trans (by simp : _ = some (.int .i64 (-1)))
      have q1 := (ha.cell (p := ⟨w6'.heap.size, 1, none⟩) (by simp) (by show w6'.heap.size ≠ rb; omega)).trans (by simp : _ = some (.int .i64 4))
      rw [hw6'] at q0 q1
      clear hw6' hz6
      obtain ⟨c0, c1, c2, c3, c4, cf, hs5⟩ := hC.out; obtain ⟨r0, r1, r2, r3, r4, rf, hsr⟩ := hR.out; have cf0 := cf 0; have cf2 := cf 2; have cf3 := cf 3; have cf4 := cf 4; have rf0 := rf 0; have rf1 := rf 1; have rf2 := rf 2; have rf3 := rf 3; have rf4 := rf 4; clear cf rf ha
      have hC1 := fun u => hidA (hC.out.put3 u)
      have hR1 := fun u => hidA (hR.out.off hne' 3 u)
      clear hC hR
      rcases (by omega : x = 0 ∨ x = 1) with rfl | rfl
      · have hC := hC1 (.int .i64 (-1))
        have hR := hR1 (.int .i64 (-1))
        clear hC1 hR1
        go_wp2_with (fail)
        refine (pickB rb _ _ w _ (by (repeat' (with_reducible (first | exact hr | apply Rd.drewN | apply Rd.drew | apply Rd.alloc | apply Rd.other))) <;> (first | omega | (simp; omega))) (by (repeat' (with_reducible (first | exact hA | apply Adv.drewN | apply Adv.drew | apply Adv.alloc | apply Adv.setCell))) <;> (first | exact Or.inr (Nat.le_refl _) | exact Or.inr (by simpa using hle4))) (by omega) (by omega) (by omega)).mono ?_; rintro e w6 ⟨x, rfl, hx', hx, hr, hA, ha⟩; clear c0 c1 c2 c3 c4 cf0 cf2 cf3 cf4 r0 r1 r2 r3 r4 rf0 rf1 rf2 rf3 rf4 hs5 hsr
        have hC := hidA (hC.out.adv ha (by omega))
        have hR := hidA (hR.out.adv ha (by omega))
        clear q0 q1
        obtain ⟨c0, c1, c2, c3, c4, cf, hs5⟩ := hC.out; obtain ⟨r0, r1, r2, r3, r4, rf, hsr⟩ := hR.out; have cf0 := cf 0; have cf2 := cf 2; have cf3 := cf 3; have cf4 := cf 4; have rf0 := rf 0; have rf1 := rf 1; have rf2 := rf 2; have rf3 := rf 3; have rf4 := rf 4; clear cf rf ha
        go_wp2_with (fail)
        (refine bodyPost_ret (v := actV (_, _, _, _, _)) (by simp [results, Tryd.results42, go_sem, *]; unfold actV; with_reducible rfl) rfl ⟨_, rfl, ?_, ⟨_, (by (repeat' (with_reducible (first | exact hr | apply Rd.drewN | apply Rd.drew | apply Rd.alloc | apply Rd.other))) <;> (first | omega | (simp; omega))), (by omega)⟩, (by (repeat' (with_reducible (first | exact hA | apply Adv.drewN | apply Adv.drew | apply Adv.alloc | apply Adv.setCell))) <;> (first | exact Or.inr (Nat.le_refl _) | exact Or.inr (by simpa using hle4)))⟩; refine ⟨⟨?_, ?_⟩, ⟨?_, ?_⟩, ⟨?_, ?_⟩, ⟨?_, ?_⟩, ⟨?_, ?_⟩⟩ <;> (dsimp only; omega))
      · have hC := hC1 (.int .i64 4)
        have hR := hR1 (.int .i64 4)
        clear hC1 hR1
        go_wp2_with (fail)
        refine (pickB rb _ _ w _ (by (repeat' (with_reducible (first | exact hr | apply Rd.drewN | apply Rd.drew | apply Rd.alloc | apply Rd.other))) <;> (first | omega | (simp; omega))) (by (repeat' (with_reducible (first | exact hA | apply Adv.drewN | apply Adv.drew | apply Adv.alloc | apply Adv.setCell))) <;> (first | exact Or.inr (Nat.le_refl _) | exact Or.inr (by simpa using hle4))) (by omega) (by omega) (by omega)).mono ?_; rintro e w6 ⟨x, rfl, hx', hx, hr, hA, ha⟩; clear c0 c1 c2 c3 c4 cf0 cf2 cf3 cf4 r0 r1 r2 r3 r4 rf0 rf1 rf2 rf3 rf4 hs5 hsr
        have hC := hidA (hC.out.adv ha (by omega))
        have hR := hidA (hR.out.adv ha (by omega))
        clear q0 q1
        obtain ⟨c0, c1, c2, c3, c4, cf, hs5⟩ := hC.out; obtain ⟨r0, r1, r2, r3, r4, rf, hsr⟩ := hR.out; have cf0 := cf 0; have cf2 := cf 2; have cf3 := cf 3; have cf4 := cf 4; have rf0 := rf 0; have rf1 := rf 1; have rf2 := rf 2; have rf3 := rf 3; have rf4 := rf 4; clear cf rf ha
        go_wp2_with (fail)
        (refine bodyPost_ret (v := actV (_, _, _, _, _)) (by simp [results, Tryd.results42, go_sem, *]; unfold actV; with_reducible rfl) rfl ⟨_, rfl, ?_, ⟨_, (by (repeat' (with_reducible (first | exact hr | apply Rd.drewN | apply Rd.drew | apply Rd.alloc | apply Rd.other))) <;> (first | omega | (simp; omega))), (by omega)⟩, (by (repeat' (with_reducible (first | exact hA | apply Adv.drewN | apply Adv.drew | apply Adv.alloc | apply Adv.setCell))) <;> (first | exact Or.inr (Nat.le_refl _) | exact Or.inr (by simpa using hle4)))⟩; refine ⟨⟨?_, ?_⟩, ⟨?_, ?_⟩, ⟨?_, ?_⟩, ⟨?_, ?_⟩, ⟨?_, ?_⟩⟩ <;> (dsimp only; omega))
    · have hz6 : w4.heap.size ≤ w6.heap.size := Nat.le_of_lt hs5
      obtain ⟨w6', hw6'⟩ : ∃ u, u = w6 := ⟨_, rfl⟩
      refine (pickB rb _ _ w _ (by (repeat' (with_reducible (first | exact hr | apply Rd.drewN | apply Rd.drew | apply Rd.alloc | apply Rd.other))) <;> (first | omega | (simp; omega))) (by (repeat' (with_reducible (first | exact hA | apply Adv.drewN | apply Adv.drew | apply Adv.alloc | apply Adv.setCell))) <;> (first | exact Or.inr (Nat.le_refl _) | exact Or.inr (by simpa using hle4))) (by omega) (by omega) (by omega)).mono ?_; rintro e w6 ⟨x, rfl, hx', hx, hr, hA, ha⟩; clear c0 c1 c2 c3 c4 cf0 cf2 cf3 cf4 r0 r1 r2 r3 r4 rf0 rf1 rf2 rf3 rf4 hs5 hsr
      have hC := hidA ((hC.out.alloc (.cells #[.int .i64 (-1), .int .i64 64] 3)).adv ha (by omega))
      have hR := hidA ((hR.out.alloc (.cells #[.int .i64 (-1), .int .i64 64] 3)).adv ha (by omega))
      rw [← hw6'] at ha hz6
      have q0 := (ha.cell (p := ⟨w6'.heap.size, 0, none⟩) (by simp) (by show w6'.heap.size ≠ rb; omega)).trans (by simp : _ = some (.int .i64 (-1)))
      have q1 := (ha.cell (p := ⟨w6'.heap.size, 1, none⟩) (by simp) (by show w6'.heap.size ≠ rb; omega)).trans (by simp : _ = some (.int .i64 64))
      rw [hw6'] at q0 q1
      clear hw6' hz6
      obtain ⟨c0, c1, c2, c3, c4, cf, hs5⟩ := hC.out; obtain ⟨r0, r1, r2, r3, r4, rf, hsr⟩ := hR.out; have cf0 := cf 0; have cf2 := cf 2; have cf3 := cf 3; have cf4 := cf 4; have rf0 := rf 0; have rf1 := rf 1; have rf2 := rf 2; have rf3 := rf 3; have rf4 := rf 4; clear cf rf ha
      have hC1 := fun u => hidA (hC.out.put4 u)
      have hR1 := fun u => hidA (hR.out.off hne' 4 u)
      clear hC hR
      rcases (by omega : x = 0 ∨ x = 1) with rfl | rfl
      · have hC := hC1 (.int .i64 (-1))
        have hR := hR1 (.int .i64 (-1))
        clear hC1 hR1
        go_wp2_with (fail)
        refine (pickB rb _ _ w _ (by (repeat' (with_reducible (first | exact hr | apply Rd.drewN | apply Rd.drew | apply Rd.alloc | apply Rd.other))) <;> (first | omega | (simp; omega))) (by (repeat' (with_reducible (first | exact hA | apply Adv.drewN | apply Adv.drew | apply Adv.alloc | apply Adv.setCell))) <;> (first | exact Or.inr (Nat.le_refl _) | exact Or.inr (by simpa using hle4))) (by omega) (by omega) (by omega)).mono ?_; rintro e w6 ⟨x, rfl, hx', hx, hr, hA, ha⟩; clear c0 c1 c2 c3 c4 cf0 cf2 cf3 cf4 r0 r1 r2 r3 r4 rf0 rf1 rf2 rf3 rf4 hs5 hsr
        have hC := hidA (hC.out.adv ha (by omega))
        have hR := hidA (hR.out.adv ha (by omega))
        clear q0 q1
        obtain ⟨c0, c1, c2, c3, c4, cf, hs5⟩ := hC.out; obtain ⟨r0, r1, r2, r3, r4, rf, hsr⟩ := hR.out; have cf0 := cf 0; have cf2 := cf 2; have cf3 := cf 3; have cf4 := cf 4; have rf0 := rf 0; have rf1 := rf 1; have rf2 := rf 2; have rf3 := rf 3; have rf4 := rf 4; clear cf rf ha
        go_wp2_with (fail)
        (refine bodyPost_ret (v := actV (_, _, _, _, _)) (by simp [results, Tryd.results42, go_sem, *]; unfold actV; with_reducible rfl) rfl ⟨_, rfl, ?_, ⟨_, (by (repeat' (with_reducible (first | exact hr | apply Rd.drewN | apply Rd.drew | apply Rd.alloc | apply Rd.other))) <;> (first | omega | (simp; omega))), (by omega)⟩, (by (repeat' (with_reducible (first | exact hA | apply Adv.drewN | apply Adv.drew | apply Adv.alloc | apply Adv.setCell))) <;> (first | exact Or.inr (Nat.le_refl _) | exact Or.inr (by simpa using hle4)))⟩; refine ⟨⟨?_, ?_⟩, ⟨?_, ?_⟩, ⟨?_, ?_⟩, ⟨?_, ?_⟩, ⟨?_, ?_⟩⟩ <;> (dsimp only; omega))
      · have hC := hC1 (.int .i64 64)
        have hR := hR1 (.int .i64 64)
        clear hC1 hR1
        go_wp2_with (fail)
        refine (pickB rb _ _ w _ (by (repeat' (with_reducible (first | exact hr | apply Rd.drewN | apply Rd.drew | apply Rd.alloc | apply Rd.other))) <;> (first | omega | (simp; omega))) (by (repeat' (with_reducible (first | exact hA | apply Adv.drewN | apply Adv.drew | apply Adv.alloc | apply Adv.setCell))) <;> (first | exact Or.inr (Nat.le_refl _) | exact Or.inr (by simpa using hle4))) (by omega) (by omega) (by omega)).mono ?_; rintro e w6 ⟨x, rfl, hx', hx, hr, hA, ha⟩; clear c0 c1 c2 c3 c4 cf0 cf2 cf3 cf4 r0 r1 r2 r3 r4 rf0 rf1 rf2 rf3 rf4 hs5 hsr
        have hC := hidA (hC.out.adv ha (by omega))
        have hR := hidA (hR.out.adv ha (by omega))
        clear q0 q1
        obtain ⟨c0, c1, c2, c3, c4, cf, hs5⟩ := hC.out; obtain ⟨r0, r1, r2, r3, r4, rf, hsr⟩ := hR.out; have cf0 := cf 0; have cf2 := cf 2; have cf3 := cf 3; have cf4 := cf 4; have rf0 := rf 0; have rf1 := rf 1; have rf2 := rf 2; have rf3 := rf 3; have rf4 := rf 4; clear cf rf ha
        go_wp2_with (fail)
        (refine bodyPost_ret (v := actV (_, _, _, _, _)) (by simp [results, Tryd.results42, go_sem, *]; unfold actV; with_reducible rfl) rfl ⟨_, rfl, ?_, ⟨_, (by (repeat' (with_reducible (first | exact hr | apply Rd.drewN | apply Rd.drew | apply Rd.alloc | apply Rd.other))) <;> (first | omega | (simp; omega))), (by omega)⟩, (by (repeat' (with_reducible (first | exact hA | apply Adv.drewN | apply Adv.drew | apply Adv.alloc | apply Adv.setCell))) <;> (first | exact Or.inr (Nat.le_refl _) | exact Or.inr (by simpa using hle4)))⟩; refine ⟨⟨?_, ?_⟩, ⟨?_, ?_⟩, ⟨?_, ?_⟩, ⟨?_, ?_⟩, ⟨?_, ?_⟩⟩ <;> (dsimp only; omega))
  · refine (pickB rb _ _ w _ (by (repeat' (with_reducible (first | exact hr | apply Rd.drewN | apply Rd.drew | apply Rd.alloc | apply Rd.other))) <;> (first | omega | (simp; omega))) (by (repeat' (with_reducible (first | exact hA | apply Adv.drewN | apply Adv.drew | apply Adv.alloc | apply Adv.setCell))) <;> (first | exact Or.inr (Nat.le_refl _) | exact Or.inr (by simpa using hle4))) (by omega) (by omega) (by omega)).mono ?_; rintro e w6 ⟨x, rfl, hx', hx, hr, hA, ha⟩; clear c0 c1 c2 c3 c4 cf0 cf2 cf3 cf4 r0 r1 r2 r3 r4 rf0 rf1 rf2 rf3 rf4 hs5 hsr
    have hC := hidA (hC.out.adv ha (by omega))
    have hR := hidA (hR.out.adv ha (by omega))
    obtain ⟨c0, c1, c2, c3, c4, cf, hs5⟩ := hC.out; obtain ⟨r0, r1, r2, r3, r4, rf, hsr⟩ := hR.out; have cf0 := cf 0; have cf2 := cf 2; have cf3 := cf 3; have cf4 := cf 4; have rf0 := rf 0; have rf1 := rf 1; have rf2 := rf 2; have rf3 := rf 3; have rf4 := rf 4; clear cf rf ha
    obtain ⟨w6', hw6'⟩ : ∃ u, u = w6 := ⟨_, rfl⟩
    go_wp2_with (fail)
    go_region_with (go_at_call 55; refine (pickB rb _ _ w _ (by (repeat' (with_reducible (first | exact hr | apply Rd.drewN | apply Rd.drew | apply Rd.alloc | apply Rd.other))) <;> (first | omega | (simp; omega))) (by (repeat' (with_reducible (first | exact hA | apply Adv.drewN | apply Adv.drew | apply Adv.alloc | apply Adv.setCell))) <;> (first | exact Or.inr (Nat.le_refl _) | exact Or.inr (by simpa using hle4))) (by omega) (by omega) (by omega)).mono ?_; rintro e w7 ⟨y, rfl, hy', hy, hr, hA, ha⟩; rw [← hw6'] at ha; have ha := ((Adv.refl rb w6').drew).trans ha; rw [hw6'] at ha; have hC := hidA (hC.out.adv ha (by omega)); have hR := hidA (hR.out.adv ha (by omega)); clear c0 c1 c2 c3 c4 cf0 cf2 cf3 cf4 r0 r1 r2 r3 r4 rf0 rf1 rf2 rf3 rf4 hs5 hsr; obtain ⟨c0, c1, c2, c3, c4, cf, hs5⟩ := hC.out; obtain ⟨r0, r1, r2, r3, r4, rf, hsr⟩ := hR.out; have cf0 := cf 0; have cf2 := cf 2; have cf3 := cf 3; have cf4 := cf 4; have rf0 := rf 0; have rf1 := rf 1; have rf2 := rf 2; have rf3 := rf 3; have rf4 := rf 4; clear cf rf ha)
    all_goals
      clear hw6'
      go_wp2_with (fail)
      have e1 : x.tdiv 4 = x / 4 := Int.tdiv_eq_ediv_of_nonneg hx'
      have e2 : x.tmod 4 = x % 4 := Int.tmod_eq_emod_of_nonneg hx'
      have e3 : IntKind.i64.wrap (x.tdiv 4) = x / 4 := by rw [e1]; exact wrap_small _ (by omega) (by omega)
      have e5 : IntKind.i64.wrap (x / 4) = x / 4 := wrap_small _ (by omega) (by omega)
      have e4 : IntKind.i64.wrap (5 + y) = 5 + y := wrap_small _ (by omega) (by omega)
      (refine bodyPost_ret (v := actV (_, _, _, _, _)) (by simp [results, Tryd.results42, go_sem, *]; unfold actV; with_reducible rfl) rfl ⟨_, rfl, ?_, ⟨_, (by (repeat' (with_reducible (first | exact hr | apply Rd.drewN | apply Rd.drew | apply Rd.alloc | apply Rd.other))) <;> (first | omega | (simp; omega))), (by omega)⟩, (by (repeat' (with_reducible (first | exact hA | apply Adv.drewN | apply Adv.drew | apply Adv.alloc | apply Adv.setCell))) <;> (first | exact Or.inr (Nat.le_refl _) | exact Or.inr (by simpa using hle4)))⟩; refine ⟨⟨?_, ?_⟩, ⟨?_, ?_⟩, ⟨?_, ?_⟩, ⟨?_, ?_⟩, ⟨?_, ?_⟩⟩ <;> (dsimp only; omega))
  · refine (pickB rb _ _ w _ (by (repeat' (with_reducible (first | exact hr | apply Rd.drewN | apply Rd.drew | apply Rd.alloc | apply Rd.other))) <;> (first | omega | (simp; omega))) (by (repeat' (with_reducible (first | exact hA | apply Adv.drewN | apply Adv.drew | apply Adv.alloc | apply Adv.setCell))) <;> (first | exact Or.inr (Nat.le_refl _) | exact Or.inr (by simpa using hle4))) (by omega) (by omega) (by omega)).mono ?_; rintro e w6 ⟨x, rfl, hx', hx, hr, hA, ha⟩; clear c0 c1 c2 c3 c4 cf0 cf2 cf3 cf4 r0 r1 r2 r3 r4 rf0 rf1 rf2 rf3 rf4 hs5 hsr
    have hC := hidA (hC.out.adv ha (by omega))
    have hR := hidA (hR.out.adv ha (by omega))
    obtain ⟨c0, c1, c2, c3, c4, cf, hs5⟩ := hC.out; obtain ⟨r0, r1, r2, r3, r4, rf, hsr⟩ := hR.out; have cf0 := cf 0; have cf2 := cf 2; have cf3 := cf 3; have cf4 := cf 4; have rf0 := rf 0; have rf1 := rf 1; have rf2 := rf 2; have rf3 := rf 3; have rf4 := rf 4; clear cf rf ha
    obtain ⟨w6', hw6'⟩ : ∃ u, u = w6 := ⟨_, rfl⟩
    go_wp2_with (fail)
    go_region_with (go_at_call 55; refine (pickB rb _ _ w _ (by (repeat' (with_reducible (first | exact hr | apply Rd.drewN | apply Rd.drew | apply Rd.alloc | apply Rd.other))) <;> (first | omega | (simp; omega))) (by (repeat' (with_reducible (first | exact hA | apply Adv.drewN | apply Adv.drew | apply Adv.alloc | apply Adv.setCell))) <;> (first | exact Or.inr (Nat.le_refl _) | exact Or.inr (by simpa using hle4))) (by omega) (by omega) (by omega)).mono ?_; rintro e w7 ⟨y, rfl, hy', hy, hr, hA, ha⟩; rw [← hw6'] at ha; have ha := ((Adv.refl rb w6').drew).trans ha; rw [hw6'] at ha; have hC := hidA (hC.out.adv ha (by omega)); have hR := hidA (hR.out.adv ha (by omega)); clear c0 c1 c2 c3 c4 cf0 cf2 cf3 cf4 r0 r1 r2 r3 r4 rf0 rf1 rf2 rf3 rf4 hs5 hsr; obtain ⟨c0, c1, c2, c3, c4, cf, hs5⟩ := hC.out; obtain ⟨r0, r1, r2, r3, r4, rf, hsr⟩ := hR.out; have cf0 := cf 0; have cf2 := cf 2; have cf3 := cf 3; have cf4 := cf 4; have rf0 := rf 0; have rf1 := rf 1; have rf2 := rf 2; have rf3 := rf 3; have rf4 := rf 4; clear cf rf ha)
    all_goals
      clear hw6'
      go_wp2_with (fail)
      have e1 : x.tdiv 4 = x / 4 := Int.tdiv_eq_ediv_of_nonneg hx'
      have e2 : x.tmod 4 = x % 4 := Int.tmod_eq_emod_of_nonneg hx'
      have e3 : IntKind.i64.wrap (x.tdiv 4) = x / 4 := by rw [e1]; exact wrap_small _ (by omega) (by omega)
      have e5 : IntKind.i64.wrap (x / 4) = x / 4 := wrap_small _ (by omega) (by omega)
      have e4 : IntKind.i64.wrap (5 + y) = 5 + y := wrap_small _ (by omega) (by omega)
      (refine bodyPost_ret (v := actV (_, _, _, _, _)) (by simp [results, Tryd.results42, go_sem, *]; unfold actV; with_reducible rfl) rfl ⟨_, rfl, ?_, ⟨_, (by (repeat' (with_reducible (first | exact hr | apply Rd.drewN | apply Rd.drew | apply Rd.alloc | apply Rd.other))) <;> (first | omega | (simp; omega))), (by omega)⟩, (by (repeat' (with_reducible (first | exact hA | apply Adv.drewN | apply Adv.drew | apply Adv.alloc | apply Adv.setCell))) <;> (first | exact Or.inr (Nat.le_refl _) | exact Or.inr (by simpa using hle4)))⟩; refine ⟨⟨?_, ?_⟩, ⟨?_, ?_⟩, ⟨?_, ?_⟩, ⟨?_, ?_⟩, ⟨?_, ?_⟩⟩ <;> (dsimp only; omega))
end Go.Proofs.YteelpikhijkmdaaDoor
