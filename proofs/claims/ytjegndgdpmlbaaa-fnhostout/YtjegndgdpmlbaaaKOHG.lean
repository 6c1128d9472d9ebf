/-
  What the drawing of an act gives, whatever the bytes are: five small numbers.
-/
import Derived.Test.YtjegndgdpmlbaaaKOActs0
import Derived.Test.YtjegndgdpmlbaaaKOHC
import Derived.Deep.AppendLies
namespace Go.Proofs.Ytjegndgdpmlbaaa
open Go.RowKit

theorem hidA {p : Prop} (h : p) : Hid p := h
/-- Five small numbers, the guest one of so many. -/
def SmA (n : Int) (a : A5) : Prop := (-1 ≤ a.1 ∧ a.1 ≤ 64) ∧ (0 ≤ a.2.1 ∧ a.2.1 < n) ∧ (-1 ≤ a.2.2.1 ∧ a.2.2.1 ≤ 64) ∧ (-1 ≤ a.2.2.2.1 ∧ a.2.2.2.1 ≤ 64) ∧ (-1 ≤ a.2.2.2.2 ∧ a.2.2.2.2 ≤ 64)

theorem pickB (rb k : Nat) (n : Int) (w0 w : World) (hr : Rd w rb k) (hA : Adv rb w0 w) (hk : k ≤ 900000) (hn : 1 ≤ n) (hn2 : n ≤ 1000000) :
    Calls Try.prog 61 #[.pointer (some ⟨rb, 0, none⟩), .int .i64 n] w fun e w' => ∃ v : Int, e = .returned (.int .i64 v) ∧ 0 ≤ v ∧ v < n ∧ Rd w' rb (k + 1) ∧ Adv rb w0 w' ∧ Adv rb w w' := by
  refine (pickA rb k n w hr hk hn hn2).mono ?_
  rintro e w' ⟨v, rfl, h1, h2, h3⟩
  exact ⟨v, rfl, Int.natCast_nonneg v, h1, h2, hA.trans h3, h3⟩
theorem wordB (rb k : Nat) (w0 w : World) (hr : Rd w rb k) (hA : Adv rb w0 w) (hk : k ≤ 800000) :
    Calls Try.prog 105 #[.pointer (some ⟨rb, 0, none⟩)] w fun e w' => ∃ (z : Int) (k' : Nat), e = .returned (.int .i64 z) ∧ 0 ≤ z ∧ z ≤ 63 ∧ Rd w' rb k' ∧ k' ≤ k + 2 ∧ Adv rb w0 w' := by
  refine (drawWord rb k w hr hk).mono ?_
  rintro e w' ⟨v, k', rfl, h1, h2, h3, h4⟩
  exact ⟨v, k', rfl, Int.natCast_nonneg v, by omega, h2, h3, hA.trans h4⟩
/-- The five cells of an act that is being made, behind a draw. -/
theorem Adv.keep5 {rb : Nat} {W w1 : World} (h : Adv rb W w1) {b : Nat} (hN : b < W.heap.size) (hn : b ≠ rb) {v0 v1 v2 v3 v4 : Value}
    (c0 : W.cell? ⟨b, 0, none⟩ = some v0) (c1 : W.cell? ⟨b, 1, none⟩ = some v1) (c2 : W.cell? ⟨b, 2, none⟩ = some v2) (c3 : W.cell? ⟨b, 3, none⟩ = some v3) (c4 : W.cell? ⟨b, 4, none⟩ = some v4) (hf : ∀ i, W.frozen? ⟨b, i, none⟩ = false) :
    w1.cell? ⟨b, 0, none⟩ = some v0 ∧ w1.cell? ⟨b, 1, none⟩ = some v1 ∧ w1.cell? ⟨b, 2, none⟩ = some v2 ∧ w1.cell? ⟨b, 3, none⟩ = some v3 ∧ w1.cell? ⟨b, 4, none⟩ = some v4 ∧ (∀ i, w1.frozen? ⟨b, i, none⟩ = false) ∧ b < w1.heap.size :=
  ⟨(h.cell (p := ⟨b, 0, none⟩) hN hn).trans c0, (h.cell (p := ⟨b, 1, none⟩) hN hn).trans c1, (h.cell (p := ⟨b, 2, none⟩) hN hn).trans c2, (h.cell (p := ⟨b, 3, none⟩) hN hn).trans c3, (h.cell (p := ⟨b, 4, none⟩) hN hn).trans c4, fun i => (h.frozen (p := ⟨b, i, none⟩) hN hn).trans (hf i), Nat.lt_of_lt_of_le hN h.size⟩

/-- The five cells of an act, to be written. -/
def C5 (w : World) (b : Nat) (v0 v1 v2 v3 v4 : Value) : Prop :=
  w.cell? ⟨b, 0, none⟩ = some v0 ∧ w.cell? ⟨b, 1, none⟩ = some v1 ∧ w.cell? ⟨b, 2, none⟩ = some v2 ∧ w.cell? ⟨b, 3, none⟩ = some v3 ∧ w.cell? ⟨b, 4, none⟩ = some v4 ∧ (∀ i, w.frozen? ⟨b, i, none⟩ = false) ∧ b < w.heap.size
theorem C5.adv {rb : Nat} {W w1 : World} {b : Nat} {v0 v1 v2 v3 v4 : Value} (h : C5 W b v0 v1 v2 v3 v4) (ha : Adv rb W w1) (hn : b ≠ rb) : C5 w1 b v0 v1 v2 v3 v4 := ha.keep5 h.2.2.2.2.2.2 hn h.1 h.2.1 h.2.2.1 h.2.2.2.1 h.2.2.2.2.1 h.2.2.2.2.2.1
theorem C5.alloc {W : World} {b : Nat} {v0 v1 v2 v3 v4 : Value} (h : C5 W b v0 v1 v2 v3 v4) (o : Obj) : C5 (W.alloc o) b v0 v1 v2 v3 v4 := h.adv (rb := b + 1) ((Adv.refl _ _).alloc o) (by omega)
theorem C5.off {W : World} {b : Nat} {v0 v1 v2 v3 v4 : Value} (h : C5 W b v0 v1 v2 v3 v4) {b' : Nat} (hn : b ≠ b') (j : Nat) (u : Value) : C5 (W.setCell ⟨b', j, none⟩ u) b v0 v1 v2 v3 v4 :=
  h.adv (rb := b') ((Adv.refl _ _).setCell (p := ⟨b', j, none⟩) (Or.inl rfl) u) hn
theorem frozen_set {W : World} {b j i : Nat} (u : Value) (h : W.frozen? ⟨b, i, none⟩ = false) : (W.setCell ⟨b, j, none⟩ u).frozen? ⟨b, i, none⟩ = false := by rw [← h]; go_simp
theorem C5.put0 {W : World} {b : Nat} {v0 v1 v2 v3 v4 : Value} (h : C5 W b v0 v1 v2 v3 v4) (u : Value) : C5 (W.setCell ⟨b, 0, none⟩ u) b u v1 v2 v3 v4 :=
  ⟨cell_put h.1, (cell_put h.2.1).trans (by simp), (cell_put h.2.2.1).trans (by simp), (cell_put h.2.2.2.1).trans (by simp), (cell_put h.2.2.2.2.1).trans (by simp), fun i => frozen_set u (h.2.2.2.2.2.1 i), by simpa using h.2.2.2.2.2.2⟩
theorem C5.put2 {W : World} {b : Nat} {v0 v1 v2 v3 v4 : Value} (h : C5 W b v0 v1 v2 v3 v4) (u : Value) : C5 (W.setCell ⟨b, 2, none⟩ u) b v0 v1 u v3 v4 :=
  ⟨(cell_put h.1).trans (by simp), (cell_put h.2.1).trans (by simp), cell_put h.2.2.1, (cell_put h.2.2.2.1).trans (by simp), (cell_put h.2.2.2.2.1).trans (by simp), fun i => frozen_set u (h.2.2.2.2.2.1 i), by simpa using h.2.2.2.2.2.2⟩
theorem C5.put3 {W : World} {b : Nat} {v0 v1 v2 v3 v4 : Value} (h : C5 W b v0 v1 v2 v3 v4) (u : Value) : C5 (W.setCell ⟨b, 3, none⟩ u) b v0 v1 v2 u v4 :=
  ⟨(cell_put h.1).trans (by simp), (cell_put h.2.1).trans (by simp), (cell_put h.2.2.1).trans (by simp), cell_put h.2.2.2.1, (cell_put h.2.2.2.2.1).trans (by simp), fun i => frozen_set u (h.2.2.2.2.2.1 i), by simpa using h.2.2.2.2.2.2⟩
theorem C5.put4 {W : World} {b : Nat} {v0 v1 v2 v3 v4 : Value} (h : C5 W b v0 v1 v2 v3 v4) (u : Value) : C5 (W.setCell ⟨b, 4, none⟩ u) b v0 v1 v2 v3 u :=
  ⟨(cell_put h.1).trans (by simp), (cell_put h.2.1).trans (by simp), (cell_put h.2.2.1).trans (by simp), (cell_put h.2.2.2.1).trans (by simp), cell_put h.2.2.2.2.1, fun i => frozen_set u (h.2.2.2.2.2.1 i), by simpa using h.2.2.2.2.2.2⟩

set_option maxRecDepth 100000 in
set_option maxHeartbeats 4000000 in
theorem drawAct (rb k : Nat) (n : Int) (w : World) (hr : Rd w rb k) (hk : k ≤ 700000) (hn : 1 ≤ n) (hn2 : n ≤ 64) :
    Calls Try.prog 98 #[.pointer (some ⟨rb, 0, none⟩), .int .i64 n] w fun e w' => ∃ a, e = .returned (actV a) ∧ SmA n a ∧ (∃ k', Rd w' rb k' ∧ k' ≤ k + 10) ∧ Adv rb w w' := by
  have hlt := hr.lt
  obtain ⟨W0, hW0⟩ : ∃ W0, W0 = w.alloc (.cells #[.int .i64 0, .int .i64 0, .int .i64 0, .int .i64 0, .int .i64 0] 119) := ⟨_, rfl⟩
  have hA := Adv.refl rb W0
  have hA0 : Adv rb w W0 := by rw [hW0]; exact (Adv.refl rb w).alloc _
  have hr0 : Rd W0 rb k := by rw [hW0]; exact hr.alloc _
  have hs0 : w.heap.size < W0.heap.size := by rw [hW0]; simp
  obtain ⟨r0, r1, r2, r3, r4, rf⟩ : W0.cell? ⟨w.heap.size, 0, none⟩ = some (.int .i64 0) ∧ W0.cell? ⟨w.heap.size, 1, none⟩ = some (.int .i64 0) ∧ W0.cell? ⟨w.heap.size, 2, none⟩ = some (.int .i64 0) ∧ W0.cell? ⟨w.heap.size, 3, none⟩ = some (.int .i64 0) ∧ W0.cell? ⟨w.heap.size, 4, none⟩ = some (.int .i64 0) ∧ ∀ i, W0.frozen? ⟨w.heap.size, i, none⟩ = false := by rw [hW0]; simp
  go_enter Try.func98, Try.ntmps98
  go_wp2_with (fail)
  rw [← hW0]
  clear hW0 hr
  refine (pickB rb k n W0 _ hr0 hA (by omega) (by omega) (by omega)).mono ?_
  rintro e w1 ⟨g, rfl, hg', hg, hr1, hA1, _⟩
  clear hr0 hA
  go_wp2_with (fail)
  refine (pickB rb (k + 1) 6 W0 _ hr1 hA1 (by omega) (by omega) (by omega)).mono ?_
  rintro e w2 ⟨p, rfl, hp', hp, hr2, hA2, _⟩
  clear hr1 hA1
  go_wp2_with (fail)
  refine (pickB rb (k + 1 + 1) 4 W0 _ hr2 hA2 (by omega) (by omega) (by omega)).mono ?_
  rintro e w3 ⟨o, rfl, ho', ho, hr3, hA3, _⟩
  clear hr2 hA2
  go_wp2_with (fail)
  refine (wordB rb (k + 1 + 1 + 1) W0 _ hr3 hA3 (by omega)).mono ?_
  rintro e w4 ⟨z, k4, rfl, hz', hz, hr4, hk4, hA4⟩
  clear hr3 hA3
  have hs4 := hA4.size
  go_wp2_with (fail)
  refine (pickB rb k4 20 W0 _ (hr4.alloc _) (hA4.alloc _) (by omega) (by omega) (by omega)).mono ?_
  rintro e w5 ⟨v, rfl, hv', hv, hr, hA5, ha5⟩
  have hC : Hid (C5 w5 w4.heap.size (.int .i64 0) (.int .i64 g) (.int .i64 p) (.int .i64 o) (.int .i64 z)) := C5.adv (W := w4.alloc (.cells #[.int .i64 0, .int .i64 g, .int .i64 p, .int .i64 o, .int .i64 z] 119)) ⟨by simp, by simp, by simp, by simp, by simp, by simp, by simp⟩ ha5 (by omega)
  have hR : Hid (C5 w5 w.heap.size (.int .i64 0) (.int .i64 0) (.int .i64 0) (.int .i64 0) (.int .i64 0)) := C5.adv ⟨r0, r1, r2, r3, r4, rf, hs0⟩ hA5 (by omega)
  clear r0 r1 r2 r3 r4 rf
  obtain ⟨c0, c1, c2, c3, c4, cf, hs5⟩ := hC.out
  obtain ⟨r0, r1, r2, r3, r4, rf, hsr⟩ := hR.out
  have cf0 := cf 0
  have cf2 := cf 2
  have cf3 := cf 3
  have cf4 := cf 4
  have rf0 := rf 0
  have rf1 := rf 1
  have rf2 := rf 2
  have rf3 := rf 3
  have rf4 := rf 4
  have hne : w4.heap.size ≠ w.heap.size := by omega
  have hne' : w.heap.size ≠ w4.heap.size := by omega
  have hle4 : w.heap.size ≤ w4.heap.size := by omega
  have hltr : rb < w4.heap.size := by omega
  have hA := hA0.trans hA5
  clear hr4 hA4 ha5 hA5 hA0 cf rf
  go_wp2_with (fail)
  · (refine bodyPost_ret (v := actV (_, _, _, _, _)) (by simp [results, Try.results98, go_sem, *]; unfold actV; with_reducible rfl) rfl ⟨_, rfl, ?_, ⟨_, (by (repeat' (with_reducible (first | exact hr | apply Rd.drewN | apply Rd.drew | apply Rd.alloc | apply Rd.other))) <;> (first | omega | (simp; omega))), (by omega)⟩, (by (repeat' (with_reducible (first | exact hA | apply Adv.drewN | apply Adv.drew | apply Adv.alloc | apply Adv.setCell))) <;> (first | exact Or.inr (Nat.le_refl _) | exact Or.inr (by simpa using hle4)))⟩; refine ⟨⟨?_, ?_⟩, ⟨?_, ?_⟩, ⟨?_, ?_⟩, ⟨?_, ?_⟩, ⟨?_, ?_⟩⟩ <;> (dsimp only; omega))
  · (refine bodyPost_ret (v := actV (_, _, _, _, _)) (by simp [results, Try.results98, go_sem, *]; unfold actV; with_reducible rfl) rfl ⟨_, rfl, ?_, ⟨_, (by (repeat' (with_reducible (first | exact hr | apply Rd.drewN | apply Rd.drew | apply Rd.alloc | apply Rd.other))) <;> (first | omega | (simp; omega))), (by omega)⟩, (by (repeat' (with_reducible (first | exact hA | apply Adv.drewN | apply Adv.drew | apply Adv.alloc | apply Adv.setCell))) <;> (first | exact Or.inr (Nat.le_refl _) | exact Or.inr (by simpa using hle4)))⟩; refine ⟨⟨?_, ?_⟩, ⟨?_, ?_⟩, ⟨?_, ?_⟩, ⟨?_, ?_⟩, ⟨?_, ?_⟩⟩ <;> (dsimp only; omega))
  · (refine bodyPost_ret (v := actV (_, _, _, _, _)) (by simp [results, Try.results98, go_sem, *]; unfold actV; with_reducible rfl) rfl ⟨_, rfl, ?_, ⟨_, (by (repeat' (with_reducible (first | exact hr | apply Rd.drewN | apply Rd.drew | apply Rd.alloc | apply Rd.other))) <;> (first | omega | (simp; omega))), (by omega)⟩, (by (repeat' (with_reducible (first | exact hA | apply Adv.drewN | apply Adv.drew | apply Adv.alloc | apply Adv.setCell))) <;> (first | exact Or.inr (Nat.le_refl _) | exact Or.inr (by simpa using hle4)))⟩; refine ⟨⟨?_, ?_⟩, ⟨?_, ?_⟩, ⟨?_, ?_⟩, ⟨?_, ?_⟩, ⟨?_, ?_⟩⟩ <;> (dsimp only; omega))
  · (refine bodyPost_ret (v := actV (_, _, _, _, _)) (by simp [results, Try.results98, go_sem, *]; unfold actV; with_reducible rfl) rfl ⟨_, rfl, ?_, ⟨_, (by (repeat' (with_reducible (first | exact hr | apply Rd.drewN | apply Rd.drew | apply Rd.alloc | apply Rd.other))) <;> (first | omega | (simp; omega))), (by omega)⟩, (by (repeat' (with_reducible (first | exact hA | apply Adv.drewN | apply Adv.drew | apply Adv.alloc | apply Adv.setCell))) <;> (first | exact Or.inr (Nat.le_refl _) | exact Or.inr (by simpa using hle4)))⟩; refine ⟨⟨?_, ?_⟩, ⟨?_, ?_⟩, ⟨?_, ?_⟩, ⟨?_, ?_⟩, ⟨?_, ?_⟩⟩ <;> (dsimp only; omega))
  rotate_left 2
  · (refine bodyPost_ret (v := actV (_, _, _, _, _)) (by simp [results, Try.results98, go_sem, *]; unfold actV; with_reducible rfl) rfl ⟨_, rfl, ?_, ⟨_, (by (repeat' (with_reducible (first | exact hr | apply Rd.drewN | apply Rd.drew | apply Rd.alloc | apply Rd.other))) <;> (first | omega | (simp; omega))), (by omega)⟩, (by (repeat' (with_reducible (first | exact hA | apply Adv.drewN | apply Adv.drew | apply Adv.alloc | apply Adv.setCell))) <;> (first | exact Or.inr (Nat.le_refl _) | exact Or.inr (by simpa using hle4)))⟩; refine ⟨⟨?_, ?_⟩, ⟨?_, ?_⟩, ⟨?_, ?_⟩, ⟨?_, ?_⟩, ⟨?_, ?_⟩⟩ <;> (dsimp only; omega))
  · (refine bodyPost_ret (v := actV (_, _, _, _, _)) (by simp [results, Try.results98, go_sem, *]; unfold actV; with_reducible rfl) rfl ⟨_, rfl, ?_, ⟨_, (by (repeat' (with_reducible (first | exact hr | apply Rd.drewN | apply Rd.drew | apply Rd.alloc | apply Rd.other))) <;> (first | omega | (simp; omega))), (by omega)⟩, (by (repeat' (with_reducible (first | exact hA | apply Adv.drewN | apply Adv.drew | apply Adv.alloc | apply Adv.setCell))) <;> (first | exact Or.inr (Nat.le_refl _) | exact Or.inr (by simpa using hle4)))⟩; refine ⟨⟨?_, ?_⟩, ⟨?_, ?_⟩, ⟨?_, ?_⟩, ⟨?_, ?_⟩, ⟨?_, ?_⟩⟩ <;> (dsimp only; omega))
  · (refine bodyPost_ret (v := actV (_, _, _, _, _)) (by simp [results, Try.results98, go_sem, *]; unfold actV; with_reducible rfl) rfl ⟨_, rfl, ?_, ⟨_, (by (repeat' (with_reducible (first | exact hr | apply Rd.drewN | apply Rd.drew | apply Rd.alloc | apply Rd.other))) <;> (first | omega | (simp; omega))), (by omega)⟩, (by (repeat' (with_reducible (first | exact hA | apply Adv.drewN | apply Adv.drew | apply Adv.alloc | apply Adv.setCell))) <;> (first | exact Or.inr (Nat.le_refl _) | exact Or.inr (by simpa using hle4)))⟩; refine ⟨⟨?_, ?_⟩, ⟨?_, ?_⟩, ⟨?_, ?_⟩, ⟨?_, ?_⟩, ⟨?_, ?_⟩⟩ <;> (dsimp only; omega))
  · (refine bodyPost_ret (v := actV (_, _, _, _, _)) (by simp [results, Try.results98, go_sem, *]; unfold actV; with_reducible rfl) rfl ⟨_, rfl, ?_, ⟨_, (by (repeat' (with_reducible (first | exact hr | apply Rd.drewN | apply Rd.drew | apply Rd.alloc | apply Rd.other))) <;> (first | omega | (simp; omega))), (by omega)⟩, (by (repeat' (with_reducible (first | exact hA | apply Adv.drewN | apply Adv.drew | apply Adv.alloc | apply Adv.setCell))) <;> (first | exact Or.inr (Nat.le_refl _) | exact Or.inr (by simpa using hle4)))⟩; refine ⟨⟨?_, ?_⟩, ⟨?_, ?_⟩, ⟨?_, ?_⟩, ⟨?_, ?_⟩, ⟨?_, ?_⟩⟩ <;> (dsimp only; omega))
  · (refine bodyPost_ret (v := actV (_, _, _, _, _)) (by simp [results, Try.results98, go_sem, *]; unfold actV; with_reducible rfl) rfl ⟨_, rfl, ?_, ⟨_, (by (repeat' (with_reducible (first | exact hr | apply Rd.drewN | apply Rd.drew | apply Rd.alloc | apply Rd.other))) <;> (first | omega | (simp; omega))), (by omega)⟩, (by (repeat' (with_reducible (first | exact hA | apply Adv.drewN | apply Adv.drew | apply Adv.alloc | apply Adv.setCell))) <;> (first | exact Or.inr (Nat.le_refl _) | exact Or.inr (by simpa using hle4)))⟩; refine ⟨⟨?_, ?_⟩, ⟨?_, ?_⟩, ⟨?_, ?_⟩, ⟨?_, ?_⟩, ⟨?_, ?_⟩⟩ <;> (dsimp only; omega))
  · (refine bodyPost_ret (v := actV (_, _, _, _, _)) (by simp [results, Try.results98, go_sem, *]; unfold actV; with_reducible rfl) rfl ⟨_, rfl, ?_, ⟨_, (by (repeat' (with_reducible (first | exact hr | apply Rd.drewN | apply Rd.drew | apply Rd.alloc | apply Rd.other))) <;> (first | omega | (simp; omega))), (by omega)⟩, (by (repeat' (with_reducible (first | exact hA | apply Adv.drewN | apply Adv.drew | apply Adv.alloc | apply Adv.setCell))) <;> (first | exact Or.inr (Nat.le_refl _) | exact Or.inr (by simpa using hle4)))⟩; refine ⟨⟨?_, ?_⟩, ⟨?_, ?_⟩, ⟨?_, ?_⟩, ⟨?_, ?_⟩, ⟨?_, ?_⟩⟩ <;> (dsimp only; omega))
  · (refine bodyPost_ret (v := actV (_, _, _, _, _)) (by simp [results, Try.results98, go_sem, *]; unfold actV; with_reducible rfl) rfl ⟨_, rfl, ?_, ⟨_, (by (repeat' (with_reducible (first | exact hr | apply Rd.drewN | apply Rd.drew | apply Rd.alloc | apply Rd.other))) <;> (first | omega | (simp; omega))), (by omega)⟩, (by (repeat' (with_reducible (first | exact hA | apply Adv.drewN | apply Adv.drew | apply Adv.alloc | apply Adv.setCell))) <;> (first | exact Or.inr (Nat.le_refl _) | exact Or.inr (by simpa using hle4)))⟩; refine ⟨⟨?_, ?_⟩, ⟨?_, ?_⟩, ⟨?_, ?_⟩, ⟨?_, ?_⟩, ⟨?_, ?_⟩⟩ <;> (dsimp only; omega))
  · (refine bodyPost_ret (v := actV (_, _, _, _, _)) (by simp [results, Try.results98, go_sem, *]; unfold actV; with_reducible rfl) rfl ⟨_, rfl, ?_, ⟨_, (by (repeat' (with_reducible (first | exact hr | apply Rd.drewN | apply Rd.drew | apply Rd.alloc | apply Rd.other))) <;> (first | omega | (simp; omega))), (by omega)⟩, (by (repeat' (with_reducible (first | exact hA | apply Adv.drewN | apply Adv.drew | apply Adv.alloc | apply Adv.setCell))) <;> (first | exact Or.inr (Nat.le_refl _) | exact Or.inr (by simpa using hle4)))⟩; refine ⟨⟨?_, ?_⟩, ⟨?_, ?_⟩, ⟨?_, ?_⟩, ⟨?_, ?_⟩, ⟨?_, ?_⟩⟩ <;> (dsimp only; omega))
  · (refine bodyPost_ret (v := actV (_, _, _, _, _)) (by simp [results, Try.results98, go_sem, *]; unfold actV; with_reducible rfl) rfl ⟨_, rfl, ?_, ⟨_, (by (repeat' (with_reducible (first | exact hr | apply Rd.drewN | apply Rd.drew | apply Rd.alloc | apply Rd.other))) <;> (first | omega | (simp; omega))), (by omega)⟩, (by (repeat' (with_reducible (first | exact hA | apply Adv.drewN | apply Adv.drew | apply Adv.alloc | apply Adv.setCell))) <;> (first | exact Or.inr (Nat.le_refl _) | exact Or.inr (by simpa using hle4)))⟩; refine ⟨⟨?_, ?_⟩, ⟨?_, ?_⟩, ⟨?_, ?_⟩, ⟨?_, ?_⟩, ⟨?_, ?_⟩⟩ <;> (dsimp only; omega))
  · (refine bodyPost_ret (v := actV (_, _, _, _, _)) (by simp [results, Try.results98, go_sem, *]; unfold actV; with_reducible rfl) rfl ⟨_, rfl, ?_, ⟨_, (by (repeat' (with_reducible (first | exact hr | apply Rd.drewN | apply Rd.drew | apply Rd.alloc | apply Rd.other))) <;> (first | omega | (simp; omega))), (by omega)⟩, (by (repeat' (with_reducible (first | exact hA | apply Adv.drewN | apply Adv.drew | apply Adv.alloc | apply Adv.setCell))) <;> (first | exact Or.inr (Nat.le_refl _) | exact Or.inr (by simpa using hle4)))⟩; refine ⟨⟨?_, ?_⟩, ⟨?_, ?_⟩, ⟨?_, ?_⟩, ⟨?_, ?_⟩, ⟨?_, ?_⟩⟩ <;> (dsimp only; omega))
  · (refine bodyPost_ret (v := actV (_, _, _, _, _)) (by simp [results, Try.results98, go_sem, *]; unfold actV; with_reducible rfl) rfl ⟨_, rfl, ?_, ⟨_, (by (repeat' (with_reducible (first | exact hr | apply Rd.drewN | apply Rd.drew | apply Rd.alloc | apply Rd.other))) <;> (first | omega | (simp; omega))), (by omega)⟩, (by (repeat' (with_reducible (first | exact hA | apply Adv.drewN | apply Adv.drew | apply Adv.alloc | apply Adv.setCell))) <;> (first | exact Or.inr (Nat.le_refl _) | exact Or.inr (by simpa using hle4)))⟩; refine ⟨⟨?_, ?_⟩, ⟨?_, ?_⟩, ⟨?_, ?_⟩, ⟨?_, ?_⟩, ⟨?_, ?_⟩⟩ <;> (dsimp only; omega))
  · refine (pickB rb _ _ w _ (by (repeat' (with_reducible (first | exact hr | apply Rd.drewN | apply Rd.drew | apply Rd.alloc | apply Rd.other))) <;> (first | omega | (simp; omega))) (by (repeat' (with_reducible (first | exact hA | apply Adv.drewN | apply Adv.drew | apply Adv.alloc | apply Adv.setCell))) <;> (first | exact Or.inr (Nat.le_refl _) | exact Or.inr (by simpa using hle4))) (by omega) (by omega) (by omega)).mono ?_; rintro e w6 ⟨x, rfl, hx', hx, hr, hA, ha⟩; clear c0 c1 c2 c3 c4 cf0 cf2 cf3 cf4 r0 r1 r2 r3 r4 rf0 rf1 rf2 rf3 rf4 hs5 hsr
    have hC := hidA ((hC.out.put0 (.int .i64 8)).adv ha (by omega))
    have hR := hidA ((hR.out.off hne' 0 (.int .i64 8)).adv ha (by omega))
    obtain ⟨c0, c1, c2, c3, c4, cf, hs5⟩ := hC.out; obtain ⟨r0, r1, r2, r3, r4, rf, hsr⟩ := hR.out; have cf0 := cf 0; have cf2 := cf 2; have cf3 := cf 3; have cf4 := cf 4; have rf0 := rf 0; have rf1 := rf 1; have rf2 := rf 2; have rf3 := rf 3; have rf4 := rf 4; clear cf rf ha
    go_wp2_with (fail)
    (refine bodyPost_ret (v := actV (_, _, _, _, _)) (by simp [results, Try.results98, go_sem, *]; unfold actV; with_reducible rfl) rfl ⟨_, rfl, ?_, ⟨_, (by (repeat' (with_reducible (first | exact hr | apply Rd.drewN | apply Rd.drew | apply Rd.alloc | apply Rd.other))) <;> (first | omega | (simp; omega))), (by omega)⟩, (by (repeat' (with_reducible (first | exact hA | apply Adv.drewN | apply Adv.drew | apply Adv.alloc | apply Adv.setCell))) <;> (first | exact Or.inr (Nat.le_refl _) | exact Or.inr (by simpa using hle4)))⟩; refine ⟨⟨?_, ?_⟩, ⟨?_, ?_⟩, ⟨?_, ?_⟩, ⟨?_, ?_⟩, ⟨?_, ?_⟩⟩ <;> (dsimp only; omega))
  · have hz5 : w4.heap.size ≤ w5.heap.size := Nat.le_of_lt hs5
    refine (pickB rb _ _ w _ (by (repeat' (with_reducible (first | exact hr | apply Rd.drewN | apply Rd.drew | apply Rd.alloc | apply Rd.other))) <;> (first | omega | (simp; omega))) (by (repeat' (with_reducible (first | exact hA | apply Adv.drewN | apply Adv.drew | apply Adv.alloc | apply Adv.setCell))) <;> (first | exact Or.inr (Nat.le_refl _) | exact Or.inr (by simpa using hle4))) (by omega) (by omega) (by omega)).mono ?_; rintro e w6 ⟨x, rfl, hx', hx, hr, hA, ha⟩; clear c0 c1 c2 c3 c4 cf0 cf2 cf3 cf4 r0 r1 r2 r3 r4 rf0 rf1 rf2 rf3 rf4 hs5 hsr
    have hC := hidA ((hC.out.alloc (.cells #[.int .i64 9, .int .i64 8, .int .i64 6] 3)).adv ha (by omega))
    have hR := hidA ((hR.out.alloc (.cells #[.int .i64 9, .int .i64 8, .int .i64 6] 3)).adv ha (by omega))
    rcases (by omega : x = 0 ∨ x = 1 ∨ x = 2) with rfl | rfl | rfl
    · have q := (ha.cell (p := ⟨w5.heap.size, 0, none⟩) (by simp) (by show w5.heap.size ≠ rb; omega)).trans (by simp : _ = some (.int .i64 9))
      obtain ⟨c0, c1, c2, c3, c4, cf, hs5⟩ := hC.out; obtain ⟨r0, r1, r2, r3, r4, rf, hsr⟩ := hR.out; have cf0 := cf 0; have cf2 := cf 2; have cf3 := cf 3; have cf4 := cf 4; have rf0 := rf 0; have rf1 := rf 1; have rf2 := rf 2; have rf3 := rf 3; have rf4 := rf 4; clear cf rf ha
      go_wp2_with (fail)
      (refine bodyPost_ret (v := actV (_, _, _, _, _)) (by simp [results, Try.results98, go_sem, *]; unfold actV; with_reducible rfl) rfl ⟨_, rfl, ?_, ⟨_, (by (repeat' (with_reducible (first | exact hr | apply Rd.drewN | apply Rd.drew | apply Rd.alloc | apply Rd.other))) <;> (first | omega | (simp; omega))), (by omega)⟩, (by (repeat' (with_reducible (first | exact hA | apply Adv.drewN | apply Adv.drew | apply Adv.alloc | apply Adv.setCell))) <;> (first | exact Or.inr (Nat.le_refl _) | exact Or.inr (by simpa using hle4)))⟩; refine ⟨⟨?_, ?_⟩, ⟨?_, ?_⟩, ⟨?_, ?_⟩, ⟨?_, ?_⟩, ⟨?_, ?_⟩⟩ <;> (dsimp only; omega))
    · have q := (ha.cell (p := ⟨w5.heap.size, 1, none⟩) (by simp) (by show w5.heap.size ≠ rb; omega)).trans (by simp : _ = some (.int .i64 8))
      obtain ⟨c0, c1, c2, c3, c4, cf, hs5⟩ := hC.out; obtain ⟨r0, r1, r2, r3, r4, rf, hsr⟩ := hR.out; have cf0 := cf 0; have cf2 := cf 2; have cf3 := cf 3; have cf4 := cf 4; have rf0 := rf 0; have rf1 := rf 1; have rf2 := rf 2; have rf3 := rf 3; have rf4 := rf 4; clear cf rf ha
      go_wp2_with (fail)
      (refine bodyPost_ret (v := actV (_, _, _, _, _)) (by simp [results, Try.results98, go_sem, *]; unfold actV; with_reducible rfl) rfl ⟨_, rfl, ?_, ⟨_, (by (repeat' (with_reducible (first | exact hr | apply Rd.drewN | apply Rd.drew | apply Rd.alloc | apply Rd.other))) <;> (first | omega | (simp; omega))), (by omega)⟩, (by (repeat' (with_reducible (first | exact hA | apply Adv.drewN | apply Adv.drew | apply Adv.alloc | apply Adv.setCell))) <;> (first | exact Or.inr (Nat.le_refl _) | exact Or.inr (by simpa using hle4)))⟩; refine ⟨⟨?_, ?_⟩, ⟨?_, ?_⟩, ⟨?_, ?_⟩, ⟨?_, ?_⟩, ⟨?_, ?_⟩⟩ <;> (dsimp only; omega))
    · have q := (ha.cell (p := ⟨w5.heap.size, 2, none⟩) (by simp) (by show w5.heap.size ≠ rb; omega)).trans (by simp : _ = some (.int .i64 6))
      obtain ⟨c0, c1, c2, c3, c4, cf, hs5⟩ := hC.out; obtain ⟨r0, r1, r2, r3, r4, rf, hsr⟩ := hR.out; have cf0 := cf 0; have cf2 := cf 2; have cf3 := cf 3; have cf4 := cf 4; have rf0 := rf 0; have rf1 := rf 1; have rf2 := rf 2; have rf3 := rf 3; have rf4 := rf 4; clear cf rf ha
      go_wp2_with (fail)
      (refine bodyPost_ret (v := actV (_, _, _, _, _)) (by simp [results, Try.results98, go_sem, *]; unfold actV; with_reducible rfl) rfl ⟨_, rfl, ?_, ⟨_, (by (repeat' (with_reducible (first | exact hr | apply Rd.drewN | apply Rd.drew | apply Rd.alloc | apply Rd.other))) <;> (first | omega | (simp; omega))), (by omega)⟩, (by (repeat' (with_reducible (first | exact hA | apply Adv.drewN | apply Adv.drew | apply Adv.alloc | apply Adv.setCell))) <;> (first | exact Or.inr (Nat.le_refl _) | exact Or.inr (by simpa using hle4)))⟩; refine ⟨⟨?_, ?_⟩, ⟨?_, ?_⟩, ⟨?_, ?_⟩, ⟨?_, ?_⟩, ⟨?_, ?_⟩⟩ <;> (dsimp only; omega))
  · refine (pickB rb _ _ w _ (by (repeat' (with_reducible (first | exact hr | apply Rd.drewN | apply Rd.drew | apply Rd.alloc | apply Rd.other))) <;> (first | omega | (simp; omega))) (by (repeat' (with_reducible (first | exact hA | apply Adv.drewN | apply Adv.drew | apply Adv.alloc | apply Adv.setCell))) <;> (first | exact Or.inr (Nat.le_refl _) | exact Or.inr (by simpa using hle4))) (by omega) (by omega) (by omega)).mono ?_; rintro e w6 ⟨x, rfl, hx', hx, hr, hA, ha⟩; clear c0 c1 c2 c3 c4 cf0 cf2 cf3 cf4 r0 r1 r2 r3 r4 rf0 rf1 rf2 rf3 rf4 hs5 hsr
    have hC := hidA (hC.out.adv ha (by omega))
    have hR := hidA (hR.out.adv ha (by omega))
    obtain ⟨c0, c1, c2, c3, c4, cf, hs5⟩ := hC.out; obtain ⟨r0, r1, r2, r3, r4, rf, hsr⟩ := hR.out; have cf0 := cf 0; have cf2 := cf 2; have cf3 := cf 3; have cf4 := cf 4; have rf0 := rf 0; have rf1 := rf 1; have rf2 := rf 2; have rf3 := rf 3; have rf4 := rf 4; clear cf rf ha
    go_wp2_with (fail)
    · refine (pickB rb _ _ w _ (by (repeat' (with_reducible (first | exact hr | apply Rd.drewN | apply Rd.drew | apply Rd.alloc | apply Rd.other))) <;> (first | omega | (simp; omega))) (by (repeat' (with_reducible (first | exact hA | apply Adv.drewN | apply Adv.drew | apply Adv.alloc | apply Adv.setCell))) <;> (first | exact Or.inr (Nat.le_refl _) | exact Or.inr (by simpa using hle4))) (by omega) (by omega) (by omega)).mono ?_; rintro e w6 ⟨x, rfl, hx', hx, hr, hA, ha⟩; clear c0 c1 c2 c3 c4 cf0 cf2 cf3 cf4 r0 r1 r2 r3 r4 rf0 rf1 rf2 rf3 rf4 hs5 hsr
      have hC := hidA (hC.out.adv ha (by omega))
      have hR := hidA (hR.out.adv ha (by omega))
      obtain ⟨c0, c1, c2, c3, c4, cf, hs5⟩ := hC.out; obtain ⟨r0, r1, r2, r3, r4, rf, hsr⟩ := hR.out; have cf0 := cf 0; have cf2 := cf 2; have cf3 := cf 3; have cf4 := cf 4; have rf0 := rf 0; have rf1 := rf 1; have rf2 := rf 2; have rf3 := rf 3; have rf4 := rf 4; clear cf rf ha
      have hC1 := fun u => hidA (hC.out.put0 u)
      have hR1 := fun u => hidA (hR.out.off hne' 0 u)
      clear hC hR
      cases hk1 : (x - 1 == 0)
      · go_wp2_with (fail)
        (refine bodyPost_ret (v := actV (_, _, _, _, _)) (by simp [results, Try.results98, go_sem, *]; unfold actV; with_reducible rfl) rfl ⟨_, rfl, ?_, ⟨_, (by (repeat' (with_reducible (first | exact hr | apply Rd.drewN | apply Rd.drew | apply Rd.alloc | apply Rd.other))) <;> (first | omega | (simp; omega))), (by omega)⟩, (by (repeat' (with_reducible (first | exact hA | apply Adv.drewN | apply Adv.drew | apply Adv.alloc | apply Adv.setCell))) <;> (first | exact Or.inr (Nat.le_refl _) | exact Or.inr (by simpa using hle4)))⟩; refine ⟨⟨?_, ?_⟩, ⟨?_, ?_⟩, ⟨?_, ?_⟩, ⟨?_, ?_⟩, ⟨?_, ?_⟩⟩ <;> (dsimp only; omega))
      · have hC := hC1 (.int .i64 (x - 1))
        have hR := hR1 (.int .i64 (x - 1))
        clear hC1 hR1
        go_wp2_with (fail)
        refine (pickB rb _ _ w _ (by (repeat' (with_reducible (first | exact hr | apply Rd.drewN | apply Rd.drew | apply Rd.alloc | apply Rd.other))) <;> (first | omega | (simp; omega))) (by (repeat' (with_reducible (first | exact hA | apply Adv.drewN | apply Adv.drew | apply Adv.alloc | apply Adv.setCell))) <;> (first | exact Or.inr (Nat.le_refl _) | exact Or.inr (by simpa using hle4))) (by omega) (by omega) (by omega)).mono ?_; rintro e w6 ⟨x, rfl, hx', hx, hr, hA, ha⟩; clear c0 c1 c2 c3 c4 cf0 cf2 cf3 cf4 r0 r1 r2 r3 r4 rf0 rf1 rf2 rf3 rf4 hs5 hsr
        have hC := hidA (hC.out.adv ha (by omega))
        have hR := hidA (hR.out.adv ha (by omega))
        obtain ⟨c0, c1, c2, c3, c4, cf, hs5⟩ := hC.out; obtain ⟨r0, r1, r2, r3, r4, rf, hsr⟩ := hR.out; have cf0 := cf 0; have cf2 := cf 2; have cf3 := cf 3; have cf4 := cf 4; have rf0 := rf 0; have rf1 := rf 1; have rf2 := rf 2; have rf3 := rf 3; have rf4 := rf 4; clear cf rf ha
        go_wp2_with (fail)
        (refine bodyPost_ret (v := actV (_, _, _, _, _)) (by simp [results, Try.results98, go_sem, *]; unfold actV; with_reducible rfl) rfl ⟨_, rfl, ?_, ⟨_, (by (repeat' (with_reducible (first | exact hr | apply Rd.drewN | apply Rd.drew | apply Rd.alloc | apply Rd.other))) <;> (first | omega | (simp; omega))), (by omega)⟩, (by (repeat' (with_reducible (first | exact hA | apply Adv.drewN | apply Adv.drew | apply Adv.alloc | apply Adv.setCell))) <;> (first | exact Or.inr (Nat.le_refl _) | exact Or.inr (by simpa using hle4)))⟩; refine ⟨⟨?_, ?_⟩, ⟨?_, ?_⟩, ⟨?_, ?_⟩, ⟨?_, ?_⟩, ⟨?_, ?_⟩⟩ <;> (dsimp only; omega))
    · have hz6 : w4.heap.size ≤ w6.heap.size := Nat.le_of_lt hs5
      obtain ⟨w6', hw6'⟩ : ∃ u, u = w6 := ⟨_, rfl⟩
      refine (pickB rb _ _ w _ (by (repeat' (with_reducible (first | exact hr | apply Rd.drewN | apply Rd.drew | apply Rd.alloc | apply Rd.other))) <;> (first | omega | (simp; omega))) (by (repeat' (with_reducible (first | exact hA | apply Adv.drewN | apply Adv.drew | apply Adv.alloc | apply Adv.setCell))) <;> (first | exact Or.inr (Nat.le_refl _) | exact Or.inr (by simpa using hle4))) (by omega) (by omega) (by omega)).mono ?_; rintro e w6 ⟨x, rfl, hx', hx, hr, hA, ha⟩; clear c0 c1 c2 c3 c4 cf0 cf2 cf3 cf4 r0 r1 r2 r3 r4 rf0 rf1 rf2 rf3 rf4 hs5 hsr
      have hC := hidA ((hC.out.alloc (.cells #[.int .i64 (-1), .int .i64 6] 3)).adv ha (by omega))
      have hR := hidA ((hR.out.alloc (.cells #[.int .i64 (-1), .int .i64 6] 3)).adv ha (by omega))
      rw [← hw6'] at ha hz6
      have q0 := (ha.cell (p := ⟨w6'.heap.size, 0, none⟩) (by simp) (by show w6'.heap.size ≠ rb; omega)).trans (by simp : _ = some (.int .i64 (-1)))
      have q1 := (ha.cell (p := ⟨w6'.heap.size, 1, none⟩) (by simp) (by show w6'.heap.size ≠ rb; omega)).trans (by simp : _ = some (.int .i64 6))
      rw [hw6'] at q0 q1
      clear hw6' hz6
      obtain ⟨c0, c1, c2, c3, c4, cf, hs5⟩ := hC.out; obtain ⟨r0, r1, r2, r3, r4, rf, hsr⟩ := hR.out; have cf0 := cf 0; have cf2 := cf 2; have cf3 := cf 3; have cf4 := cf 4; have rf0 := rf 0; have rf1 := rf 1; have rf2 := rf 2; have rf3 := rf 3; have rf4 := rf 4; clear cf rf ha
      have hC1 := fun u => hidA (hC.out.put2 u)
      have hR1 := fun u => hidA (hR.out.off hne' 2 u)
      clear hC hR
      rcases (by omega : x = 0 ∨ x = 1) with rfl | rfl
      · have hC := hC1 (.int .i64 (-1))
        have hR := hR1 (.int .i64 (-1))
        clear hC1 hR1
        go_wp2_with (fail)
        refine (pickB rb _ _ w _ (by (repeat' (with_reducible (first | exact hr | apply Rd.drewN | apply Rd.drew | apply Rd.alloc | apply Rd.other))) <;> (first | omega | (simp; omega))) (by (repeat' (with_reducible (first | exact hA | apply Adv.drewN | apply Adv.drew | apply Adv.alloc | apply Adv.setCell))) <;> (first | exact Or.inr (Nat.le_refl _) | exact Or.inr (by simpa using hle4))) (by omega) (by omega) (by omega)).mono ?_; rintro e w6 ⟨x, rfl, hx', hx, hr, hA, ha⟩; clear c0 c1 c2 c3 c4 cf0 cf2 cf3 cf4 r0 r1 r2 r3 r4 rf0 rf1 rf2 rf3 rf4 hs5 hsr
        have hC := hidA (hC.out.adv ha (by omega))
        have hR := hidA (hR.out.adv ha (by omega))
        clear q0 q1
        obtain ⟨c0, c1, c2, c3, c4, cf, hs5⟩ := hC.out; obtain ⟨r0, r1, r2, r3, r4, rf, hsr⟩ := hR.out; have cf0 := cf 0; have cf2 := cf 2; have cf3 := cf 3; have cf4 := cf 4; have rf0 := rf 0; have rf1 := rf 1; have rf2 := rf 2; have rf3 := rf 3; have rf4 := rf 4; clear cf rf ha
        go_wp2_with (fail)
        (refine bodyPost_ret (v := actV (_, _, _, _, _)) (by simp [results, Try.results98, go_sem, *]; unfold actV; with_reducible rfl) rfl ⟨_, rfl, ?_, ⟨_, (by (repeat' (with_reducible (first | exact hr | apply Rd.drewN | apply Rd.drew | apply Rd.alloc | apply Rd.other))) <;> (first | omega | (simp; omega))), (by omega)⟩, (by (repeat' (with_reducible (first | exact hA | apply Adv.drewN | apply Adv.drew | apply Adv.alloc | apply Adv.setCell))) <;> (first | exact Or.inr (Nat.le_refl _) | exact Or.inr (by simpa using hle4)))⟩; refine ⟨⟨?_, ?_⟩, ⟨?_, ?_⟩, ⟨?_, ?_⟩, ⟨?_, ?_⟩, ⟨?_, ?_⟩⟩ <;> (dsimp only; omega))
      · have hC := hC1 (.int .i64 6)
        have hR := hR1 (.int .i64 6)
        clear hC1 hR1
        go_wp2_with (fail)
        refine (pickB rb _ _ w _ (by (repeat' (with_reducible (first | exact hr | apply Rd.drewN | apply Rd.drew | apply Rd.alloc | apply Rd.other))) <;> (first | omega | (simp; omega))) (by (repeat' (with_reducible (first | exact hA | apply Adv.drewN | apply Adv.drew | apply Adv.alloc | apply Adv.setCell))) <;> (first | exact Or.inr (Nat.le_refl _) | exact Or.inr (by simpa using hle4))) (by omega) (by omega) (by omega)).mono ?_; rintro e w6 ⟨x, rfl, hx', hx, hr, hA, ha⟩; clear c0 c1 c2 c3 c4 cf0 cf2 cf3 cf4 r0 r1 r2 r3 r4 rf0 rf1 rf2 rf3 rf4 hs5 hsr
        have hC := hidA (hC.out.adv ha (by omega))
        have hR := hidA (hR.out.adv ha (by omega))
        clear q0 q1
        obtain ⟨c0, c1, c2, c3, c4, cf, hs5⟩ := hC.out; obtain ⟨r0, r1, r2, r3, r4, rf, hsr⟩ := hR.out; have cf0 := cf 0; have cf2 := cf 2; have cf3 := cf 3; have cf4 := cf 4; have rf0 := rf 0; have rf1 := rf 1; have rf2 := rf 2; have rf3 := rf 3; have rf4 := rf 4; clear cf rf ha
        go_wp2_with (fail)
        (refine bodyPost_ret (v := actV (_, _, _, _, _)) (by simp [results, Try.results98, go_sem, *]; unfold actV; with_reducible rfl) rfl ⟨_, rfl, ?_, ⟨_, (by (repeat' (with_reducible (first | exact hr | apply Rd.drewN | apply Rd.drew | apply Rd.alloc | apply Rd.other))) <;> (first | omega | (simp; omega))), (by omega)⟩, (by (repeat' (with_reducible (first | exact hA | apply Adv.drewN | apply Adv.drew | apply Adv.alloc | apply Adv.setCell))) <;> (first | exact Or.inr (Nat.le_refl _) | exact Or.inr (by simpa using hle4)))⟩; refine ⟨⟨?_, ?_⟩, ⟨?_, ?_⟩, ⟨?_, ?_⟩, ⟨?_, ?_⟩, ⟨?_, ?_⟩⟩ <;> (dsimp only; omega))
    · have hz6 : w4.heap.size ≤ w6.heap.size := Nat.le_of_lt hs5
      obtain ⟨w6', hw6'⟩ : ∃ u, u = w6 := ⟨_, rfl⟩
      refine (pickB rb _ _ w _ (by (repeat' (with_reducible (first | exact hr | apply Rd.drewN | apply Rd.drew | apply Rd.alloc | apply Rd.other))) <;> (first | omega | (simp; omega))) (by (repeat' (with_reducible (first | exact hA | apply Adv.drewN | apply Adv.drew | apply Adv.alloc | apply Adv.setCell))) <;> (first | exact Or.inr (Nat.le_refl _) | exact Or.inr (by simpa using hle4))) (by omega) (by omega) (by omega)).mono ?_; rintro e w6 ⟨x, rfl, hx', hx, hr, hA, ha⟩; clear c0 c1 c2 c3 c4 cf0 cf2 cf3 cf4 r0 r1 r2 r3 r4 rf0 rf1 rf2 rf3 rf4 hs5 hsr
      have hC := hidA ((hC.out.alloc (.cells #[.int .i64 (-1), .int .i64 4] 3)).adv ha (by omega))
      have hR := hidA ((hR.out.alloc (.cells #[.int .i64 (-1), .int .i64 4] 3)).adv ha (by omega))
      rw [← hw6'] at ha hz6
      have q0 := (ha.cell (p := ⟨w6'.heap.size, 0, none⟩) (by simp) (by show w6'.heap.size ≠ rb; omega)).trans (by simp : _ = some (.int .i64 (-1)))
      have q1 := (ha.cell (p := ⟨w6'.heap.size, 1, none⟩) (by simp) (by show w6'.heap.size ≠ rb; omega)).trans (by simp : _ = some (.int .i64 4))
      rw [hw6'] at q0 q1
      clear hw6' hz6
      obtain ⟨c0, c1, c2, c3, c4, cf, hs5⟩ := hC.out; obtain ⟨r0, r1, r2, r3, r4, rf, hsr⟩ := hR.out; have cf0 := cf 0; have cf2 := cf 2; have cf3 := cf 3; have cf4 := cf 4; have rf0 := rf 0; have rf1 := rf 1; have rf2 := rf 2; have rf3 := rf 3; have rf4 := rf 4; clear cf rf ha
      have hC1 := fun u => hidA (hC.out.put3 u)
      have hR1 := fun u => hidA (hR.out.off hne' 3 u)
      clear hC hR
      rcases (by omega : x = 0 ∨ x = 1) with rfl | rfl
      · have hC := hC1 (.int .i64 (-1))
        have hR := hR1 (.int .i64 (-1))
        clear hC1 hR1
        go_wp2_with (fail)
        refine (pickB rb _ _ w _ (by (repeat' (with_reducible (first | exact hr | apply Rd.drewN | apply Rd.drew | apply Rd.alloc | apply Rd.other))) <;> (first | omega | (simp; omega))) (by (repeat' (with_reducible (first | exact hA | apply Adv.drewN | apply Adv.drew | apply Adv.alloc | apply Adv.setCell))) <;> (first | exact Or.inr (Nat.le_refl _) | exact Or.inr (by simpa using hle4))) (by omega) (by omega) (by omega)).mono ?_; rintro e w6 ⟨x, rfl, hx', hx, hr, hA, ha⟩; clear c0 c1 c2 c3 c4 cf0 cf2 cf3 cf4 r0 r1 r2 r3 r4 rf0 rf1 rf2 rf3 rf4 hs5 hsr
        have hC := hidA (hC.out.adv ha (by omega))
        have hR := hidA (hR.out.adv ha (by omega))
        clear q0 q1
        obtain ⟨c0, c1, c2, c3, c4, cf, hs5⟩ := hC.out; obtain ⟨r0, r1, r2, r3, r4, rf, hsr⟩ := hR.out; have cf0 := cf 0; have cf2 := cf 2; have cf3 := cf 3; have cf4 := cf 4; have rf0 := rf 0; have rf1 := rf 1; have rf2 := rf 2; have rf3 := rf 3; have rf4 := rf 4; clear cf rf ha
        go_wp2_with (fail)
        (refine bodyPost_ret (v := actV (_, _, _, _, _)) (by simp [results, Try.results98, go_sem, *]; unfold actV; with_reducible rfl) rfl ⟨_, rfl, ?_, ⟨_, (by (repeat' (with_reducible (first | exact hr | apply Rd.drewN | apply Rd.drew | apply Rd.alloc | apply Rd.other))) <;> (first | omega | (simp; omega))), (by omega)⟩, (by (repeat' (with_reducible (first | exact hA | apply Adv.drewN | apply Adv.drew | apply Adv.alloc | apply Adv.setCell))) <;> (first | exact Or.inr (Nat.le_refl _) | exact Or.inr (by simpa using hle4)))⟩; refine ⟨⟨?_, ?_⟩, ⟨?_, ?_⟩, ⟨?_, ?_⟩, ⟨?_, ?_⟩, ⟨?_, ?_⟩⟩ <;> (dsimp only; omega))
      · have hC := hC1 (.int .i64 4)
        have hR := hR1 (.int .i64 4)
        clear hC1 hR1
        go_wp2_with (fail)
        refine (pickB rb _ _ w _ (by (repeat' (with_reducible (first | exact hr | apply Rd.drewN | apply Rd.drew | apply Rd.alloc | apply Rd.other))) <;> (first | omega | (simp; omega))) (by (repeat' (with_reducible (first | exact hA | apply Adv.drewN | apply Adv.drew | apply Adv.alloc | apply Adv.setCell))) <;> (first | exact Or.inr (Nat.le_refl _) | exact Or.inr (by simpa using hle4))) (by omega) (by omega) (by omega)).mono ?_; rintro e w6 ⟨x, rfl, hx', hx, hr, hA, ha⟩; clear c0 c1 c2 c3 c4 cf0 cf2 cf3 cf4 r0 r1 r2 r3 r4 rf0 rf1 rf2 rf3 rf4 hs5 hsr
        have hC := hidA (hC.out.adv ha (by omega))
        have hR := hidA (hR.out.adv ha (by omega))
        clear q0 q1
        obtain ⟨c0, c1, c2, c3, c4, cf, hs5⟩ := hC.out; obtain ⟨r0, r1, r2, r3, r4, rf, hsr⟩ := hR.out; have cf0 := cf 0; have cf2 := cf 2; have cf3 := cf 3; have cf4 := cf 4; have rf0 := rf 0; have rf1 := rf 1; have rf2 := rf 2; have rf3 := rf 3; have rf4 := rf 4; clear cf rf ha
        go_wp2_with (fail)
        (refine bodyPost_ret (v := actV (_, _, _, _, _)) (by simp [results, Try.results98, go_sem, *]; unfold actV; with_reducible rfl) rfl ⟨_, rfl, ?_, ⟨_, (by (repeat' (with_reducible (first | exact hr | apply Rd.drewN | apply Rd.drew | apply Rd.alloc | apply Rd.other))) <;> (first | omega | (simp; omega))), (by omega)⟩, (by (repeat' (with_reducible (first | exact hA | apply Adv.drewN | apply Adv.drew | apply Adv.alloc | apply Adv.setCell))) <;> (first | exact Or.inr (Nat.le_refl _) | exact Or.inr (by simpa using hle4)))⟩; refine ⟨⟨?_, ?_⟩, ⟨?_, ?_⟩, ⟨?_, ?_⟩, ⟨?_, ?_⟩, ⟨?_, ?_⟩⟩ <;> (dsimp only; omega))
    · have hz6 : w4.heap.size ≤ w6.heap.size := Nat.le_of_lt hs5
      obtain ⟨w6', hw6'⟩ : ∃ u, u = w6 := ⟨_, rfl⟩
      refine (pickB rb _ _ w _ (by (repeat' (with_reducible (first | exact hr | apply Rd.drewN | apply Rd.drew | apply Rd.alloc | apply Rd.other))) <;> (first | omega | (simp; omega))) (by (repeat' (with_reducible (first | exact hA | apply Adv.drewN | apply Adv.drew | apply Adv.alloc | apply Adv.setCell))) <;> (first | exact Or.inr (Nat.le_refl _) | exact Or.inr (by simpa using hle4))) (by omega) (by omega) (by omega)).mono ?_; rintro e w6 ⟨x, rfl, hx', hx, hr, hA, ha⟩; clear c0 c1 c2 c3 c4 cf0 cf2 cf3 cf4 r0 r1 r2 r3 r4 rf0 rf1 rf2 rf3 rf4 hs5 hsr
      have hC := hidA ((hC.out.alloc (.cells #[.int .i64 (-1), .int .i64 64] 3)).adv ha (by omega))
      have hR := hidA ((hR.out.alloc (.cells #[.int .i64 (-1), .int .i64 64] 3)).adv ha (by omega))
      rw [← hw6'] at ha hz6
      have q0 := (ha.cell (p := ⟨w6'.heap.size, 0, none⟩) (by simp) (by show w6'.heap.size ≠ rb; omega)).trans (by simp : _ = some (.int .i64 (-1)))
      have q1 := (ha.cell (p := ⟨w6'.heap.size, 1, none⟩) (by simp) (by show w6'.heap.size ≠ rb; omega)).trans (by simp : _ = some (.int .i64 64))
      rw [hw6'] at q0 q1
      clear hw6' hz6
      obtain ⟨c0, c1, c2, c3, c4, cf, hs5⟩ := hC.out; obtain ⟨r0, r1, r2, r3, r4, rf, hsr⟩ := hR.out; have cf0 := cf 0; have cf2 := cf 2; have cf3 := cf 3; have cf4 := cf 4; have rf0 := rf 0; have rf1 := rf 1; have rf2 := rf 2; have rf3 := rf 3; have rf4 := rf 4; clear cf rf ha
      have hC1 := fun u => hidA (hC.out.put4 u)
      have hR1 := fun u => hidA (hR.out.off hne' 4 u)
      clear hC hR
      rcases (by omega : x = 0 ∨ x = 1) with rfl | rfl
      · have hC := hC1 (.int .i64 (-1))
        have hR := hR1 (.int .i64 (-1))
        clear hC1 hR1
        go_wp2_with (fail)
        refine (pickB rb _ _ w _ (by (repeat' (with_reducible (first | exact hr | apply Rd.drewN | apply Rd.drew | apply Rd.alloc | apply Rd.other))) <;> (first | omega | (simp; omega))) (by (repeat' (with_reducible (first | exact hA | apply Adv.drewN | apply Adv.drew | apply Adv.alloc | apply Adv.setCell))) <;> (first | exact Or.inr (Nat.le_refl _) | exact Or.inr (by simpa using hle4))) (by omega) (by omega) (by omega)).mono ?_; rintro e w6 ⟨x, rfl, hx', hx, hr, hA, ha⟩; clear c0 c1 c2 c3 c4 cf0 cf2 cf3 cf4 r0 r1 r2 r3 r4 rf0 rf1 rf2 rf3 rf4 hs5 hsr
        have hC := hidA (hC.out.adv ha (by omega))
        have hR := hidA (hR.out.adv ha (by omega))
        clear q0 q1
        obtain ⟨c0, c1, c2, c3, c4, cf, hs5⟩ := hC.out; obtain ⟨r0, r1, r2, r3, r4, rf, hsr⟩ := hR.out; have cf0 := cf 0; have cf2 := cf 2; have cf3 := cf 3; have cf4 := cf 4; have rf0 := rf 0; have rf1 := rf 1; have rf2 := rf 2; have rf3 := rf 3; have rf4 := rf 4; clear cf rf ha
        go_wp2_with (fail)
        (refine bodyPost_ret (v := actV (_, _, _, _, _)) (by simp [results, Try.results98, go_sem, *]; unfold actV; with_reducible rfl) rfl ⟨_, rfl, ?_, ⟨_, (by (repeat' (with_reducible (first | exact hr | apply Rd.drewN | apply Rd.drew | apply Rd.alloc | apply Rd.other))) <;> (first | omega | (simp; omega))), (by omega)⟩, (by (repeat' (with_reducible (first | exact hA | apply Adv.drewN | apply Adv.drew | apply Adv.alloc | apply Adv.setCell))) <;> (first | exact Or.inr (Nat.le_refl _) | exact Or.inr (by simpa using hle4)))⟩; refine ⟨⟨?_, ?_⟩, ⟨?_, ?_⟩, ⟨?_, ?_⟩, ⟨?_, ?_⟩, ⟨?_, ?_⟩⟩ <;> (dsimp only; omega))
      · have hC := hC1 (.int .i64 64)
        have hR := hR1 (.int .i64 64)
        clear hC1 hR1
        go_wp2_with (fail)
        refine (pickB rb _ _ w _ (by (repeat' (with_reducible (first | exact hr | apply Rd.drewN | apply Rd.drew | apply Rd.alloc | apply Rd.other))) <;> (first | omega | (simp; omega))) (by (repeat' (with_reducible (first | exact hA | apply Adv.drewN | apply Adv.drew | apply Adv.alloc | apply Adv.setCell))) <;> (first | exact Or.inr (Nat.le_refl _) | exact Or.inr (by simpa using hle4))) (by omega) (by omega) (by omega)).mono ?_; rintro e w6 ⟨x, rfl, hx', hx, hr, hA, ha⟩; clear c0 c1 c2 c3 c4 cf0 cf2 cf3 cf4 r0 r1 r2 r3 r4 rf0 rf1 rf2 rf3 rf4 hs5 hsr
        have hC := hidA (hC.out.adv ha (by omega))
        have hR := hidA (hR.out.adv ha (by omega))
        clear q0 q1
        obtain ⟨c0, c1, c2, c3, c4, cf, hs5⟩ := hC.out; obtain ⟨r0, r1, r2, r3, r4, rf, hsr⟩ := hR.out; have cf0 := cf 0; have cf2 := cf 2; have cf3 := cf 3; have cf4 := cf 4; have rf0 := rf 0; have rf1 := rf 1; have rf2 := rf 2; have rf3 := rf 3; have rf4 := rf 4; clear cf rf ha
        go_wp2_with (fail)
        (refine bodyPost_ret (v := actV (_, _, _, _, _)) (by simp [results, Try.results98, go_sem, *]; unfold actV; with_reducible rfl) rfl ⟨_, rfl, ?_, ⟨_, (by (repeat' (with_reducible (first | exact hr | apply Rd.drewN | apply Rd.drew | apply Rd.alloc | apply Rd.other))) <;> (first | omega | (simp; omega))), (by omega)⟩, (by (repeat' (with_reducible (first | exact hA | apply Adv.drewN | apply Adv.drew | apply Adv.alloc | apply Adv.setCell))) <;> (first | exact Or.inr (Nat.le_refl _) | exact Or.inr (by simpa using hle4)))⟩; refine ⟨⟨?_, ?_⟩, ⟨?_, ?_⟩, ⟨?_, ?_⟩, ⟨?_, ?_⟩, ⟨?_, ?_⟩⟩ <;> (dsimp only; omega))
  · refine (pickB rb _ _ w _ (by (repeat' (with_reducible (first | exact hr | apply Rd.drewN | apply Rd.drew | apply Rd.alloc | apply Rd.other))) <;> (first | omega | (simp; omega))) (by (repeat' (with_reducible (first | exact hA | apply Adv.drewN | apply Adv.drew | apply Adv.alloc | apply Adv.setCell))) <;> (first | exact Or.inr (Nat.le_refl _) | exact Or.inr (by simpa using hle4))) (by omega) (by omega) (by omega)).mono ?_; rintro e w6 ⟨x, rfl, hx', hx, hr, hA, ha⟩; clear c0 c1 c2 c3 c4 cf0 cf2 cf3 cf4 r0 r1 r2 r3 r4 rf0 rf1 rf2 rf3 rf4 hs5 hsr
    have hC := hidA (hC.out.adv ha (by omega))
    have hR := hidA (hR.out.adv ha (by omega))
    obtain ⟨c0, c1, c2, c3, c4, cf, hs5⟩ := hC.out; obtain ⟨r0, r1, r2, r3, r4, rf, hsr⟩ := hR.out; have cf0 := cf 0; have cf2 := cf 2; have cf3 := cf 3; have cf4 := cf 4; have rf0 := rf 0; have rf1 := rf 1; have rf2 := rf 2; have rf3 := rf 3; have rf4 := rf 4; clear cf rf ha
    obtain ⟨w6', hw6'⟩ : ∃ u, u = w6 := ⟨_, rfl⟩
    go_wp2_with (fail)
    go_region_with (go_at_call 61; refine (pickB rb _ _ w _ (by (repeat' (with_reducible (first | exact hr | apply Rd.drewN | apply Rd.drew | apply Rd.alloc | apply Rd.other))) <;> (first | omega | (simp; omega))) (by (repeat' (with_reducible (first | exact hA | apply Adv.drewN | apply Adv.drew | apply Adv.alloc | apply Adv.setCell))) <;> (first | exact Or.inr (Nat.le_refl _) | exact Or.inr (by simpa using hle4))) (by omega) (by omega) (by omega)).mono ?_; rintro e w7 ⟨y, rfl, hy', hy, hr, hA, ha⟩; rw [← hw6'] at ha; have ha := ((Adv.refl rb w6').drew).trans ha; rw [hw6'] at ha; have hC := hidA (hC.out.adv ha (by omega)); have hR := hidA (hR.out.adv ha (by omega)); clear c0 c1 c2 c3 c4 cf0 cf2 cf3 cf4 r0 r1 r2 r3 r4 rf0 rf1 rf2 rf3 rf4 hs5 hsr; obtain ⟨c0, c1, c2, c3, c4, cf, hs5⟩ := hC.out; obtain ⟨r0, r1, r2, r3, r4, rf, hsr⟩ := hR.out; have cf0 := cf 0; have cf2 := cf 2; have cf3 := cf 3; have cf4 := cf 4; have rf0 := rf 0; have rf1 := rf 1; have rf2 := rf 2; have rf3 := rf 3; have rf4 := rf 4; clear cf rf ha)
    all_goals
      clear hw6'
      go_wp2_with (fail)
      have e1 : x.tdiv 4 = x / 4 := Int.tdiv_eq_ediv_of_nonneg hx'
      have e2 : x.tmod 4 = x % 4 := Int.tmod_eq_emod_of_nonneg hx'
      have e3 : IntKind.i64.wrap (x.tdiv 4) = x / 4 := by rw [e1]; exact wrap_small _ (by omega) (by omega)
      have e5 : IntKind.i64.wrap (x / 4) = x / 4 := wrap_small _ (by omega) (by omega)
      have e4 : IntKind.i64.wrap (5 + y) = 5 + y := wrap_small _ (by omega) (by omega)
      (refine bodyPost_ret (v := actV (_, _, _, _, _)) (by simp [results, Try.results98, go_sem, *]; unfold actV; with_reducible rfl) rfl ⟨_, rfl, ?_, ⟨_, (by (repeat' (with_reducible (first | exact hr | apply Rd.drewN | apply Rd.drew | apply Rd.alloc | apply Rd.other))) <;> (first | omega | (simp; omega))), (by omega)⟩, (by (repeat' (with_reducible (first | exact hA | apply Adv.drewN | apply Adv.drew | apply Adv.alloc | apply Adv.setCell))) <;> (first | exact Or.inr (Nat.le_refl _) | exact Or.inr (by simpa using hle4)))⟩; refine ⟨⟨?_, ?_⟩, ⟨?_, ?_⟩, ⟨?_, ?_⟩, ⟨?_, ?_⟩, ⟨?_, ?_⟩⟩ <;> (dsimp only; omega))
  · refine (pickB rb _ _ w _ (by (repeat' (with_reducible (first | exact hr | apply Rd.drewN | apply Rd.drew | apply Rd.alloc | apply Rd.other))) <;> (first | omega | (simp; omega))) (by (repeat' (with_reducible (first | exact hA | apply Adv.drewN | apply Adv.drew | apply Adv.alloc | apply Adv.setCell))) <;> (first | exact Or.inr (Nat.le_refl _) | exact Or.inr (by simpa using hle4))) (by omega) (by omega) (by omega)).mono ?_; rintro e w6 ⟨x, rfl, hx', hx, hr, hA, ha⟩; clear c0 c1 c2 c3 c4 cf0 cf2 cf3 cf4 r0 r1 r2 r3 r4 rf0 rf1 rf2 rf3 rf4 hs5 hsr
    have hC := hidA (hC.out.adv ha (by omega))
    have hR := hidA (hR.out.adv ha (by omega))
    obtain ⟨c0, c1, c2, c3, c4, cf, hs5⟩ := hC.out; obtain ⟨r0, r1, r2, r3, r4, rf, hsr⟩ := hR.out; have cf0 := cf 0; have cf2 := cf 2; have cf3 := cf 3; have cf4 := cf 4; have rf0 := rf 0; have rf1 := rf 1; have rf2 := rf 2; have rf3 := rf 3; have rf4 := rf 4; clear cf rf ha
    obtain ⟨w6', hw6'⟩ : ∃ u, u = w6 := ⟨_, rfl⟩
    go_wp2_with (fail)
    go_region_with (go_at_call 61; refine (pickB rb _ _ w _ (by (repeat' (with_reducible (first | exact hr | apply Rd.drewN | apply Rd.drew | apply Rd.alloc | apply Rd.other))) <;> (first | omega | (simp; omega))) (by (repeat' (with_reducible (first | exact hA | apply Adv.drewN | apply Adv.drew | apply Adv.alloc | apply Adv.setCell))) <;> (first | exact Or.inr (Nat.le_refl _) | exact Or.inr (by simpa using hle4))) (by omega) (by omega) (by omega)).mono ?_; rintro e w7 ⟨y, rfl, hy', hy, hr, hA, ha⟩; rw [← hw6'] at ha; have ha := ((Adv.refl rb w6').drew).trans ha; rw [hw6'] at ha; have hC := hidA (hC.out.adv ha (by omega)); have hR := hidA (hR.out.adv ha (by omega)); clear c0 c1 c2 c3 c4 cf0 cf2 cf3 cf4 r0 r1 r2 r3 r4 rf0 rf1 rf2 rf3 rf4 hs5 hsr; obtain ⟨c0, c1, c2, c3, c4, cf, hs5⟩ := hC.out; obtain ⟨r0, r1, r2, r3, r4, rf, hsr⟩ := hR.out; have cf0 := cf 0; have cf2 := cf 2; have cf3 := cf 3; have cf4 := cf 4; have rf0 := rf 0; have rf1 := rf 1; have rf2 := rf 2; have rf3 := rf 3; have rf4 := rf 4; clear cf rf ha)
    all_goals
      clear hw6'
      go_wp2_with (fail)
      have e1 : x.tdiv 4 = x / 4 := Int.tdiv_eq_ediv_of_nonneg hx'
      have e2 : x.tmod 4 = x % 4 := Int.tmod_eq_emod_of_nonneg hx'
      have e3 : IntKind.i64.wrap (x.tdiv 4) = x / 4 := by rw [e1]; exact wrap_small _ (by omega) (by omega)
      have e5 : IntKind.i64.wrap (x / 4) = x / 4 := wrap_small _ (by omega) (by omega)
      have e4 : IntKind.i64.wrap (5 + y) = 5 + y := wrap_small _ (by omega) (by omega)
      (refine bodyPost_ret (v := actV (_, _, _, _, _)) (by simp [results, Try.results98, go_sem, *]; unfold actV; with_reducible rfl) rfl ⟨_, rfl, ?_, ⟨_, (by (repeat' (with_reducible (first | exact hr | apply Rd.drewN | apply Rd.drew | apply Rd.alloc | apply Rd.other))) <;> (first | omega | (simp; omega))), (by omega)⟩, (by (repeat' (with_reducible (first | exact hA | apply Adv.drewN | apply Adv.drew | apply Adv.alloc | apply Adv.setCell))) <;> (first | exact Or.inr (Nat.le_refl _) | exact Or.inr (by simpa using hle4)))⟩; refine ⟨⟨?_, ?_⟩, ⟨?_, ?_⟩, ⟨?_, ?_⟩, ⟨?_, ?_⟩, ⟨?_, ?_⟩⟩ <;> (dsimp only; omega))
end Go.Proofs.Ytjegndgdpmlbaaa

/-
  Acts that a call has made: a row of its own; what is appended to it; what the drawing of a table's acts gives.
-/
set_option linter.unusedSimpArgs false
namespace Go.Proofs.Ytjegndgdpmlbaaa
open Go.RowKit

/-- The cells of an act, and of acts. -/
def actC (a : A5) : List Value := [.int .i64 a.1, .int .i64 a.2.1, .int .i64 a.2.2.1, .int .i64 a.2.2.2.1, .int .i64 a.2.2.2.2]
def flatA (xs : List A5) : List Value := xs.flatMap actC
theorem flatA_app (xs ys : List A5) : flatA (xs ++ ys) = flatA xs ++ flatA ys := by simp [flatA]
theorem flatA_len (xs : List A5) : (flatA xs).length = xs.length * 5 := by
  induction xs with
  | nil => rfl
  | cons x xs ih => simp only [flatA, List.flatMap_cons, List.length_append, List.length_cons, actC, List.length_nil] at ih ⊢; omega
theorem flatA_one (xs : List A5) : ∀ u ∈ flatA xs, u.oneCell' = true := by
  induction xs with
  | nil => intro u hu; simp [flatA] at hu
  | cons x xs ih =>
    intro u hu
    rw [show flatA (x :: xs) = actC x ++ flatA xs from rfl, List.mem_append] at hu
    rcases hu with hu | hu
    · simp only [actC, List.mem_cons, List.not_mem_nil, or_false] at hu
      rcases hu with rfl | rfl | rfl | rfl | rfl <;> rfl
    · exact ih u hu
theorem flatA_get (xs : List A5) (i : Nat) (hi : i < xs.length) :
    (flatA xs)[i * 5]? = some (.int .i64 (xs.getD i noA).1) ∧ (flatA xs)[i * 5 + 1]? = some (.int .i64 (xs.getD i noA).2.1) ∧ (flatA xs)[i * 5 + 2]? = some (.int .i64 (xs.getD i noA).2.2.1) ∧ (flatA xs)[i * 5 + 3]? = some (.int .i64 (xs.getD i noA).2.2.2.1) ∧ (flatA xs)[i * 5 + 4]? = some (.int .i64 (xs.getD i noA).2.2.2.2) := by
  induction xs generalizing i with
  | nil => simp at hi
  | cons x xs ih =>
    have hx : flatA (x :: xs) = .int .i64 x.1 :: .int .i64 x.2.1 :: .int .i64 x.2.2.1 :: .int .i64 x.2.2.2.1 :: .int .i64 x.2.2.2.2 :: flatA xs := rfl
    cases i with
    | zero => rw [hx]; simp
    | succ i =>
      have := ih i (by simpa using hi)
      rw [hx, show (i + 1) * 5 = i * 5 + 5 by omega]
      simpa using this

/-- Acts that a call owns, at or above a place. -/
def OwnA (w : World) (lo : Nat) (v : Value) (xs : List A5) : Prop := w.ownsRow lo 119 5 v xs.length (flatA xs)
theorem OwnA.acts {w : World} {lo : Nat} {v : Value} {xs : List A5} (h : OwnA w lo v xs) : ∃ a cap, v = .slice a xs.length cap ∧ xs.length ≤ cap ∧ IsActs w a xs.length xs ∧ ((a = none ∧ cap = 0) ∨ ∃ T, a = some ⟨T, 0, none⟩ ∧ lo ≤ T ∧ T < w.heap.size ∧ Acts w T 0 xs) := by
  have hc := h
  obtain ⟨hlen, hd⟩ := h
  rcases hd with ⟨hv, h0⟩ | ⟨g, cap, cur, rfl, hg, hh, hle, _⟩
  · have he : xs = [] := List.eq_nil_of_length_eq_zero h0
    subst he
    exact ⟨none, 0, hv, Nat.zero_le _, ⟨rfl, Or.inl rfl⟩, Or.inl ⟨rfl, rfl⟩⟩
  · have hlt := (World.ownsRow.lt hc g rfl).2
    have hA : Acts w g 0 xs := fun i hi => by
      obtain ⟨e0, e1, e2, e3, e4⟩ := flatA_get xs i hi
      have ad : ∀ j, (⟨g, 0, none⟩ : Addr).add j = ⟨g, j, none⟩ := fun j => by by_cases h : j = 0 <;> simp [Addr.add, h]
      have k0 := World.ownsRow.cells hc rfl _ _ e0
      have k1 := World.ownsRow.cells hc rfl _ _ e1
      have k2 := World.ownsRow.cells hc rfl _ _ e2
      have k3 := World.ownsRow.cells hc rfl _ _ e3
      have k4 := World.ownsRow.cells hc rfl _ _ e4
      rw [ad] at k0 k1 k2 k3 k4
      simp only [Nat.zero_add]
      exact ⟨k0, k1, k2, k3, k4⟩
    exact ⟨some ⟨g, 0, none⟩, cap, rfl, hle, ⟨rfl, Or.inr ⟨g, 0, rfl, hlt, hA⟩⟩, Or.inr ⟨g, rfl, hg, hlt, hA⟩⟩
theorem OwnA.lower {w : World} {lo lo' : Nat} {v : Value} {xs : List A5} (h : OwnA w lo v xs) (hb : lo' ≤ lo) : OwnA w lo' v xs := by
  obtain ⟨hl, hd⟩ := h
  refine ⟨hl, ?_⟩
  rcases hd with h0 | ⟨g, cap, cur, rfl, hg, hr⟩
  · exact Or.inl h0
  · exact Or.inr ⟨g, cap, cur, rfl, Nat.le_trans hb hg, hr⟩
theorem adv_grownA {rb : Nat} {W w' : World} (h : Adv rb W w') : W.grownBy w' (some rb) := ⟨h.os, h.tape, h.output, h.size, fun k hk hn => h.block k hk (fun e => hn (by rw [e]))⟩
theorem OwnA.adv {rb lo : Nat} {W w' : World} {v : Value} {xs : List A5} (h : OwnA W lo v xs) (ha : Adv rb W w') (hb : rb < lo) : OwnA w' lo v xs := by
  refine World.ownsRow.kept h (adv_grownA ha) ?_
  cases hv : v.ownBlock with
  | none => exact Or.inl rfl
  | some g =>
    refine Or.inr fun e => ?_
    have := (World.ownsRow.lt h g hv).1
    simp at e
    omega
theorem OwnA.new (w : World) : OwnA (w.alloc (.cells #[] 119)) w.heap.size (.slice (some ⟨w.heap.size, 0, none⟩) 0 0) [] := World.ownsRow_made w #[] 0 (Nat.le_refl _) (by simp [maxLen]) rfl
theorem cells_new (w : World) (cs : Array Value) (t : TypeId) (j : Nat) (u : Value) (h : cs.toList[j]? = some u) : (w.alloc (.cells cs t)).cell? ((⟨w.heap.size, 0, none⟩ : Addr).add j) = some u :=
  World.news_of_block (fr := (0, 0)) (by show (w.heap.push _)[w.heap.size]? = _; exact Array.getElem?_push_size) j u h
theorem Adv.then_belowA {rb : Nat} {w X w' : World} (h : Adv rb w X) (hb : Below w.heap.size X w') : Adv rb w w' :=
  ⟨hb.os.trans h.os, hb.tape.trans h.tape, hb.output.trans h.output, Nat.le_trans h.size hb.size, fun k hk hn => (hb.block k hk).trans (h.block k hk hn)⟩

theorem infoAp : (Try.prog.info? 119).map (fun i => (i.zero, i.size, i.bytes)) = some (some (.agg #[.int .i64 0, .int .i64 0, .int .i64 0, .int .i64 0, .int .i64 0]), 5, 40) := by kernel_rfl
/-- An append of acts, kept shut. -/
def apaRun (P : Program) (x y : Value) (w : World) : Result Value := (Builtin.append_ #[92, 92] 92 #[x, y]).run P w
def nextAp : Result Value → Result Next
  | .ok v w => .ok (.value v) w
  | .halt h w => .halt h w
theorem nextAp_ok (v : Value) (w : World) : nextAp (.ok v w) = .ok (.value v) w := rfl
theorem exec_apa (ρ : Operand → Value) (dst : Option Tmp) (pos : String) (after : Array _) (guard : Option _) (x y : Operand) (w : World) :
    (execOp ρ ⟨dst, .call { callee := .builtin .append, args := #[x, y], argTypes := #[92, 92] }, 92, pos, after, guard⟩).run Try.prog w = nextAp (apaRun Try.prog (ρ x) (ρ y) w) := by
  unfold apaRun execOp
  simp only [resolve, invoke, builtin, Sem.run_bind, Sem.run_pure, Result.andThen_ok, List.map_toArray, List.map_cons, List.map_nil]
  cases (Builtin.append_ #[92, 92] 92 #[ρ x, ρ y]).run Try.prog w <;> rfl
theorem app_acts (lo : Nat) (v : Value) (xs ys : List A5) (w : World) (h : OwnA w lo v xs) (hlo : lo ≤ w.heap.size) (ad : Addr) (m c : Nat) (hm : ys.length = m) (h0 : 0 < m) (hn : xs.length + m ≤ 100000) (hc : ∀ j u, (flatA ys)[j]? = some u → w.cell? (ad.add j) = some u) :
    ∃ g cap w', apaRun Try.prog v (.slice (some ad) m c) w = .ok (.slice (some ⟨g, 0, none⟩) (xs.length + m) cap) w' ∧ OwnA w' lo (.slice (some ⟨g, 0, none⟩) (xs.length + m) cap) (xs ++ ys) ∧ Below lo w w' ∧ w.grownBy w' v.ownBlock := by
  obtain ⟨i0, hi, hz0, hz1, hz2⟩ := info_parts infoAp
  obtain ⟨g, cap, w', hr, ho, hg, _, _⟩ := run_append_lies (P := Try.prog) w 92 92 lo 119 i0 _ 5 40 Try.underlying92 hi hz0 hz1 hz2 rfl (by decide) v xs.length (flatA xs) h ad m c (flatA ys) (by rw [flatA_len, hm]) hc (flatA_one ys) h0 (by unfold maxLen; omega) (by omega) hlo w.heap.size rfl
  refine ⟨g, cap, w', hr, ?_, Below.grown (Below.refl _ _) hg hlo (fun k hk => (World.ownsRow.lt h k hk).1), hg⟩
  unfold OwnA
  rw [flatA_app, List.length_append, hm]
  exact ho
attribute [local go_sem ↓] exec_apa
attribute [local go_sem] nextAp_ok

set_option maxRecDepth 100000 in
set_option maxHeartbeats 4000000 in
theorem drawTables (rb k0 : Nat) (n g : Int) (w : World) (hr0 : Rd w rb k0) (hk0 : k0 ≤ 600000) (hg : 0 ≤ g) (hg2 : g < n) (_hn : n ≤ 64) :
    Calls Try.prog 97 #[.pointer (some ⟨rb, 0, none⟩), .int .i64 g] w fun e w' => ∃ v xs, e = .returned v ∧ OwnA w' w.heap.size v xs ∧ xs.length ≤ 12 ∧ (∀ a, a ∈ xs → SmA n a) ∧ (∃ k', Rd w' rb k' ∧ k' ≤ k0 + 12) ∧ Adv rb w w' := by
  have hlt := hr0.lt
  go_enter Try.func97, Try.ntmps97
  go_wp2
  go_loopw [5, 6] (fun v i wr => ∃ (k kr : Nat) (xs : List A5), k ≤ 6 ∧ i = .int .i64 k ∧ xs.length ≤ 2 * k ∧ (∃ a c, v = .slice a xs.length c) ∧ Hid (OwnA wr w.heap.size v xs) ∧ Hid (∀ a, a ∈ xs → SmA n a) ∧ Hid (Rd wr rb kr) ∧ kr ≤ k0 + 2 * k ∧ Hid (Adv rb w wr)) (fun _ i _ => 6 - (intOf i).toNat)
  case atStart => exact ⟨0, k0, [], Nat.zero_le _, rfl, Nat.zero_le _, ⟨_, _, rfl⟩, OwnA.new w, fun a ha => by simp at ha, hr0.alloc _, by omega, (Adv.refl _ _).alloc _⟩
  case round =>
    obtain ⟨k, kr, xs, hk, rfl, hl, ⟨a, c, rfl⟩, hO, hS, hR, hkr, hA⟩ := hrel
    by_cases hkl : k < 6
    · have hki : (k : Int) < 6 := by omega
      have sW := hA.out.size
      go_wp2_with (fail)
      refine (pickA rb kr 4 _ hR.out (by omega) (by omega) (by omega)).mono ?_
      rintro e w1 ⟨v, rfl, hv, hr1, ha1⟩
      have hO1 := hidA (hO.out.adv ha1 hlt)
      have hR1 := hidA hr1
      have hA1 := hidA (hA.out.trans ha1)
      have s1 := ha1.size
      clear hO hR hA hr1 ha1
      by_cases hv0 : v = 0
      · subst hv0
        go_wp2_with (fail)
        go_roundw
        case rel => exact ⟨k + 1, kr + 1, xs, by omega, by go_num, by omega, ⟨_, _, rfl⟩, hO1.out, hS.out, hR1.out, by omega, hA1.out⟩
        case measure => simp [intOf]; omega
      · have hvi : (0 : Int) < (v : Int) := by omega
        have e1 : (k : Int).tdiv 4 = ((k / 4 : Nat) : Int) := by rw [Int.tdiv_eq_ediv_of_nonneg (by omega)]; omega
        have e2 : (k : Int).tmod 4 = ((k % 4 : Nat) : Int) := by rw [Int.tmod_eq_emod_of_nonneg (by omega)]; omega
        have e3 : IntKind.i64.wrap ((k : Int).tdiv 4) = ((k / 4 : Nat) : Int) := by rw [e1]; exact wrap_small _ (by omega) (by omega)
        go_wp2_with (fail)
        refine (pickA rb (kr + 1) 8 _ hR1.out (by omega) (by omega) (by omega)).mono ?_
        rintro e w2 ⟨z, rfl, hz, hr2, ha2⟩
        have hO2 := hO1.out.adv ha2 hlt
        have s2 := ha2.size
        have hR2 := hidA hr2
        have hA2 := hidA (hA1.out.trans ha2)
        clear hO1 hR1 hA1 hr2 ha2
        obtain ⟨W3, hW3⟩ : ∃ W3, W3 = w2.alloc (.cells #[.int .i64 2, .int .i64 g, .int .i64 ((k : Int) / 4), .int .i64 ((k : Int) % 4), .int .i64 (5 + (z : Int)), .int .i64 5, .int .i64 g, .int .i64 0, .int .i64 0, .int .i64 0] 119) := ⟨_, rfl⟩
        have s3 : W3.heap.size = w2.heap.size + 1 := by rw [hW3]; simp
        have hB3 : Below w2.heap.size w2 W3 := by rw [hW3]; exact (Below.refl _ _).alloc (Nat.le_refl _) _
        obtain ⟨gg, cap, w4, hApp, hO4, hB4, _⟩ := app_acts w.heap.size (.slice a xs.length c) xs [(2, g, (k : Int) / 4, (k : Int) % 4, 5 + (z : Int)), (5, g, 0, 0, 0)] W3 (by rw [hW3]; exact World.ownsRow.alloc hO2 _) (by omega) ⟨w2.heap.size, 0, none⟩ 2 2 rfl (by omega) (by omega) (fun j u hu => by rw [hW3]; exact cells_new w2 _ _ j u hu)
        have hS4 : Hid (∀ x, x ∈ xs ++ [(2, g, (k : Int) / 4, (k : Int) % 4, 5 + (z : Int)), (5, g, 0, 0, 0)] → SmA n x) := fun x hx => by
          rw [List.mem_append] at hx
          rcases hx with hx | hx
          · exact hS.out x hx
          · simp only [List.mem_cons, List.not_mem_nil, or_false] at hx
            rcases hx with rfl | rfl
            · refine ⟨⟨?_, ?_⟩, ⟨?_, ?_⟩, ⟨?_, ?_⟩, ⟨?_, ?_⟩, ⟨?_, ?_⟩⟩ <;> (dsimp only; omega)
            · refine ⟨⟨?_, ?_⟩, ⟨?_, ?_⟩, ⟨?_, ?_⟩, ⟨?_, ?_⟩, ⟨?_, ?_⟩⟩ <;> (dsimp only; omega)
        have hO4 := hidA hO4
        have hA4 := hidA (hA2.out.then_belowA (hB3.mono (by omega)) |>.then_belowA hB4)
        have hR4 := hidA ((hR2.out.below hB3 (by omega)).below hB4 hlt)
        clear hO2 hB3 hB4 hA2 hR2 hS
        go_wp2_with (fail)
        rw [← hW3, hApp, nextAp_ok]
        clear hW3 hApp
        go_wp2
        go_roundw
        case rel => exact ⟨k + 1, kr + 1 + 1, _, by omega, by go_num, (by simp; omega), ⟨some ⟨gg, 0, none⟩, cap, by rw [List.length_append]; rfl⟩, hO4.out, hS4.out, hR4.out, by omega, hA4.out⟩
        case measure => simp [intOf]; omega
    · obtain rfl : k = 6 := by omega
      go_wp2
      go_ret
      exact ⟨_, xs, rfl, hO.out, by omega, hS.out, ⟨kr, hR.out, by omega⟩, hA.out⟩

set_option maxRecDepth 100000 in
set_option maxHeartbeats 4000000 in
theorem drawPlay (rb k0 : Nat) (w : World) (hr0 : Rd w rb k0) (hk0 : k0 ≤ 500000) :
    Calls Try.prog 74 #[.pointer (some ⟨rb, 0, none⟩)] w fun e w' => ∃ (n : Int) (v : Value) (xs : List A5), e = .returned (.tuple #[.int .i64 n, v]) ∧ 1 ≤ n ∧ n ≤ 2 ∧ OwnA w' w.heap.size v xs ∧ xs.length ≤ 60 ∧ (∀ a, a ∈ xs → SmA n a) ∧ (∃ k', Rd w' rb k' ∧ k' ≤ k0 + 1000) ∧ Adv rb w w' := by
  have hlt := hr0.lt
  go_enter Try.func74, Try.ntmps74
  go_wp2_with (fail)
  refine (pickA rb k0 2 _ hr0 (by omega) (by omega) (by omega)).mono ?_
  rintro e w1 ⟨g, rfl, hg, hr1, ha1⟩
  have s1 := ha1.size
  have e0 : IntKind.i64.wrap (1 + (g : Int)) = 1 + (g : Int) := wrap_small _ (by omega) (by omega)
  go_wp2_with (fail)
  obtain ⟨W2, hW2⟩ : ∃ W2, W2 = w1.alloc (.cells #[] 119) := ⟨_, rfl⟩
  have hO2 : OwnA W2 w.heap.size (.slice (some ⟨w1.heap.size, 0, none⟩) 0 0) [] := by rw [hW2]; exact (OwnA.new w1).lower s1
  have hA2 : Adv rb w W2 := by rw [hW2]; exact ha1.alloc _
  have hR2 : Rd W2 rb (k0 + 1) := by rw [hW2]; exact hr1.alloc _
  rw [← hW2]
  clear hW2 hr1 ha1
  refine (pickA rb (k0 + 1) 4 _ hR2 (by omega) (by omega) (by omega)).mono ?_
  rintro e w3 ⟨v, rfl, hv, hr3, ha3⟩
  have hO3 := hO2.adv ha3 hlt
  have hA3 := hA2.trans ha3
  have s2 := ha3.size
  have hS0 : ∀ a : A5, a ∈ ([] : List A5) → SmA (1 + (g : Int)) a := fun a ha => by simp at ha
  obtain ⟨xs, hxs⟩ : ∃ xs : List A5, xs = [] := ⟨_, rfl⟩
  by_cases hv0 : v = 0
  focus
    subst hv0
    go_wp2_with (fail)
    have hJ : ∃ (xs : List A5) (a : Option Addr) (c : Nat), Value.slice (some ⟨w1.heap.size, 0, none⟩) 0 0 = .slice a xs.length c ∧ xs.length ≤ 12 ∧ Hid (OwnA w3 w.heap.size (.slice a xs.length c) xs) ∧ Hid (∀ a : A5, a ∈ xs → SmA (1 + (g : Int)) a) ∧ (∃ kr, Rd w3 rb kr ∧ kr ≤ k0 + 20) ∧ Hid (Adv rb w w3) := ⟨[], _, _, rfl, Nat.zero_le _, hO3, hS0, ⟨_, hr3, by omega⟩, hA3⟩
    obtain ⟨xs, a, c, hva, hxl, hO, hS, ⟨kr, hR, hk5⟩, hA⟩ := hJ
    rw [hva]
    clear hva
  rotate_left
  focus
    have hvi : (0 : Int) < (v : Int) := by omega
    go_wp2_with (fail)
    refine (pickA rb _ (1 + (g : Int)) _ hr3 (by omega) (by omega) (by omega)).mono ?_
    rintro e w4 ⟨q, rfl, hq, hr4, ha4⟩
    go_wp2_with (fail)
    refine (drawTables rb _ (1 + (g : Int)) q _ hr4 (by omega) (by omega) hq (by omega)).mono ?_
    rintro e w5 ⟨v5, xs, rfl, hO5, hxl, hS5, ⟨kr, hR, hk5'⟩, ha5⟩
    obtain ⟨a, c, rfl, hac, _, _⟩ := hO5.acts
    have s4 := ha4.size
    have hk5 : kr ≤ k0 + 20 := by omega
    have hO := hidA (hO5.lower (show w.heap.size ≤ w4.heap.size by have := hA3.size; omega))
    have hS := hidA hS5
    have hA := hidA ((hA3.trans ha4).trans ha5)
    go_wp2_with (fail)
    clear hO5 hS5 hac ha5 hr4 ha4 hvi
  all_goals
    clear hO3 hA3 hS0 hr0 hO2 hA2 hR2 ha3 hr3 s2
    refine (pickA rb kr 4 _ hR (by omega) (by omega) (by omega)).mono ?_
    rintro e w6 ⟨t, rfl, ht, hr6, ha6⟩
    have hO6 := hidA (hO.out.adv ha6 hlt)
    have hA6 := hidA (hA.out.trans ha6)
    clear hO hA hR ha6
    go_wp2_with (fail)
    refine (pickA rb (kr + 1) 52 _ hr6 (by omega) (by omega) (by omega)).mono ?_
    rintro e w7 ⟨m0, rfl, hm0, hr7, ha7⟩
    have hO7 := hidA (hO6.out.adv ha7 hlt)
    have hA7 := hidA (hA6.out.trans ha7)
    have hR7 := hidA hr7
    clear hO6 hA6 hr6 ha7 hr7
    go_wp2
    obtain ⟨tb, htb⟩ : ∃ tb : Bool, tb = decide (0 < t) := ⟨_, rfl⟩
    rw [← htb]
    clear htb
    go_loopw [5, 7] (fun v i wr => ∃ (m kr : Nat) (xs : List A5), m ≤ 51 ∧ i = .int .i64 m ∧ xs.length ≤ 60 ∧ (∃ a c, v = .slice a xs.length c) ∧ Hid (OwnA wr w.heap.size v xs) ∧ Hid (∀ a, a ∈ xs → SmA (1 + (g : Int)) a) ∧ Hid (Rd wr rb kr) ∧ kr + 10 * m ≤ k0 + 540 ∧ Hid (Adv rb w wr)) (fun _ i _ => (intOf i).toNat)
    case atStart => exact ⟨m0, _, xs, by omega, rfl, by omega, ⟨_, _, rfl⟩, hO7.out, hS.out, hR7.out, by omega, hA7.out⟩
    case round =>
      clear hS hO7 hA7 hR7
      obtain ⟨m, kr, xs, hm, rfl, hl, ⟨a, c, rfl⟩, hO, hS, hR, hkr, hA⟩ := hrel
      by_cases hm0 : m = 0
      · subst hm0
        go_wp2
        refine bodyPost_ret (v := .tuple #[.int .i64 (1 + (g : Int)), .slice a xs.length c]) (by simp [results, Try.results74, go_sem]) rfl ?_
        exact ⟨_, _, xs, rfl, by omega, by omega, hO.out, hl, hS.out, ⟨kr, hR.out, by omega⟩, hA.out⟩
      by_cases hl58 : xs.length < 58
      · have hmi : (0 : Int) < (m : Int) := by omega
        have hli : (xs.length : Int) < 58 := by omega
        have hr := hR.out
        have hlr := hr.lt
        have sW := hA.out.size
        have hwr := Adv.refl rb wr
        go_wp2_with (fail)
        refine (drawAct rb kr (1 + (g : Int)) _ hr (by omega) (by omega) (by omega)).mono ?_
        rintro e w8 ⟨⟨a0, a1, a2, a3, a4⟩, rfl, hs8, ⟨k8, hr8, hk8⟩, ha8⟩
        have s8 := ha8.size
        have hO8 := hidA (hO.out.adv ha8 hlt)
        have hA8 := hidA (hA.out.trans ha8)
        have hR8 := hidA hr8
        have hs8 := hidA hs8
        have hown : (Value.slice a xs.length c).ownBlock ≠ some w8.heap.size := fun e => by have := (World.ownsRow.lt hO8.out _ e).2; omega
        clear hO hA hR hr hwr hr8 ha8
        rw [show actV (a0, a1, a2, a3, a4) = .agg #[.int .i64 a0, .int .i64 a1, .int .i64 a2, .int .i64 a3, .int .i64 a4] from rfl]
        obtain ⟨W9, hW9⟩ : ∃ W9, W9 = (w8.alloc (.cells #[.int .i64 a0, .int .i64 a1, .int .i64 a2, .int .i64 a3, .int .i64 a4] 119)).alloc (.cells #[.int .i64 a0, .int .i64 a1, .int .i64 a2, .int .i64 a3, .int .i64 a4] 119) := ⟨_, rfl⟩
        have s9 : W9.heap.size = w8.heap.size + 1 + 1 := by rw [hW9]; simp
        have hB9 : Below w8.heap.size w8 W9 := by rw [hW9]; exact ((Below.refl _ _).alloc (Nat.le_refl _) _).alloc (by simp) _
        have hc9 : W9.cell? ⟨w8.heap.size, 0, none⟩ = some (.int .i64 a0) ∧ W9.cell? ⟨w8.heap.size, 1, none⟩ = some (.int .i64 a1) ∧ W9.cell? ⟨w8.heap.size, 2, none⟩ = some (.int .i64 a2) := by rw [hW9]; simp
        obtain ⟨gg, cap, w10, hApp, hO10, hB10, hG10⟩ := app_acts w.heap.size (.slice a xs.length c) xs [(a0, a1, a2, a3, a4)] W9 (by rw [hW9]; exact World.ownsRow.alloc (World.ownsRow.alloc hO8.out _) _) (by omega) ⟨w8.heap.size + 1, 0, none⟩ 1 1 rfl (by omega) (by omega) (fun j u hu => by rw [hW9]; have := cells_new (w8.alloc (.cells #[.int .i64 a0, .int .i64 a1, .int .i64 a2, .int .i64 a3, .int .i64 a4] 119)) #[.int .i64 a0, .int .i64 a1, .int .i64 a2, .int .i64 a3, .int .i64 a4] 119 j u hu; rwa [World.size_alloc] at this)
        obtain ⟨c0, c1, c2⟩ := hc9
        have n10 : some w8.heap.size ≠ (Value.slice a xs.length c).ownBlock := fun e => hown e.symm
        have c0 := (hG10.cell_far ⟨w8.heap.size, 0, none⟩ (by show w8.heap.size < _; omega) n10).trans c0
        have c1 := (hG10.cell_far ⟨w8.heap.size, 1, none⟩ (by show w8.heap.size < _; omega) n10).trans c1
        have c2 := (hG10.cell_far ⟨w8.heap.size, 2, none⟩ (by show w8.heap.size < _; omega) n10).trans c2
        have hS10 : Hid (∀ x, x ∈ xs ++ [(a0, a1, a2, a3, a4)] → SmA (1 + (g : Int)) x) := fun x hx => by
          rw [List.mem_append] at hx
          rcases hx with hx | hx
          · exact hS.out x hx
          · simp only [List.mem_cons, List.not_mem_nil, or_false] at hx
            rw [hx]; exact hs8.out
        have hO10 := hidA hO10
        have hA10 := hidA (hA8.out.then_belowA (hB9.mono (by have := hA8.out.size; omega)) |>.then_belowA hB10)
        have hR10 := hidA ((hR8.out.below hB9 (by have := hA8.out.size; omega)).below hB10 hlt)
        have s10 := hB10.size
        clear hO8 hB9 hB10 hA8 hR8 hS hG10 hown n10
        obtain ⟨ys, hys⟩ : ∃ ys, ys = xs ++ [(a0, a1, a2, a3, a4)] := ⟨_, rfl⟩
        have hyl : ys.length = xs.length + 1 := by rw [hys]; simp
        rw [← hys] at hO10 hS10
        rw [← hyl] at hO10 hApp
        replace hyl := hidA hyl
        clear hys
        have hnext : ∀ (wz : World) (zs : List A5) (vz : Value), zs.length ≤ 60 → (∃ a c, vz = .slice a zs.length c) → Hid (OwnA wz w.heap.size vz zs) → Hid (∀ x, x ∈ zs → SmA (1 + (g : Int)) x) → Hid (Rd wz rb k8) → Hid (Adv rb w wz) → ∃ (m' kr : Nat) (xs : List A5), m' ≤ 51 ∧ Value.int .i64 ((m : Int) - 1) = .int .i64 m' ∧ xs.length ≤ 60 ∧ (∃ a c, vz = .slice a xs.length c) ∧ Hid (OwnA wz w.heap.size vz xs) ∧ Hid (∀ a, a ∈ xs → SmA (1 + (g : Int)) a) ∧ Hid (Rd wz rb kr) ∧ kr + 10 * m' ≤ k0 + 540 ∧ Hid (Adv rb w wz) := fun wz zs vz h1 h2 h3 h4 h5 h6 => ⟨m - 1, k8, zs, by omega, by congr 1; omega, h1, h2, h3, h4, h5, by omega, h6⟩
        have em : IntKind.i64.wrap ((m : Int) - 1) = (m : Int) - 1 := wrap_small _ (by omega) (by omega)
        go_wp2_with (fail)
        rw [← hW9, hApp, nextAp_ok]
        clear hW9 hApp
        cases tb
        · go_wp2
          go_roundw
          case rel => exact hnext _ ys _ (by have := hyl.out; omega) ⟨_, _, rfl⟩ hO10 hS10 hR10 hA10
          case measure => simp [intOf]; omega
        · by_cases h2 : a0 = 2
          · by_cases h3 : a2 < 2
            · obtain ⟨W11, hW11⟩ : ∃ W11, W11 = w10.alloc (.cells #[.int .i64 5, .int .i64 a1, .int .i64 0, .int .i64 0, .int .i64 0] 119) := ⟨_, rfl⟩
              have s11 : W11.heap.size = w10.heap.size + 1 := by rw [hW11]; simp
              have hB11 : Below w10.heap.size w10 W11 := by rw [hW11]; exact (Below.refl _ _).alloc (Nat.le_refl _) _
              obtain ⟨g2, cap2, w12, hApp, hO12, hB12, _⟩ := app_acts w.heap.size (.slice (some ⟨gg, 0, none⟩) ys.length cap) ys [(5, a1, 0, 0, 0)] W11 (by rw [hW11]; exact World.ownsRow.alloc hO10.out _) (by omega) ⟨w10.heap.size, 0, none⟩ 1 1 rfl (by omega) (by have := hyl.out; omega) (fun j u hu => by rw [hW11]; exact cells_new w10 _ _ j u hu)
              have hS12 : Hid (∀ x, x ∈ ys ++ [(5, a1, 0, 0, 0)] → SmA (1 + (g : Int)) x) := fun x hx => by
                rw [List.mem_append] at hx
                rcases hx with hx | hx
                · exact hS10.out x hx
                · simp only [List.mem_cons, List.not_mem_nil, or_false] at hx
                  have h5 := hs8.out.2.1
                  rw [hx]
                  exact ⟨⟨(by dsimp only; omega), (by dsimp only; omega)⟩, h5, ⟨(by dsimp only; omega), (by dsimp only; omega)⟩, ⟨(by dsimp only; omega), (by dsimp only; omega)⟩, ⟨(by dsimp only; omega), (by dsimp only; omega)⟩⟩
              have hO12 := hidA hO12
              have hA12 := hidA (hA10.out.then_belowA (hB11.mono (by have := hA10.out.size; omega)) |>.then_belowA hB12)
              have hR12 := hidA ((hR10.out.below hB11 (by have := hA10.out.size; omega)).below hB12 hlt)
              clear hO10 hA10 hR10 hB11 hB12 hS10
              go_wp2_with (fail)
              rw [← hW11, hApp, nextAp_ok]
              clear hW11 hApp
              go_wp2
              go_roundw
              case rel => exact hnext _ (ys ++ [(5, a1, 0, 0, 0)]) _ (by rw [List.length_append]; show ys.length + 1 ≤ 60; have := hyl.out; omega) ⟨some ⟨g2, 0, none⟩, cap2, by rw [List.length_append]; rfl⟩ hO12 hS12 hR12 hA12
              case measure => simp [intOf]; omega
            · go_wp2
              go_roundw
              case rel => exact hnext _ ys _ (by have := hyl.out; omega) ⟨_, _, rfl⟩ hO10 hS10 hR10 hA10
              case measure => simp [intOf]; omega
          · go_wp2
            go_roundw
            case rel => exact hnext _ ys _ (by have := hyl.out; omega) ⟨_, _, rfl⟩ hO10 hS10 hR10 hA10
            case measure => simp [intOf]; omega
      · go_wp2
        refine bodyPost_ret (v := .tuple #[.int .i64 (1 + (g : Int)), .slice a xs.length c]) (by simp [results, Try.results74, go_sem]) rfl ?_
        exact ⟨_, _, xs, rfl, by omega, by omega, hO.out, hl, hS.out, ⟨kr, hR.out, by omega⟩, hA.out⟩
end Go.Proofs.Ytjegndgdpmlbaaa
