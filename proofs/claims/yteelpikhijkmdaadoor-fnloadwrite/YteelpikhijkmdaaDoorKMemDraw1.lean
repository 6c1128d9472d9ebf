/-
  What the drawing of memory that may be spoilt gives, whatever the bytes are.
-/
import Derived.Test.YteelpikhijkmdaaDoorKMemDraw0
namespace Go.Proofs.YteelpikhijkmdaaDoor
open Go.RowKit

theorem two_new (w : World) (x y : Int) (t : TypeId) : ∀ j, j < 2 → (∃ z, (w.alloc (.cells #[.int .i64 x, .int .i64 y] t)).cell? ⟨w.heap.size, j, none⟩ = some (.int .i64 z)) ∧ (w.alloc (.cells #[.int .i64 x, .int .i64 y] t)).frozen? ⟨w.heap.size, j, none⟩ = false := by
  intro j hj
  match j, hj with
  | 0, _ => exact ⟨⟨x, by simp⟩, by simp⟩
  | 1, _ => exact ⟨⟨y, by simp⟩, by simp⟩

theorem two_get (x y : Int) (j : Nat) (h : j < 2) : ∃ z, ([Value.int .i64 x, .int .i64 y] : List Value)[j]? = some (.int .i64 z) := by
  match j, h with
  | 0, _ => exact ⟨x, rfl⟩
  | 1, _ => exact ⟨y, rfl⟩
/-- Two words in a block. -/
def Two (w : World) (b : Nat) : Prop := b < w.heap.size ∧ ∀ j, j < 2 → ∃ z, w.cell? ⟨b, j, none⟩ = some (.int .i64 z)
theorem Two.adv {rb b : Nat} {w w' : World} (h : Two w b) (ha : Adv rb w w') (hn : rb < b) : Two w' b :=
  ⟨Nat.lt_of_lt_of_le h.1 ha.size, fun j hj => (h.2 j hj).imp fun _ e => (ha.cell (p := ⟨b, j, none⟩) h.1 (by simp; omega)).trans e⟩
theorem two_drew (w : World) (x y : Int) (t : TypeId) : Two (w.drew.alloc (.cells #[.int .i64 x, .int .i64 y] t)) w.heap.size := ⟨by simp, fun j hj => (two_new w.drew x y t j hj).1⟩
theorem two_made (w : World) (x y : Int) (t : TypeId) : Two (w.alloc (.cells #[.int .i64 x, .int .i64 y] t)) w.heap.size := ⟨by simp, fun j hj => (two_new w x y t j hj).1⟩
theorem adv_same1 {rb lo hi : Nat} {w w' : World} {o : Obj} (h : Adv rb (w.alloc o) w') (hr : rb < lo) (hh : hi ≤ w.heap.size) : SameIn lo hi w w' := fun k h1 h2 =>
  (h.block k (by simp; omega) (by omega)).trans (((Below.refl w.heap.size w).alloc (Nat.le_refl _) o).block k (by omega))

set_option maxHeartbeats 4000000 in
theorem drawOff (rb k0 : Nat) (w : World) (hr0 : Rd w rb k0) (hk0 : k0 ≤ 600000) :
    Calls Tryd.prog 41 #[.pointer (some ⟨rb, 0, none⟩)] w fun e w' => ∃ T o n c : Nat, e = .returned (.slice (some ⟨T, o, none⟩) n c) ∧ (n = 5 ∨ n = 6) ∧ n ≤ c ∧ MemShape w' w.heap.size w'.heap.size 1 T o n ∧ RdTo w' rb (k0 + 300) ∧ Adv rb w w' := by
  have hlt := hr0.lt
  go_enter Tryd.func41, Tryd.ntmps41
  go_wp2_with (fail)
  refine (drawMem rb k0 _ hr0 (by omega)).mono ?_
  rintro e w1 ⟨T, c, rfl, hc, hS1, ⟨k1, hr1, hk1⟩, hA1⟩
  have hc1 : ¬ c = 1 := by omega
  go_wp2_with (fail)
  refine (pickA rb k1 20 _ hr1 (by omega) (by omega) (by omega)).mono ?_
  rintro e w2 ⟨v0, rfl, hv0, hr2, ha2⟩
  have hS2 : Hid (MemShape w2 w.heap.size w1.heap.size 4 T 0 6) := hS1.same (adv_same ha2 (by omega) (Nat.le_refl _))
  have hA2 : Hid (Adv rb w w2) := hA1.trans ha2
  have hs2 := ha2.size
  have hR2 : Hid (Rd w2 rb (k1 + 1)) := hr2
  have hT := hS1.1
  clear hS1 ha2 hA1 hr1 hr2
  have h0 : v0 = 0 ∨ v0 = 1 ∨ v0 = 2 ∨ 2 < v0 := by omega
  rcases h0 with rfl | rfl | rfl | h3
  · go_wp2
    go_ret
    exact ⟨T, 1, 5, c - 1, rfl, Or.inl rfl, by omega, (hS2.out.drop.weak (by omega)).wide (Nat.le_refl _) hs2, ⟨_, hR2.out, by omega⟩, hA2.out⟩
  · go_wp2_with (fail)
    refine (pickA rb (k1 + 1) 6 _ hR2.out (by omega) (by omega) (by omega)).mono ?_
    rintro e w3 ⟨v1, rfl, hv1, hr3, ha3⟩
    have hS3 := hS2.out.same (adv_same ha3 hlt hs2)
    obtain ⟨p, l, c1, g1, g2, g3, g4, g5, q, f, g8⟩ := hS3.2.2 v1 (by omega)
    rw [Nat.zero_add] at q f
    have HS3 : Hid (MemShape w3 w.heap.size w1.heap.size 4 T 0 6) := hS3
    have HA3 : Hid (Adv rb w w3) := hA2.out.trans ha3
    have HR3 : Hid (Rd w3 rb (k1 + 1 + 1)) := hr3
    have hs3 := Nat.le_trans hs2 ha3.size
    have hT2 : T < w3.heap.size := by have := hS3.2.1; omega
    clear hS3 ha3 hr3 g8
    go_wp2
    go_ret
    have S4 : MemShape (w3.alloc (.cells #[.int .i64 1, .int .i64 2] 3)) w.heap.size (w3.heap.size + 1) 1 T 0 6 :=
      ((HS3.out.same (below_sameIn ((Below.refl _ _).alloc (Nat.le_refl _) _) hs3)).weak (by omega)).wide (Nat.le_refl _) (by omega)
    have S5 := S4.page (i := v1) (p := w3.heap.size) (l := 2) (c := 2) (by omega) (by omega) (by omega) (by have := HA3.out.size; omega) (by omega) (by omega) (two_new w3 1 2 3)
    have hW : (w3.alloc (.cells #[.int .i64 1, .int .i64 2] 3)).setCell ⟨T, 0 + v1, none⟩ (.slice (some ⟨w3.heap.size, 0, none⟩) 2 2) = (w3.setCell ⟨T, v1, none⟩ (.slice (some ⟨w3.heap.size, 0, none⟩) 2 2)).alloc (.cells #[.int .i64 1, .int .i64 2] 3) := by
      rw [Nat.zero_add]
      go_simp
    rw [hW] at S5
    refine ⟨T, 0, 6, c, rfl, Or.inr rfl, hc, ?_, ⟨k1 + 1 + 1, ?_, by omega⟩, ?_⟩
    · simpa using S5
    · exact (HR3.out.other T v1 (by omega) _).alloc _
    · exact (HA3.out.setCell (p := ⟨T, v1, none⟩) (Or.inr hT) _).alloc _
  · have hS := hS2.out.drew
    have hr := hR2.out.drew
    have hA := hA2.out.drew
    have hs : w1.heap.size ≤ w2.drew.heap.size := hs2
    have hrb0 : rb < w2.heap.size := Nat.lt_of_lt_of_le hlt hA2.out.size
    clear hS2 hR2 hA2
    go_wp2_with (fail)
    go_region_with (first | (go_at_call 55; have q0 := q; clear q0; refine (pickA rb _ _ _ (by first | exact hr | exact hr.alloc _) (by omega) (by omega) (by omega)).mono ?_; rintro e w4 ⟨v2, rfl, hv2, hr, ha⟩; have s4 : SameIn w.heap.size w1.heap.size w3 w4 := (by first | exact adv_same ha hlt hs | exact adv_same1 ha hlt hs); have hS := hS.same s4; have q := (s4.cell hT hS.2.1).trans q; have hA : Adv rb w w4 := (by first | exact hA.trans ha | exact (hA.alloc _).trans ha); (first | (have gY := Two.adv gX ha hrb0; have gZ := gY.2 v2 (by omega); clear gY) | (have gY := Two.adv (two_made _ _ _ _) ha hrb; have gZ := gY.2 v2 (by omega); clear gY) | (have gZ := two_get (-1) 64 v2 (by omega))); obtain ⟨y, hy⟩ := gZ; have hs : w1.heap.size ≤ w4.heap.size := Nat.le_trans hs (Nat.le_trans (by first | exact Nat.le_refl _ | simp) ha.size); obtain ⟨⟨u, d⟩, f⟩ := g8 0 (by omega); have d := (s4.cell g3 g4).trans d; have f := (s4.frozen g3 g4).trans f; have hpw : p < w4.heap.size := (by omega); have hTw : T < w4.heap.size := (by have := hS.2.1; omega)) | (go_at_call 55; refine (pickA rb _ _ _ (by first | exact hr | exact hr.alloc _) (by omega) (by omega) (by omega)).mono ?_; rintro e w3 ⟨v1, rfl, hv1, hr, ha⟩; have s3 : SameIn w.heap.size w1.heap.size w2.drew w3 := (by first | exact adv_same ha hlt hs | exact adv_same1 ha hlt hs); have hS := hS.same s3; obtain ⟨p, l, c1, g1, g2, g3, g4, g5, q, _, g8⟩ := hS.2.2 v1 (by omega); obtain rfl : l = 4 := (by omega); rw [Nat.zero_add] at q; have hA : Adv rb w w3 := (by first | exact hA.trans ha | exact (hA.alloc _).trans ha); (first | (have gX := Two.adv (two_drew _ _ _ _) ha hrb0) | skip); have hs : w1.heap.size ≤ w3.heap.size := Nat.le_trans hs (Nat.le_trans (by first | exact Nat.le_refl _ | simp) ha.size); have hrb : rb < w3.heap.size := (by omega); have hTw : T < w3.heap.size := (by have := hS.2.1; omega); clear ha s3))
    all_goals
      have HS : Hid (MemShape (w4.setCell ⟨p, 0, none⟩ (.int .i64 y)) w.heap.size w1.heap.size 1 T 0 6) := (hS.word g5 0 y).weak (by omega)
      have HR : Hid (Rd (w4.setCell ⟨p, 0, none⟩ (.int .i64 y)) rb (k1 + 1 + 1 + 1)) := hr.other p 0 (by omega) _
      have HA : Hid (Adv rb w (w4.setCell ⟨p, 0, none⟩ (.int .i64 y))) := hA.setCell (p := ⟨p, 0, none⟩) (Or.inr g3) _
      have hsz : w1.heap.size ≤ (w4.setCell ⟨p, 0, none⟩ (.int .i64 y)).heap.size := by simpa using hs
      clear hS hr hA g8 s4 ha
      go_wp2
      go_ret
      first
        | exact ⟨T, 0, 6, c, rfl, Or.inr rfl, hc, HS.out.wide (Nat.le_refl _) hsz, ⟨_, HR.out, by omega⟩, HA.out⟩
        | exact ⟨T, 0, 6, c, rfl, Or.inr rfl, hc, (HS.out.same (below_sameIn ((Below.refl _ _).alloc (Nat.le_refl _) _) hsz)).wide (Nat.le_refl _) (by simpa using Nat.le_succ_of_le hs), ⟨_, HR.out.alloc _, by omega⟩, HA.out.alloc _⟩
  · have e0 : ((v0 : Int) == 0) = false := by simp; omega
    have e1 : ((v0 : Int) == 1) = false := by simp; omega
    have e2 : ((v0 : Int) == 2) = false := by simp; omega
    go_wp2_with (fail)
    go_ret
    exact ⟨T, 0, 6, c, rfl, Or.inr rfl, hc, (hS2.out.weak (by omega)).wide (Nat.le_refl _) hs2, ⟨_, hR2.out, by omega⟩, hA2.out⟩
end Go.Proofs.YteelpikhijkmdaaDoor
