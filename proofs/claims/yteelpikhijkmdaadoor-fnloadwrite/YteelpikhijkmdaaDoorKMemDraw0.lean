/-
  What the drawing of memory gives, whatever the bytes are: some pages of some words in new memory.
-/
import Derived.Test.YteelpikhijkmdaaDoorKC
import Derived.Test.YteelpikhijkmdaaDoorKPick0
namespace Go.Proofs.YteelpikhijkmdaaDoor
open Go.RowKit

theorem adv_same {rb lo hi : Nat} {w w' : World} (h : Adv rb w w') (hr : rb < lo) (hh : hi ≤ w.heap.size) : SameIn lo hi w w' := fun k h1 h2 => h.block k (by omega) (by omega)

/-- Pages of words that may be written, whatever they are. -/
def MemShape (w : World) (lo hi m T o n : Nat) : Prop :=
  lo ≤ T ∧ T < hi ∧ ∀ i, i < n → ∃ p l c, m ≤ l ∧ l ≤ 4 ∧ lo ≤ p ∧ p < hi ∧ p ≠ T ∧ w.cell? ⟨T, o + i, none⟩ = some (.slice (some ⟨p, 0, none⟩) l c) ∧ w.frozen? ⟨T, o + i, none⟩ = false ∧
    ∀ j, j < l → (∃ z, w.cell? ⟨p, j, none⟩ = some (.int .i64 z)) ∧ w.frozen? ⟨p, j, none⟩ = false
theorem MemShape.same {w w' : World} {lo hi m T o n : Nat} (h : MemShape w lo hi m T o n) (s : SameIn lo hi w w') : MemShape w' lo hi m T o n := by
  obtain ⟨h1, h2, h⟩ := h
  refine ⟨h1, h2, fun i hi => ?_⟩
  obtain ⟨p, l, c, g1, g2, g3, g4, g5, g6, g7, g8⟩ := h i hi
  exact ⟨p, l, c, g1, g2, g3, g4, g5, (s.cell h1 h2).trans g6, (s.frozen h1 h2).trans g7, fun j hj => ⟨(g8 j hj).1.imp fun _ e => (s.cell g3 g4).trans e, (s.frozen g3 g4).trans (g8 j hj).2⟩⟩
theorem MemShape.wide {w : World} {lo hi lo' hi' m T o n : Nat} (h : MemShape w lo hi m T o n) (h1 : lo' ≤ lo) (h2 : hi ≤ hi') : MemShape w lo' hi' m T o n := by
  obtain ⟨k1, k2, h⟩ := h
  refine ⟨by omega, by omega, fun i hi => ?_⟩
  obtain ⟨p, l, c, g1, g2, g3, g4, g5⟩ := h i hi
  exact ⟨p, l, c, g1, g2, by omega, by omega, g5⟩
theorem MemShape.drop {w : World} {lo hi m T o n : Nat} (h : MemShape w lo hi m T o (n + 1)) : MemShape w lo hi m T (o + 1) n := by
  obtain ⟨h1, h2, h⟩ := h
  refine ⟨h1, h2, fun i hi => ?_⟩
  have := h (i + 1) (by omega)
  rwa [show o + (i + 1) = o + 1 + i by omega] at this
/-- A word is written. -/
theorem MemShape.word {w : World} {lo hi m T o n : Nat} (h : MemShape w lo hi m T o n) {p : Nat} (hp : p ≠ T) (j : Nat) (z : Int) : MemShape (w.setCell ⟨p, j, none⟩ (.int .i64 z)) lo hi m T o n := by
  obtain ⟨h1, h2, h⟩ := h
  refine ⟨h1, h2, fun i hi => ?_⟩
  obtain ⟨q, l, c, g1, g2, g3, g4, g5, g6, g7, g8⟩ := h i hi
  refine ⟨q, l, c, g1, g2, g3, g4, g5, ?_, ?_, fun x hx => ⟨?_, ?_⟩⟩
  · rw [cell_off (fun e => hp e.symm)]; exact g6
  · rw [frozen_put]; exact g7
  · obtain ⟨y, hy⟩ := (g8 x hx).1
    by_cases hqp : q = p
    · subst hqp
      rw [cell_put hy]
      by_cases hxj : x = j
      · exact ⟨z, by rw [if_pos hxj]⟩
      · exact ⟨y, by rw [if_neg hxj]⟩
    · exact ⟨y, by rw [cell_off hqp]; exact hy⟩
  · rw [frozen_put]; exact (g8 x hx).2
/-- A page is put in the place of another. -/
theorem MemShape.page {w : World} {lo hi m T o n i : Nat} (h : MemShape w lo hi m T o n) (hi' : i < n) {p l c : Nat} (h1 : m ≤ l) (h4 : l ≤ 4) (hp1 : lo ≤ p) (hp2 : p < hi) (hpT : p ≠ T)
    (hc : ∀ j, j < l → (∃ z, w.cell? ⟨p, j, none⟩ = some (.int .i64 z)) ∧ w.frozen? ⟨p, j, none⟩ = false) : MemShape (w.setCell ⟨T, o + i, none⟩ (.slice (some ⟨p, 0, none⟩) l c)) lo hi m T o n := by
  obtain ⟨k1, k2, h⟩ := h
  refine ⟨k1, k2, fun x hx => ?_⟩
  obtain ⟨q, l', c', g1, g2, g3, g4, g5, g6, g7, g8⟩ := h x hx
  by_cases hxi : x = i
  · subst hxi
    refine ⟨p, l, c, h1, h4, hp1, hp2, hpT, ?_, ?_, fun j hj => ⟨?_, ?_⟩⟩
    · rw [cell_put g6, if_pos rfl]
    · rw [frozen_put]; exact g7
    · rw [cell_off hpT]; exact (hc j hj).1
    · rw [frozen_put]; exact (hc j hj).2
  · refine ⟨q, l', c', g1, g2, g3, g4, g5, ?_, ?_, fun j hj => ⟨?_, ?_⟩⟩
    · rw [cell_put g6, if_neg (by omega)]
    · rw [frozen_put]; exact g7
    · rw [cell_off g5]; exact (g8 j hj).1
    · rw [frozen_put]; exact (g8 j hj).2
theorem OwnMem.shape {w : World} {lo hi n : Nat} {a : Option Addr} {ms : List (List Int)} (h : OwnMem w lo hi a n ms) (hn : n ≠ 0) (h4 : ∀ i, i < n → (ms.getD i []).length = 4) : ∃ T, a = some ⟨T, 0, none⟩ ∧ MemShape w lo hi 4 T 0 n := by
  obtain ⟨hl, hd⟩ := h
  rcases hd with h0 | ⟨T, rfl, h1, h2, bs, _, h⟩
  · exact absurd h0 hn
  · refine ⟨T, rfl, h1, h2, fun i hi => ?_⟩
    obtain ⟨g1, g2, g3, ⟨c, g4⟩, g5, g6, g7⟩ := h i hi
    rw [h4 i hi] at g4 g7
    refine ⟨bs i, 4, c, Nat.le_refl _, Nat.le_refl _, g1, g2, g3, by simpa using g4, by simpa using g5, fun j hj => ⟨⟨(ms.getD i []).getD j 0, ?_⟩, g7 j hj⟩⟩
    have := g6 j (by rw [h4 i hi]; exact hj)
    rwa [Nat.zero_add] at this
theorem MemShape.mem {w : World} {lo hi m T o n : Nat} (h : MemShape w lo hi m T o n) : ∃ ms, IsMem w lo hi (some ⟨T, o, none⟩) n ms ∧ ∀ i, i < n → (ms.getD i []).length ≤ 4 := by
  obtain ⟨h1, h2, h⟩ := h
  have each : ∀ i, i < n → ∃ r : Nat × Nat × Nat × List Int, w.cell? ⟨T, o + i, none⟩ = some (.slice (some ⟨r.1, 0, none⟩) r.2.1 r.2.2.1) ∧ r.2.2.2.length = r.2.1 ∧ r.2.1 ≤ 4 ∧ lo ≤ r.1 ∧ r.1 < hi ∧ Ints w r.1 0 r.2.2.2 := by
    intro i hi
    obtain ⟨p, l, c, g1, g2, g3, g4, g5, g6, g7, g8⟩ := h i hi
    obtain ⟨f, hf⟩ := Go.Deep.choose_lt (α := Int) (fun j hj => (g8 j hj).1)
    refine ⟨(p, l, c, (List.range l).map f), g6, by simp, g2, g3, g4, fun j hj => ?_⟩
    have hj' : j < l := by simpa using hj
    rw [Nat.zero_add, hf j hj']
    simp [List.getD_eq_getElem?_getD, hj']
  obtain ⟨f, hf⟩ := Go.Deep.choose_lt (α := Nat × Nat × Nat × List Int) each
  have hg : ∀ i, i < n → ((List.range n).map fun i => (f i).2.2.2).getD i [] = (f i).2.2.2 := fun i hi => by simp [List.getD_eq_getElem?_getD, hi]
  refine ⟨(List.range n).map fun i => (f i).2.2.2, ⟨by simp, Or.inr ⟨T, o, rfl, h1, h2, fun i hi => ?_⟩⟩, fun i hi => ?_⟩
  · obtain ⟨k1, k2, k3, k4, k5, k6⟩ := hf i hi
    rw [hg i hi]
    exact ⟨_, _, _, k1, k2, Or.inr ⟨_, 0, rfl, k4, k5, k6⟩⟩
  · rw [hg i hi, (hf i hi).2.1]
    exact (hf i hi).2.2.1

/-- A reader that has not come too far. -/
def RdTo (w : World) (rb K : Nat) : Prop := ∃ k : Nat, Rd w rb k ∧ k ≤ K

theorem MemShape.drew {w : World} {lo hi m T o n : Nat} (h : MemShape w lo hi m T o n) : MemShape w.drew lo hi m T o n := h.same (fun _ _ _ => rfl)
theorem MemShape.weak {w : World} {lo hi m m' T o n : Nat} (h : MemShape w lo hi m T o n) (hm : m' ≤ m) : MemShape w lo hi m' T o n := by
  obtain ⟨k1, k2, h⟩ := h
  refine ⟨k1, k2, fun i hi => ?_⟩
  obtain ⟨p, l, c, g1, g⟩ := h i hi
  exact ⟨p, l, c, by omega, g⟩

set_option maxHeartbeats 6000000 in
theorem drawMem (rb k0 : Nat) (w : World) (hr0 : Rd w rb k0) (hk0 : k0 ≤ 700000) :
    Calls Tryd.prog 67 #[.pointer (some ⟨rb, 0, none⟩)] w fun e w' => ∃ T c : Nat, e = .returned (.slice (some ⟨T, 0, none⟩) 6 c) ∧ 6 ≤ c ∧ MemShape w' w.heap.size w'.heap.size 4 T 0 6 ∧ RdTo w' rb (k0 + 200) ∧ Adv rb w w' := by
  have hlt := hr0.lt
  go_enter Tryd.func67, Tryd.ntmps67
  go_wp2_with (fail)
  refine (specMemNew_yes 6 _ (by omega)).mono ?_
  rintro e w1 ⟨a, c, rfl, hM, hc, B1⟩
  obtain ⟨T, rfl, hS⟩ := hM.shape (by omega) (fun i hi => by rw [zeroM_get hi]; rfl)
  have hr1 := hr0.below B1 hlt
  have hA1 : Adv rb w w1 := Adv.of_below B1 (Nat.le_refl _)
  clear hM B1
  go_wp2_with (fail)
  refine (pickA rb k0 26 _ hr1 (by omega) (by omega) (by omega)).mono ?_
  rintro e w2 ⟨n0, rfl, hn0, hr2, ha2⟩
  have hS2 := hS.same (adv_same ha2 (by omega) (Nat.le_refl _))
  have hA2 := hA1.trans ha2
  have hs2 := ha2.size
  obtain ⟨hi, hhi⟩ : ∃ hi, hi = w1.heap.size := ⟨_, rfl⟩
  rw [← hhi] at hS2 hs2
  have hT := hS2.1
  clear hS ha2 hhi hA1 hr1
  go_wp2
  go_loopw [4] (fun i wr => ∃ n kk : Nat, i = .int .i64 n ∧ n ≤ 25 ∧ Hid (MemShape wr w.heap.size hi 4 T 0 6) ∧ Hid (Rd wr rb kk) ∧ kk + 4 * n ≤ k0 + 101 ∧ hi ≤ wr.heap.size ∧ Hid (Adv rb w wr)) (fun i _ => (intOf i).toNat)
  case atStart => exact ⟨n0, k0 + 1, rfl, by omega, hS2, hr2, by omega, hs2, hA2⟩
  case round =>
    clear hS2 hr2 hs2 hA2 hn0
    obtain ⟨n, kk, rfl, hn, hSH, hrH, hkk, hs, hAH⟩ := hrel
    by_cases hn0 : 0 < n
    · have hni : (0 : Int) < (n : Int) := by omega
      have hS := hSH.out.drew
      have hr := hrH.out.drew
      have hA := hAH.out.drew
      have hs : hi ≤ wr.drew.heap.size := hs
      clear hSH hrH hAH
      go_wp2_with (fail)
      go_region_with (first | (go_at_call 55; have q0 := q; clear q0; refine (pickA rb _ _ _ hr (by omega) (by omega) (by omega)).mono ?_; rintro e w4 ⟨v2, rfl, hv2, hr, ha⟩; have s4 := adv_same ha hlt hs; have hS := hS.same s4; have q := (s4.cell hT hS.2.1).trans q; have hA := hA.trans ha; have hs : hi ≤ w4.heap.size := Nat.le_trans hs ha.size; clear ha) | (go_at_call 55; refine (pickA rb _ _ _ hr (by omega) (by omega) (by omega)).mono ?_; rintro e w3 ⟨v1, rfl, hv1, hr, ha⟩; have s3 := adv_same ha hlt hs; have hS := hS.same s3; obtain ⟨p, l, c1, g1, g2, g3, g4, g5, q, _, g8⟩ := hS.2.2 v1 (by omega); obtain rfl : l = 4 := (by omega); rw [Nat.zero_add] at q; have hA := hA.trans ha; have hs : hi ≤ w3.heap.size := Nat.le_trans hs ha.size; clear ha s3) | (go_at_call 56; refine (drawWord rb _ _ hr (by omega)).mono ?_; rintro e w5 ⟨z, k5, rfl, _, hr, hk5, ha⟩; have s5 := adv_same ha hlt hs; have hS := hS.same s5; have q := (s5.cell hT hS.2.1).trans q; have hA := hA.trans ha; have hs : hi ≤ w5.heap.size := Nat.le_trans hs ha.size; obtain ⟨⟨y, d⟩, f⟩ := g8 v2 (by omega); have d := (s5.cell g3 g4).trans ((s4.cell g3 g4).trans d); have f := (s5.frozen g3 g4).trans ((s4.frozen g3 g4).trans f); clear ha))
      all_goals
        have HS : Hid (MemShape (w5.setCell ⟨p, v2, none⟩ (.int .i64 z)) w.heap.size hi 4 T 0 6) := hS.word g5 v2 z
        have HR : Hid (Rd (w5.setCell ⟨p, v2, none⟩ (.int .i64 z)) rb k5) := hr.other p v2 (by omega) _
        have HA : Hid (Adv rb w (w5.setCell ⟨p, v2, none⟩ (.int .i64 z))) := hA.setCell (p := ⟨p, v2, none⟩) (Or.inr g3) _
        clear hS hr hA g8 s4 s5
        go_wp2
        go_roundw
        case rel => exact ⟨n - 1, k5, by go_num, by omega, HS, HR, by omega, by simpa using hs, HA⟩
        case measure => simp [intOf]; omega
    · have hni : ¬ (0 : Int) < (n : Int) := by omega
      go_wp2_with (fail)
      refine (pickA rb kk 7 _ hrH.out (by omega) (by omega) (by omega)).mono ?_
      rintro e w6 ⟨n1, rfl, hn1, hr6, ha6⟩
      have hS6 := hSH.out.same (adv_same ha6 hlt hs)
      have hA6 := hAH.out.trans ha6
      have hs6 := Nat.le_trans hs ha6.size
      clear hSH hrH hAH ha6
      go_wp2
      go_loopw [5, 6] (fun i _ wr => ∃ n kk : Nat, i = .int .i64 n ∧ n ≤ 6 ∧ Hid (MemShape wr w.heap.size hi 4 T 0 6) ∧ Hid (Rd wr rb kk) ∧ kk + 2 * n ≤ k0 + 130 ∧ hi ≤ wr.heap.size ∧ Hid (Adv rb w wr)) (fun i _ _ => (intOf i).toNat)
      case atStart => exact ⟨n1, kk + 1, rfl, by omega, hS6, hr6, by omega, hs6, hA6⟩
      case round =>
        clear hS6 hr6 hs6 hA6 hn1
        obtain ⟨m, kj, rfl, hm, hSH, hrH, hkj, hs, hAH⟩ := hrel
        by_cases hm0 : 0 < m
        · have hmi : (0 : Int) < (m : Int) := by omega
          go_wp2_with (fail)
          refine (pickA rb kj 6 _ hrH.out (by omega) (by omega) (by omega)).mono ?_
          rintro e w7 ⟨v, rfl, hv, hr, ha⟩
          have s7 := adv_same ha hlt hs
          have hS := (hSH.out.same s7).drew
          have hr := hr.drew
          have hA := (hAH.out.trans ha).drew
          have hs : hi ≤ w7.drew.heap.size := Nat.le_trans hs ha.size
          have hv6 : v = 0 ∨ v = 1 ∨ v = 2 ∨ v = 3 ∨ v = 4 ∨ v = 5 := by omega
          clear hSH hrH hAH ha s7
          rcases hv6 with rfl | rfl | rfl | rfl | rfl | rfl
          · obtain ⟨p, l, c1, g1, g2, g3, g4, g5, q, _, g8⟩ := hS.2.2 0 (by omega)
            obtain rfl : l = 4 := by omega
            rw [Nat.zero_add] at q
            go_wp2_with (fail)
            go_region_with (go_at_call 55; refine (pickA rb _ _ _ hr (by omega) (by omega) (by omega)).mono ?_; rintro e w8 ⟨z, rfl, hz, hr, ha⟩; have s8 := adv_same ha hlt hs; have hS := hS.same s8; have q := (s8.cell hT hS.2.1).trans q; have hA := hA.trans ha; have hs : hi ≤ w8.heap.size := Nat.le_trans hs ha.size; obtain ⟨⟨y, d⟩, f⟩ := g8 0 (by omega); have d := (s8.cell g3 g4).trans d; have f := (s8.frozen g3 g4).trans f; clear ha)
            all_goals
              have HS : Hid (MemShape (w8.setCell ⟨p, 0, none⟩ (.int .i64 (5 + (z : Int)))) w.heap.size hi 4 T 0 6) := hS.word g5 0 _
              have HR : Hid (Rd (w8.setCell ⟨p, 0, none⟩ (.int .i64 (5 + (z : Int)))) rb (kj + 1 + 1)) := hr.other p 0 (by omega) _
              have HA : Hid (Adv rb w (w8.setCell ⟨p, 0, none⟩ (.int .i64 (5 + (z : Int))))) := hA.setCell (p := ⟨p, 0, none⟩) (Or.inr g3) _
              clear hS hr hA g8 s8
              go_wp2
              go_roundw
              case rel => exact ⟨m - 1, kj + 2, by go_num, by omega, HS, HR, by omega, by simpa using hs, HA⟩
              case measure => simp [intOf]; omega
          · obtain ⟨p, l, c1, g1, g2, g3, g4, g5, q, _, g8⟩ := hS.2.2 0 (by omega)
            obtain rfl : l = 4 := by omega
            rw [Nat.zero_add] at q
            go_wp2_with (fail)
            go_region_with (go_at_call 55; refine (pickA rb _ _ _ hr (by omega) (by omega) (by omega)).mono ?_; rintro e w8 ⟨z, rfl, hz, hr, ha⟩; have s8 := adv_same ha hlt hs; have hS := hS.same s8; have q := (s8.cell hT hS.2.1).trans q; have hA := hA.trans ha; have hs : hi ≤ w8.heap.size := Nat.le_trans hs ha.size; obtain ⟨⟨y, d⟩, f⟩ := g8 1 (by omega); have d := (s8.cell g3 g4).trans d; have f := (s8.frozen g3 g4).trans f; clear ha)
            all_goals
              have HS : Hid (MemShape (w8.setCell ⟨p, 1, none⟩ (.int .i64 (5 + (z : Int)))) w.heap.size hi 4 T 0 6) := hS.word g5 1 _
              have HR : Hid (Rd (w8.setCell ⟨p, 1, none⟩ (.int .i64 (5 + (z : Int)))) rb (kj + 1 + 1)) := hr.other p 1 (by omega) _
              have HA : Hid (Adv rb w (w8.setCell ⟨p, 1, none⟩ (.int .i64 (5 + (z : Int))))) := hA.setCell (p := ⟨p, 1, none⟩) (Or.inr g3) _
              clear hS hr hA g8 s8
              go_wp2
              go_roundw
              case rel => exact ⟨m - 1, kj + 2, by go_num, by omega, HS, HR, by omega, by simpa using hs, HA⟩
              case measure => simp [intOf]; omega
          · obtain ⟨p, l, c1, g1, g2, g3, g4, g5, q, _, g8⟩ := hS.2.2 0 (by omega)
            obtain rfl : l = 4 := by omega
            rw [Nat.zero_add] at q
            go_wp2_with (fail)
            go_region_with (go_at_call 55; refine (pickA rb _ _ _ hr (by omega) (by omega) (by omega)).mono ?_; rintro e w8 ⟨z, rfl, hz, hr, ha⟩; have s8 := adv_same ha hlt hs; have hS := hS.same s8; have q := (s8.cell hT hS.2.1).trans q; have hA := hA.trans ha; have hs : hi ≤ w8.heap.size := Nat.le_trans hs ha.size; obtain ⟨⟨y, d⟩, f⟩ := g8 2 (by omega); have d := (s8.cell g3 g4).trans d; have f := (s8.frozen g3 g4).trans f; clear ha)
            all_goals
              have HS : Hid (MemShape (w8.setCell ⟨p, 2, none⟩ (.int .i64 (5 + (z : Int)))) w.heap.size hi 4 T 0 6) := hS.word g5 2 _
              have HR : Hid (Rd (w8.setCell ⟨p, 2, none⟩ (.int .i64 (5 + (z : Int)))) rb (kj + 1 + 1)) := hr.other p 2 (by omega) _
              have HA : Hid (Adv rb w (w8.setCell ⟨p, 2, none⟩ (.int .i64 (5 + (z : Int))))) := hA.setCell (p := ⟨p, 2, none⟩) (Or.inr g3) _
              clear hS hr hA g8 s8
              go_wp2
              go_roundw
              case rel => exact ⟨m - 1, kj + 2, by go_num, by omega, HS, HR, by omega, by simpa using hs, HA⟩
              case measure => simp [intOf]; omega
          · obtain ⟨p, l, c1, g1, g2, g3, g4, g5, q, _, g8⟩ := hS.2.2 0 (by omega)
            obtain rfl : l = 4 := by omega
            rw [Nat.zero_add] at q
            go_wp2_with (fail)
            go_region_with (go_at_call 55; refine (pickA rb _ _ _ hr (by omega) (by omega) (by omega)).mono ?_; rintro e w8 ⟨z, rfl, hz, hr, ha⟩; have s8 := adv_same ha hlt hs; have hS := hS.same s8; have q := (s8.cell hT hS.2.1).trans q; have hA := hA.trans ha; have hs : hi ≤ w8.heap.size := Nat.le_trans hs ha.size; obtain ⟨⟨y, d⟩, f⟩ := g8 3 (by omega); have d := (s8.cell g3 g4).trans d; have f := (s8.frozen g3 g4).trans f; clear ha)
            all_goals
              have HS : Hid (MemShape (w8.setCell ⟨p, 3, none⟩ (.int .i64 (5 + (z : Int)))) w.heap.size hi 4 T 0 6) := hS.word g5 3 _
              have HR : Hid (Rd (w8.setCell ⟨p, 3, none⟩ (.int .i64 (5 + (z : Int)))) rb (kj + 1 + 1)) := hr.other p 3 (by omega) _
              have HA : Hid (Adv rb w (w8.setCell ⟨p, 3, none⟩ (.int .i64 (5 + (z : Int))))) := hA.setCell (p := ⟨p, 3, none⟩) (Or.inr g3) _
              clear hS hr hA g8 s8
              go_wp2
              go_roundw
              case rel => exact ⟨m - 1, kj + 2, by go_num, by omega, HS, HR, by omega, by simpa using hs, HA⟩
              case measure => simp [intOf]; omega
          · obtain ⟨p, l, c1, g1, g2, g3, g4, g5, q, _, g8⟩ := hS.2.2 1 (by omega)
            obtain rfl : l = 4 := by omega
            rw [Nat.zero_add] at q
            go_wp2_with (fail)
            go_region_with (go_at_call 55; refine (pickA rb _ _ _ hr (by omega) (by omega) (by omega)).mono ?_; rintro e w8 ⟨z, rfl, hz, hr, ha⟩; have s8 := adv_same ha hlt hs; have hS := hS.same s8; have q := (s8.cell hT hS.2.1).trans q; have hA := hA.trans ha; have hs : hi ≤ w8.heap.size := Nat.le_trans hs ha.size; obtain ⟨⟨y, d⟩, f⟩ := g8 0 (by omega); have d := (s8.cell g3 g4).trans d; have f := (s8.frozen g3 g4).trans f; clear ha)
            all_goals
              have HS : Hid (MemShape (w8.setCell ⟨p, 0, none⟩ (.int .i64 (5 + (z : Int)))) w.heap.size hi 4 T 0 6) := hS.word g5 0 _
              have HR : Hid (Rd (w8.setCell ⟨p, 0, none⟩ (.int .i64 (5 + (z : Int)))) rb (kj + 1 + 1)) := hr.other p 0 (by omega) _
              have HA : Hid (Adv rb w (w8.setCell ⟨p, 0, none⟩ (.int .i64 (5 + (z : Int))))) := hA.setCell (p := ⟨p, 0, none⟩) (Or.inr g3) _
              clear hS hr hA g8 s8
              go_wp2
              go_roundw
              case rel => exact ⟨m - 1, kj + 2, by go_num, by omega, HS, HR, by omega, by simpa using hs, HA⟩
              case measure => simp [intOf]; omega
          · obtain ⟨p, l, c1, g1, g2, g3, g4, g5, q, _, g8⟩ := hS.2.2 1 (by omega)
            obtain rfl : l = 4 := by omega
            rw [Nat.zero_add] at q
            go_wp2_with (fail)
            go_region_with (go_at_call 55; refine (pickA rb _ _ _ hr (by omega) (by omega) (by omega)).mono ?_; rintro e w8 ⟨z, rfl, hz, hr, ha⟩; have s8 := adv_same ha hlt hs; have hS := hS.same s8; have q := (s8.cell hT hS.2.1).trans q; have hA := hA.trans ha; have hs : hi ≤ w8.heap.size := Nat.le_trans hs ha.size; obtain ⟨⟨y, d⟩, f⟩ := g8 1 (by omega); have d := (s8.cell g3 g4).trans d; have f := (s8.frozen g3 g4).trans f; clear ha)
            all_goals
              have HS : Hid (MemShape (w8.setCell ⟨p, 1, none⟩ (.int .i64 (5 + (z : Int)))) w.heap.size hi 4 T 0 6) := hS.word g5 1 _
              have HR : Hid (Rd (w8.setCell ⟨p, 1, none⟩ (.int .i64 (5 + (z : Int)))) rb (kj + 1 + 1)) := hr.other p 1 (by omega) _
              have HA : Hid (Adv rb w (w8.setCell ⟨p, 1, none⟩ (.int .i64 (5 + (z : Int))))) := hA.setCell (p := ⟨p, 1, none⟩) (Or.inr g3) _
              clear hS hr hA g8 s8
              go_wp2
              go_roundw
              case rel => exact ⟨m - 1, kj + 2, by go_num, by omega, HS, HR, by omega, by simpa using hs, HA⟩
              case measure => simp [intOf]; omega
        · have hmi : ¬ (0 : Int) < (m : Int) := by omega
          go_wp2
          go_ret
          exact ⟨T, c, rfl, hc, hSH.out.wide (Nat.le_refl _) hs, ⟨kj, hrH.out, by omega⟩, hAH.out⟩
end Go.Proofs.YteelpikhijkmdaaDoor
