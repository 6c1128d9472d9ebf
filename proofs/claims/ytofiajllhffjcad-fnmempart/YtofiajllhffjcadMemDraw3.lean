/-
  What the drawing of memory for FnMemPart gives.
-/
import Derived.Test.YtofiajllhffjcadMemDraw2
namespace Go.Proofs.Ytofiajllhffjcad
open Go.RowKit

set_option maxHeartbeats 6000000 in
theorem drawMemOk (a : Option Addr) (len cap : Nat) (zs : List Int) (w : World) (h : IsRow .u8 w a len cap zs) :
    Calls Try.prog 20 #[.slice a len cap] w fun e w' => ∃ T o n c ms, e = .returned (.slice (some ⟨T, o, none⟩) n c) ∧ (n = 5 ∨ n = 6) ∧ n ≤ c ∧ DrawnMem w' w.heap.size w'.heap.size (some ⟨T, o, none⟩) n ms ∧ Below w.heap.size w w' := by
  go_enter Try.func20, Try.ntmps20
  go_wp2_with (fail)
  refine (open_any a len cap zs _ h).mono ?_
  rintro e w1 ⟨rfl, len', hl', rfl⟩
  have hr := rd_new h hl' 0 72
  have B0 : Below w.heap.size w (w.alloc (.cells #[.slice a len' cap, .int .i64 ((0 : Nat) : Int)] 72)) := (Below.refl _ _).alloc (Nat.le_refl _) _
  go_wp2_with (fail)
  refine (drawOff w.heap.size 0 _ hr (by omega)).mono ?_
  rintro e w1 ⟨T, o, n, c, rfl, hn, hnc, hS1, ⟨k1, hr1, hk1⟩, hA1⟩
  have hS1 := hS1.wide (lo' := w.heap.size + 1) (hi' := w1.heap.size) (by simp) (Nat.le_refl _)
  obtain ⟨rb, hrb⟩ : ∃ rb, rb = w.heap.size := ⟨_, rfl⟩
  obtain ⟨lo, hlo⟩ : ∃ lo, lo = w.heap.size + 1 := ⟨_, rfl⟩
  rw [← hlo] at hS1
  rw [← hrb] at hr1
  have hlt : rb < lo := by omega
  have hW0 : (w.alloc (.cells #[.slice a len' cap, .int .i64 ((0 : Nat) : Int)] 72)).heap.size = lo := by simp; omega
  generalize w.alloc (.cells #[.slice a len' cap, .int .i64 ((0 : Nat) : Int)] 72) = W0 at hA1 hW0 B0
  rw [← hrb] at hA1
  have hlo0 := Nat.le_of_eq hW0
  have hlo1 := Nat.le_of_eq hW0.symm
  have hin : ∀ W', Adv rb W0 W' → Below w.heap.size w W' := fun W' hA => B0.trans (hA.below (by omega) (by omega))
  clear hr B0 hW0
  go_wp2_with (fail)
  rw [← hrb]
  have hrbA := Nat.le_of_eq hrb
  have hrbB := Nat.le_of_eq hrb.symm
  have hloA := Nat.le_of_eq hlo
  have hloB := Nat.le_of_eq hlo.symm
  clear hrb hlo
  refine (pickA rb k1 4 _ hr1 (by omega) (by omega) (by omega)).mono ?_
  rintro e w2 ⟨v0, rfl, hv0, hr2, ha2⟩
  have hS2 : Hid (MemShape w2 lo w1.heap.size 1 T o n) := hS1.same (adv_same ha2 (by omega) (Nat.le_refl _))
  have B2 : Hid (Adv rb W0 w2) := hA1.trans ha2
  have hs2 := ha2.size
  have hR2 : Hid (Rd w2 rb (k1 + 1)) := hr2
  have hT := hS1.1
  have hnI : (5 : Int) ≤ (n : Int) := by omega
  clear hS1 ha2 hr1 hr2
  by_cases h0 : v0 = 0
  · subst h0
    have hS := hS2.out.drew
    have hr := hR2.out.drew
    have hA : Adv rb W0 w2.drew := B2.out.drew
    have hs : w1.heap.size ≤ w2.drew.heap.size := hs2
    have hrb0 : rb < w2.heap.size := by have := hS2.out.2.1; omega
    clear hS2 hR2 B2
    go_wp2_with (fail)
    go_region_with (first | (go_at_call 25; have q0 := q; clear q0; refine (pickA rb _ _ _ (by first | exact hr | exact hr.alloc _) (by omega) (by omega) (by omega)).mono ?_; rintro e w4 ⟨v2, rfl, hv2, hr, ha⟩; have s4 : SameIn lo w1.heap.size w3 w4 := (by first | exact adv_same ha hlt hs | exact adv_same1 ha hlt hs); have hS := hS.same s4; have q := (s4.cell hT hS.2.1).trans q; have hA : Adv rb W0 w4 := (by first | exact hA.trans ha | exact (hA.alloc _).trans ha); (first | (have gY := Two.adv gX ha hrb0; have gZ := gY.2 v2 (by omega); clear gY) | (have gY := Two.adv (two_made _ _ _ _) ha hrb3; have gZ := gY.2 v2 (by omega); clear gY) | (have gZ := two_get (-1) 64 v2 (by omega))); obtain ⟨y, hy⟩ := gZ; have hs : w1.heap.size ≤ w4.heap.size := Nat.le_trans hs (Nat.le_trans (by first | exact Nat.le_refl _ | simp) ha.size); obtain ⟨⟨u, d⟩, f⟩ := g8 0 (by omega); have d := (s4.cell g3 g4).trans d; have f := (s4.frozen g3 g4).trans f; have hpw : p < w4.heap.size := (by omega); have hTw : T < w4.heap.size := (by have := hS.2.1; omega)) | (go_at_call 25; refine (pickA rb _ _ _ (by first | exact hr | exact hr.alloc _) (by omega) (by omega) (by omega)).mono ?_; rintro e w3 ⟨v1, rfl, hv1, hr, ha⟩; have s3 : SameIn lo w1.heap.size w2.drew w3 := (by first | exact adv_same ha hlt hs | exact adv_same1 ha hlt hs); have hS := hS.same s3; obtain ⟨p, l, c1, g1, g2, g3, g4, g5, q, _, g8⟩ := hS.2.2 v1 (by omega); have hlI : (0 : Int) < (l : Int) := (by omega); have hA : Adv rb W0 w3 := (by first | exact hA.trans ha | exact (hA.alloc _).trans ha); (first | (have gX := Two.adv (two_drew _ _ _ _) ha hrb0) | skip); have hs : w1.heap.size ≤ w3.heap.size := Nat.le_trans hs (Nat.le_trans (by first | exact Nat.le_refl _ | simp) ha.size); have hrb3 : rb < w3.heap.size := (by have := hS.2.1; omega); have hTw : T < w3.heap.size := (by have := hS.2.1; omega); clear ha s3))
    all_goals
      have HS : Hid (MemShape (w4.setCell ⟨p, 0, none⟩ (.int .i64 y)) lo w1.heap.size 1 T o n) := hS.word g5 0 y
      have HA : Hid (Adv rb W0 (w4.setCell ⟨p, 0, none⟩ (.int .i64 y))) := hA.setCell (p := ⟨p, 0, none⟩) (Or.inr (show W0.heap.size ≤ p by omega)) _
      have hsz : w1.heap.size ≤ (w4.setCell ⟨p, 0, none⟩ (.int .i64 y)).heap.size := by simpa using hs
      clear hS hr hA g8 s4 ha
      go_wp2
      go_ret
      first
        | (obtain ⟨ms, hM⟩ := (HS.out.wide (lo' := w.heap.size) (by omega) hsz).drawn (by omega); exact ⟨T, o, n, c, ms, rfl, hn, hnc, hM, hin _ HA.out⟩)
        | (obtain ⟨ms, hM⟩ := ((HS.out.same (below_sameIn ((Below.refl _ _).alloc (Nat.le_refl _) (.cells #[.int .i64 (-1), .int .i64 64] 3)) hsz)).wide (lo' := w.heap.size) (hi' := ((w4.setCell ⟨p, 0, none⟩ (.int .i64 y)).alloc (.cells #[.int .i64 (-1), .int .i64 64] 3)).heap.size) (by omega) (by simpa using Nat.le_succ_of_le hs)).drawn (by omega); exact ⟨T, o, n, c, ms, rfl, hn, hnc, hM, hin _ (HA.out.alloc _)⟩)
  · have e0 : ((v0 : Int) == 0) = false := by simp; omega
    obtain ⟨ms, hM⟩ := (hS2.out.wide (lo' := w.heap.size) (hi' := w2.heap.size) (by omega) hs2).drawn (by omega)
    have HM : Hid (DrawnMem w2 w.heap.size w2.heap.size (some ⟨T, o, none⟩) n ms) := hM
    clear hM hS2 hR2
    go_wp2
    go_ret
    exact ⟨T, o, n, c, ms, rfl, hn, hnc, HM.out, hin _ B2.out⟩
end Go.Proofs.Ytofiajllhffjcad
