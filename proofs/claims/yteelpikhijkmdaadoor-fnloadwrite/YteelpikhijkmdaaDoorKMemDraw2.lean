/-
  What the drawing of the laws' arguments gives: memory, places and words.
-/
import Derived.Test.YteelpikhijkmdaaDoorKMemDraw1
namespace Go.Proofs.YteelpikhijkmdaaDoor
open Go.RowKit

/-- Drawn memory: at most six pages of at most four words. -/
def DrawnMem (w : World) (lo hi : Nat) (a : Option Addr) (n : Nat) (ms : List (List Int)) : Prop := IsMem w lo hi a n ms ∧ n ≤ 6 ∧ (∀ i, i < n → (ms.getD i []).length ≤ 4)
theorem DrawnMem.same {lo hi : Nat} {w w' : World} (s : SameIn lo hi w w') {a : Option Addr} {n : Nat} {ms : List (List Int)} (h : DrawnMem w lo hi a n ms) : DrawnMem w' lo hi a n ms := ⟨h.1.same s, h.2⟩
theorem MemShape.drawn {w : World} {lo hi m T o n : Nat} (h : MemShape w lo hi m T o n) (hn : n ≤ 6) : ∃ ms, DrawnMem w lo hi (some ⟨T, o, none⟩) n ms := by
  obtain ⟨ms, h1, h2⟩ := h.mem
  exact ⟨ms, h1, hn, h2⟩

set_option maxHeartbeats 2000000 in
theorem drawMemWith (a : Option Addr) (len cap : Nat) (zs : List Int) (w : World) (h : IsRow .u8 w a len cap zs) :
    Calls Tryd.prog 24 #[.slice a len cap] w fun e w' => ∃ aM n c ms, ∃ p o z : Nat, e = .returned (.tuple #[.slice aM n c, .int .i64 p, .int .i64 o, .int .i64 z]) ∧ DrawnMem w' w.heap.size w'.heap.size aM n ms ∧ p ≤ 6 ∧ o ≤ 4 ∧ z ≤ 200 ∧ Below w.heap.size w w' := by
  go_enter Tryd.func24, Tryd.ntmps24
  go_wp2_with (fail)
  refine (open_any a len cap zs _ h).mono ?_
  rintro e w1 ⟨rfl, len', hl', rfl⟩
  have hr := rd_new h hl' 0 115
  have hlt := hr.lt
  have B0 : Below w.heap.size w (w.alloc (.cells #[.slice a len' cap, .int .i64 ((0 : Nat) : Int)] 115)) := (Below.refl _ _).alloc (Nat.le_refl _) _
  go_wp2_with (fail)
  refine (drawOff w.heap.size 0 _ hr (by omega)).mono ?_
  rintro e w2 ⟨T, o, n, c, rfl, hn, _, hS, ⟨k2, hr2, hk2⟩, hA⟩
  have B2 : Below w.heap.size w w2 := B0.trans (hA.below (Nat.le_refl _) (by simp))
  have hS2 := hS.wide (lo' := w.heap.size + 1) (hi' := w2.heap.size) (by simp) (Nat.le_refl _)
  clear hS hA hr B0
  go_wp2_with (fail)
  refine (pickA w.heap.size k2 6 _ hr2 (by omega) (by omega) (by omega)).mono ?_
  rintro e w3 ⟨v1, rfl, hv1, hr3, ha3⟩
  have B3 := B2.trans (ha3.below (Nat.le_refl _) B2.size)
  have hS3 := hS2.same (adv_same ha3 (by omega) (Nat.le_refl _))
  have s3 := ha3.size
  clear ha3 hS2 hr2
  go_wp2_with (fail)
  refine (pickA w.heap.size _ 24 _ hr3 (by omega) (by omega) (by omega)).mono ?_
  rintro e w4 ⟨v2, rfl, hv2, hr4, ha4⟩
  have B4 := B3.trans (ha4.below (Nat.le_refl _) B3.size)
  have hS4 := hS3.same (adv_same ha4 (by omega) s3)
  have s4 := Nat.le_trans s3 ha4.size
  obtain ⟨x2, hx2, hx2'⟩ : ∃ x : Nat, (v2 : Int) / 23 = (x : Int) ∧ x ≤ 1 := ⟨v2 / 23, by omega, by omega⟩
  clear ha4 hS3 hr3
  go_wp2_with (fail)
  refine (pickA w.heap.size _ 4 _ hr4 (by omega) (by omega) (by omega)).mono ?_
  rintro e w5 ⟨v3, rfl, hv3, hr5, ha5⟩
  have B5 := B4.trans (ha5.below (Nat.le_refl _) B4.size)
  have hS5 := hS4.same (adv_same ha5 (by omega) s4)
  have s5 := Nat.le_trans s4 ha5.size
  clear ha5 hS4 hr4
  go_wp2_with (fail)
  refine (pickA w.heap.size _ 24 _ hr5 (by omega) (by omega) (by omega)).mono ?_
  rintro e w6 ⟨v4, rfl, hv4, hr6, ha6⟩
  have B6 := B5.trans (ha6.below (Nat.le_refl _) B5.size)
  have hS6 := hS5.same (adv_same ha6 (by omega) s5)
  have s6 := Nat.le_trans s5 ha6.size
  obtain ⟨x4, hx4, hx4'⟩ : ∃ x : Nat, (v4 : Int) / 23 = (x : Int) ∧ x ≤ 1 := ⟨v4 / 23, by omega, by omega⟩
  clear ha6 hS5 hr5
  go_wp2_with (fail)
  refine (drawWord w.heap.size _ _ hr6 (by omega)).mono ?_
  rintro e w7 ⟨z, k7, rfl, hz, hr7, hk7, ha7⟩
  have B7 := B6.trans (ha7.below (Nat.le_refl _) B6.size)
  have hS7 := hS6.same (adv_same ha7 (by omega) s6)
  have s7 := Nat.le_trans s6 ha7.size
  clear ha7 hS6 hr6
  go_wp2_with (fail)
  refine (pickA w.heap.size _ 24 _ hr7 (by omega) (by omega) (by omega)).mono ?_
  rintro e w8 ⟨v8, rfl, hv8, hr8, ha8⟩
  have B8 := B7.trans (ha8.below (Nat.le_refl _) B7.size)
  have hS8 := hS7.same (adv_same ha8 (by omega) s7)
  have s8 := Nat.le_trans s7 ha8.size
  obtain ⟨x8, hx8, hx8'⟩ : ∃ x : Nat, (v8 : Int) / 23 = (x : Int) ∧ x ≤ 1 := ⟨v8 / 23, by omega, by omega⟩
  clear ha8 hS7 hr7
  obtain ⟨ms, hM⟩ := (hS8.wide (lo' := w.heap.size) (hi' := w8.heap.size) (by omega) s8).drawn (by omega)
  have HM : Hid (DrawnMem w8 w.heap.size w8.heap.size (some ⟨T, o, none⟩) n ms) := hM
  clear hM hS8 hr8 B2 B3 B4 B5 B6 B7
  go_wp2
  refine bodyPost_ret (v := .tuple #[.slice (some ⟨T, o, none⟩) n c, .int .i64 ((v1 + x2 : Nat) : Int), .int .i64 ((v3 + x4 : Nat) : Int), .int .i64 ((z + x8 * 60 : Nat) : Int)]) (by simp [results, Tryd.results24, go_sem]) rfl ?_
  exact ⟨_, _, _, ms, _, _, _, rfl, HM.out, by omega, by omega, by omega, B8⟩

end Go.Proofs.YteelpikhijkmdaaDoor
