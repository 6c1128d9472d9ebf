/-
  What the law's own marking of tables, and its looking for the marks, do.
-/
import Derived.Test.YtofiajllhffjcayEq0
namespace Go.Proofs.Ytofiajllhffjcay
open Go.RowKit

/-- All blocks but one are as they were. -/
structure Only (b : Nat) (w w' : World) : Prop where
  os : w'.os = w.os
  tape : w'.tape = w.tape
  output : w'.output = w.output
  size : w'.heap.size = w.heap.size
  block : ∀ k, k ≠ b → w'.heap[k]? = w.heap[k]?
theorem Only.refl (b : Nat) (w : World) : Only b w w := ⟨rfl, rfl, rfl, rfl, fun _ _ => rfl⟩
theorem Only.put {b : Nat} {w w' : World} (h : Only b w w') (j : Nat) (u : Value) : Only b w (w'.setCell ⟨b, j, none⟩ u) :=
  ⟨h.os, h.tape, h.output, by simpa [World.setCell] using h.size, fun k hk => (Below.heap_setCell _ _ _ _ (by simpa using hk)).trans (h.block k hk)⟩
theorem Only.below {b B : Nat} {w w' : World} (h : Only b w w') (hB : B ≤ b) : Below B w w' := ⟨h.os, h.tape, h.output, Nat.le_of_eq h.size.symm, fun k hk => h.block k (by omega)⟩
theorem Ents.only {b : Nat} {w w' : World} {b' o : Nat} {es : List E3} (h : Ents w b' o es) (ho : Only b w w') (hn : b' ≠ b) : Ents w' b' o es := fun i hi =>
  ⟨(World.cell?_of_block (a := ⟨b', o + i * 3, none⟩) (ho.block b' hn)).trans (h i hi).1, (World.cell?_of_block (a := ⟨b', o + i * 3 + 1, none⟩) (ho.block b' hn)).trans (h i hi).2.1, (World.cell?_of_block (a := ⟨b', o + i * 3 + 2, none⟩) (ho.block b' hn)).trans (h i hi).2.2⟩
theorem Room.only {b : Nat} {w w' : World} {b' n : Nat} (h : Room w b' n) (ho : Only b w w') (hn : b' ≠ b) : Room w' b' n := fun j hj =>
  ⟨(h j hj).1.imp fun _ hv => (World.cell?_of_block (a := ⟨b', j, none⟩) (ho.block b' hn)).trans hv, (World.frozen?_of_block (a := ⟨b', j, none⟩) (ho.block b' hn)).trans (h j hj).2⟩

/-- What one mark writes. -/
def mkE (n : Int) : E3 := (n % 3 == 0, n + 1, (n + 1 + 1) % 3 == 0)
def marks (k0 len : Nat) : List E3 := (List.range len).map fun j => mkE ((k0 + 3 * j : Nat) : Int)
theorem marks_len (k0 len : Nat) : (marks k0 len).length = len := by simp [marks]
theorem marks_get (k0 len j : Nat) (h : j < len) : (marks k0 len).getD j (false, 0, false) = mkE ((k0 + 3 * j : Nat) : Int) := by simp [marks, List.getD_eq_getElem?_getD, h]

set_option maxHeartbeats 1000000 in
theorem mark_any (b len cap k0 : Nat) (w : World) (hR : Room w b (len * 3)) (hn : len ≤ 1048576) (hk0 : k0 ≤ 100000000) :
    Calls Try.prog 24 #[.slice (some ⟨b, 0, none⟩) len cap, .int .i64 k0] w fun e w' => e = .returned (.int .i64 ((k0 + 3 * len : Nat) : Int)) ∧ Ents w' b 0 (marks k0 len) ∧ Room w' b (len * 3) ∧ Only b w w' := by
  go_enter Try.func24, Try.ntmps24
  go_wp2
  go_loopw [1, 5] (fun n i wr => ∃ k : Nat, k ≤ len ∧ i = .int .i64 k ∧ n = .int .i64 ((k0 + 3 * k : Nat) : Int) ∧ Hid (Ents wr b 0 ((marks k0 len).take k)) ∧ Hid (Room wr b (len * 3)) ∧ Hid (Only b w wr)) (fun _ i _ => len - (intOf i).toNat)
  case atStart => exact ⟨0, Nat.zero_le _, rfl, rfl, fun i hi => by simp at hi, hR, Only.refl _ _⟩
  case round =>
    obtain ⟨k, hk, rfl, rfl, hE, hRo, hO⟩ := hrel
    by_cases hkl : k < len
    · obtain ⟨⟨u0, d0⟩, f0⟩ := hRo.out (k * 3) (by omega)
      obtain ⟨⟨u1, d1⟩, f1⟩ := hRo.out (k * 3 + 1) (by omega)
      obtain ⟨⟨u2, d2⟩, f2⟩ := hRo.out (k * 3 + 2) (by omega)
      have hm : Hid ((marks k0 len).getD k (false, 0, false) = mkE ((k0 + 3 * k : Nat) : Int)) := marks_get k0 len k hkl
      have hnx : ((k0 + 3 * (k + 1) : Nat) : Int) = ((k0 + 3 * k : Nat) : Int) + 1 + 1 + 1 := by omega
      have HX : Hid (((k0 + 3 * (k + 1) : Nat) : Int) = ((k0 + 3 * k : Nat) : Int) + 1 + 1 + 1) := hnx
      clear hnx
      generalize hN : ((k0 + 3 * k : Nat) : Int) = N at hm HX
      have hN0 : 0 ≤ N := by omega
      have hN1 : N ≤ 200000000 := by omega
      clear hN
      have hki : (k : Int) < (len : Int) := by omega
      go_wp2
      go_roundw
      case rel =>
        refine ⟨k + 1, by omega, by go_num, by rw [HX.out], ents_put hRo.out hE.out (by rw [marks_len]; omega) (by omega) hm.out, ((hRo.out.put _).put _).put _, ((hO.out.put _ _).put _ _).put _ _⟩
      case measure => simp [intOf]; omega
    · have hkk : k = len := by omega
      subst hkk
      have HE : Hid (Ents wr b 0 (marks k0 k)) := by
        have := hE.out
        rwa [List.take_of_length_le (by rw [marks_len]; omega)] at this
      clear hE
      go_wp2
      go_ret
      exact ⟨rfl, HE.out, hRo.out, hO.out⟩

set_option maxHeartbeats 1000000 in
theorem held_any (b len cap k0 : Nat) (w : World) (hE : Ents w b 0 (marks k0 len)) (hn : len ≤ 1048576) (hk0 : k0 ≤ 100000000) :
    Calls Try.prog 25 #[.slice (some ⟨b, 0, none⟩) len cap, .int .i64 k0] w fun e w' => e = .returned (.int .i64 ((k0 + 3 * len : Nat) : Int)) ∧ w' = w := by
  go_enter Try.func25, Try.ntmps25
  go_wp2
  go_loop [1, 5] (fun n i => ∃ k : Nat, k ≤ len ∧ i = .int .i64 k ∧ n = .int .i64 ((k0 + 3 * k : Nat) : Int)) (fun _ i => len - (intOf i).toNat)
  case atStart => exact ⟨0, Nat.zero_le _, rfl, rfl⟩
  case round =>
    obtain ⟨k, hk, rfl, rfl⟩ := hrel
    by_cases hkl : k < len
    · obtain ⟨c0, c1, c2⟩ := hE k (by rw [marks_len]; omega)
      rw [marks_get k0 len k hkl] at c0 c1 c2
      simp only [mkE, Nat.zero_add] at c0 c1 c2
      have HX : Hid (((k0 + 3 * (k + 1) : Nat) : Int) = ((k0 + 3 * k : Nat) : Int) + 1 + 1 + 1) := by show _ = _; omega
      generalize hN : ((k0 + 3 * k : Nat) : Int) = N at c0 c1 c2 HX
      have hN0 : 0 ≤ N := by omega
      have hN1 : N ≤ 200000000 := by omega
      clear hN
      have hki : (k : Int) < (len : Int) := by omega
      go_wp2
      go_round
      case rel => exact ⟨k + 1, by omega, by go_num, by rw [HX.out]⟩
      case measure => simp [intOf]; omega
    · have hkk : k = len := by omega
      subst hkk
      go_wp2
      go_ret
      exact ⟨rfl, rfl⟩
set_option maxHeartbeats 400000 in
theorem mark_nil (a : Option Addr) (cap : Nat) (k : Int) (w : World) :
    Calls Try.prog 24 #[.slice a 0 cap, .int .i64 k] w fun e w' => e = .returned (.int .i64 k) ∧ w' = w := by
  go_enter Try.func24, Try.ntmps24
  go_wp2
  go_loop [1, 5] (fun n i => i = .int .i64 0 ∧ n = .int .i64 k) (fun _ _ => 0)
  case atStart => exact ⟨rfl, rfl⟩
  case round =>
    obtain ⟨rfl, rfl⟩ := hrel
    go_wp2
    go_ret
    exact ⟨rfl, rfl⟩

set_option maxHeartbeats 400000 in
theorem held_nil (a : Option Addr) (cap : Nat) (k : Int) (w : World) :
    Calls Try.prog 25 #[.slice a 0 cap, .int .i64 k] w fun e w' => e = .returned (.int .i64 k) ∧ w' = w := by
  go_enter Try.func25, Try.ntmps25
  go_wp2
  go_loop [1, 5] (fun n i => i = .int .i64 0 ∧ n = .int .i64 k) (fun _ _ => 0)
  case atStart => exact ⟨rfl, rfl⟩
  case round =>
    obtain ⟨rfl, rfl⟩ := hrel
    go_wp2
    go_ret
    exact ⟨rfl, rfl⟩

end Go.Proofs.Ytofiajllhffjcay
