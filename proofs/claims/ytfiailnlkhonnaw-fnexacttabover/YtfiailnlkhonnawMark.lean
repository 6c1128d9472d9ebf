/-
  What the law's own marking of tables, and its looking for the marks, do.
-/
import Derived.Test.YtfiailnlkhonnawEqEnts
import Derived.Test.YtfiailnlkhonnawOverSpec
namespace Go.Proofs.Ytfiailnlkhonnaw
open Go.RowKit

/-- All blocks but one are as they were. -/
structure Only (b : Nat) (w w' : World) : Prop where
  os : w'.os = w.os
  tape : w'.tape = w.tape
  output : w'.output = w.output
  size : w'.heap.size = w.heap.size
  block : ∀ k, k ≠ b → w'.heap[k]? = w.heap[k]?
theorem Only.refl (b : Nat) (w : World) : Only b w w := ⟨rfl, rfl, rfl, rfl, fun _ _ => rfl⟩
theorem Only.put {b : Nat} {w w' : World} (h : Only b w w') (j : Nat) (u : Value) : Only b w (w'.setCell ⟨b, j, none⟩ u) :=
  ⟨h.os, h.tape, h.output, by simpa [World.setCell] using h.size, fun k hk => (Below.heap_setCell _ _ _ _ (by simpa using hk)).trans (h.block k hk)⟩
theorem Only.below {b B : Nat} {w w' : World} (h : Only b w w') (hB : B ≤ b) : Below B w w' := ⟨h.os, h.tape, h.output, Nat.le_of_eq h.size.symm, fun k hk => h.block k (by omega)⟩
theorem Ents.only {b : Nat} {w w' : World} {b' o : Nat} {es : List E3} (h : Ents w b' o es) (ho : Only b w w') (hn : b' ≠ b) : Ents w' b' o es := fun i hi =>
  ⟨(World.cell?_of_block (a := ⟨b', o + i * 3, none⟩) (ho.block b' hn)).trans (h i hi).1, (World.cell?_of_block (a := ⟨b', o + i * 3 + 1, none⟩) (ho.block b' hn)).trans (h i hi).2.1, (World.cell?_of_block (a := ⟨b', o + i * 3 + 2, none⟩) (ho.block b' hn)).trans (h i hi).2.2⟩
theorem Room.only {b : Nat} {w w' : World} {b' n : Nat} (h : Room w b' n) (ho : Only b w w') (hn : b' ≠ b) : Room w' b' n := fun j hj =>
  ⟨(h j hj).1.imp fun _ hv => (World.cell?_of_block (a := ⟨b', j, none⟩) (ho.block b' hn)).trans hv, (World.frozen?_of_block (a := ⟨b', j, none⟩) (ho.block b' hn)).trans (h j hj).2⟩

/-- What one mark writes. -/
def mkE (n : Int) : E3 := (n % 3 == 0, n + 1, (n + 1 + 1) % 3 == 0)
def marks (k0 len : Nat) : List E3 := (List.range len).map fun j => mkE ((k0 + 3 * j : Nat) : Int)
theorem marks_len (k0 len : Nat) : (marks k0 len).length = len := by simp [marks]
theorem marks_get (k0 len j : Nat) (h : j < len) : (marks k0 len).getD j (false, 0, false) = mkE ((k0 + 3 * j : Nat) : Int) := by simp [marks, List.getD_eq_getElem?_getD, h]

set_option maxHeartbeats 1000000 in
theorem toEntryS_room (a : Option Addr) (len cap : Nat) (es : List E3) (w : World) (h : IsEnts w a len es) (hn : len ≤ 1048576) :
    Calls Try.prog 13 #[.slice a len cap] w fun e w' => e = .returned (.slice (some ⟨w.heap.size, 0, none⟩) len len) ∧ Ents w' w.heap.size 0 es ∧ Room w' w.heap.size (len * 3) ∧ w.heap.size < w'.heap.size ∧ Below w.heap.size w w' := by
  obtain ⟨hl, hd⟩ := h
  have hmk := make_ents len hn
  go_enter Try.func13, Try.ntmps13
  go_wp2
  clear hmk
  go_loopw [4] (fun i wr => ∃ k : Nat, k ≤ len ∧ i = .int .i64 k ∧ Hid (Ents wr w.heap.size 0 (es.take k)) ∧ Hid (Room wr w.heap.size (len * 3)) ∧ w.heap.size < wr.heap.size ∧ Below w.heap.size w wr) (fun i _ => len - (intOf i).toNat)
  case atStart => exact ⟨0, Nat.zero_le _, rfl, fun i hi => by simp at hi, room_made _ _ _ _, by simp, (Below.refl _ _).alloc (Nat.le_refl _) _⟩
  case round =>
    obtain ⟨k, hk, rfl, hE, hR, hlt, hB⟩ := hrel
    by_cases hkl : k < len
    · rcases hd with h0 | ⟨b, o, rfl, hb, hc⟩
      · omega
      obtain ⟨q0, q1, q2⟩ := hc k (by omega)
      generalize hG : es.getD k (false, 0, false) = ek at q0 q1 q2
      obtain ⟨eh, ep, eb⟩ := ek
      have c0 := (hB.cell (p := ⟨b, o + k * 3, none⟩) hb).trans q0
      have c1 := (hB.cell (p := ⟨b, o + k * 3 + 1, none⟩) hb).trans q1
      have c2 := (hB.cell (p := ⟨b, o + k * 3 + 2, none⟩) hb).trans q2
      have HG : Hid (es.getD k (false, 0, false) = (eh, ep, eb)) := hG
      clear hG q0 q1 q2
      obtain ⟨⟨u0, d0⟩, f0⟩ := hR.out (k * 3) (by omega)
      obtain ⟨⟨u1, d1⟩, f1⟩ := hR.out (k * 3 + 1) (by omega)
      obtain ⟨⟨u2, d2⟩, f2⟩ := hR.out (k * 3 + 2) (by omega)
      have hlt1 : w.heap.size < wr.heap.size + 1 := by omega
      have hlt2 : w.heap.size < wr.heap.size + 1 + 1 := by omega
      go_wp2_with (go_at_call 28; refine (toEntry_any _ _ _ _).mono ?_; rintro e w' ⟨rfl, o1, o2, o3, rfl⟩)
      go_roundw
      case rel =>
        have b3 : ∀ W : World, Below W.heap.size W (((W.alloc o1).alloc o2).alloc o3) := fun W => by
          (repeat' (with_reducible (first | exact Below.refl _ _ | apply Below.setCell | apply Below.alloc | apply below_drewN | apply Below.drew))) <;> (first | exact Nat.le_refl _ | (simp; done) | (simp; omega))
        have hs3 : w.heap.size < (((wr.setCell ⟨w.heap.size, k * 3, none⟩ (.bool eh)).setCell ⟨w.heap.size, k * 3 + 1, none⟩ (.int .i64 ep)).setCell ⟨w.heap.size, k * 3 + 2, none⟩ (.bool eb)).heap.size := by simpa using hlt
        refine ⟨k + 1, by omega, by go_num, (ents_put hR.out hE.out (by omega) (by omega) HG.out).below (b3 _) hs3, (((hR.out.put _).put _).put _).below (b3 _) hs3, by simp; omega, ?_⟩
        refine Below.trans ?_ ((b3 _).mono (Nat.le_of_lt hs3))
        exact ((hB.setCell (p := ⟨w.heap.size, k * 3, none⟩) (Nat.le_refl _) _).setCell (p := ⟨w.heap.size, k * 3 + 1, none⟩) (Nat.le_refl _) _).setCell (p := ⟨w.heap.size, k * 3 + 2, none⟩) (Nat.le_refl _) _
      case measure => simp [intOf]; omega
    · have hkk : k = len := by omega
      have HE : Hid (Ents wr w.heap.size 0 es) := by
        have := hE.out
        rwa [List.take_of_length_le (by omega)] at this
      clear hE
      go_wp2
      go_ret
      exact ⟨rfl, HE.out, hR.out, hlt, hB⟩


set_option maxHeartbeats 1000000 in
theorem mark_any (b len cap k0 : Nat) (w : World) (hR : Room w b (len * 3)) (hn : len ≤ 1048576) (hk0 : k0 ≤ 100000000) :
    Calls Try.prog 20 #[.slice (some ⟨b, 0, none⟩) len cap, .int .i64 k0] w fun e w' => e = .returned (.int .i64 ((k0 + 3 * len : Nat) : Int)) ∧ Ents w' b 0 (marks k0 len) ∧ Room w' b (len * 3) ∧ Only b w w' := by
  go_enter Try.func20, Try.ntmps20
  go_wp2
  go_loopw [1, 5] (fun n i wr => ∃ k : Nat, k ≤ len ∧ i = .int .i64 k ∧ n = .int .i64 ((k0 + 3 * k : Nat) : Int) ∧ Hid (Ents wr b 0 ((marks k0 len).take k)) ∧ Hid (Room wr b (len * 3)) ∧ Hid (Only b w wr)) (fun _ i _ => len - (intOf i).toNat)
  case atStart => exact ⟨0, Nat.zero_le _, rfl, rfl, fun i hi => by simp at hi, hR, Only.refl _ _⟩
  case round =>
    obtain ⟨k, hk, rfl, rfl, hE, hRo, hO⟩ := hrel
    by_cases hkl : k < len
    · obtain ⟨⟨u0, d0⟩, f0⟩ := hRo.out (k * 3) (by omega)
      obtain ⟨⟨u1, d1⟩, f1⟩ := hRo.out (k * 3 + 1) (by omega)
      obtain ⟨⟨u2, d2⟩, f2⟩ := hRo.out (k * 3 + 2) (by omega)
      have hm : Hid ((marks k0 len).getD k (false, 0, false) = mkE ((k0 + 3 * k : Nat) : Int)) := marks_get k0 len k hkl
      have hnx : ((k0 + 3 * (k + 1) : Nat) : Int) = ((k0 + 3 * k : Nat) : Int) + 1 + 1 + 1 := by omega
      have HX : Hid (((k0 + 3 * (k + 1) : Nat) : Int) = ((k0 + 3 * k : Nat) : Int) + 1 + 1 + 1) := hnx
      clear hnx
      generalize hN : ((k0 + 3 * k : Nat) : Int) = N at hm HX
      have hN0 : 0 ≤ N := by omega
      have hN1 : N ≤ 200000000 := by omega
      clear hN
      have hki : (k : Int) < (len : Int) := by omega
      go_wp2
      go_roundw
      case rel =>
        refine ⟨k + 1, by omega, by go_num, by rw [HX.out], ents_put hRo.out hE.out (by rw [marks_len]; omega) (by omega) hm.out, ((hRo.out.put _).put _).put _, ((hO.out.put _ _).put _ _).put _ _⟩
      case measure => simp [intOf]; omega
    · have hkk : k = len := by omega
      subst hkk
      have HE : Hid (Ents wr b 0 (marks k0 k)) := by
        have := hE.out
        rwa [List.take_of_length_le (by rw [marks_len]; omega)] at this
      clear hE
      go_wp2
      go_ret
      exact ⟨rfl, HE.out, hRo.out, hO.out⟩

set_option maxHeartbeats 1000000 in
theorem held_any (b len cap k0 : Nat) (w : World) (hE : Ents w b 0 (marks k0 len)) (hn : len ≤ 1048576) (hk0 : k0 ≤ 100000000) :
    Calls Try.prog 21 #[.slice (some ⟨b, 0, none⟩) len cap, .int .i64 k0] w fun e w' => e = .returned (.int .i64 ((k0 + 3 * len : Nat) : Int)) ∧ w' = w := by
  go_enter Try.func21, Try.ntmps21
  go_wp2
  go_loop [1, 5] (fun n i => ∃ k : Nat, k ≤ len ∧ i = .int .i64 k ∧ n = .int .i64 ((k0 + 3 * k : Nat) : Int)) (fun _ i => len - (intOf i).toNat)
  case atStart => exact ⟨0, Nat.zero_le _, rfl, rfl⟩
  case round =>
    obtain ⟨k, hk, rfl, rfl⟩ := hrel
    by_cases hkl : k < len
    · obtain ⟨c0, c1, c2⟩ := hE k (by rw [marks_len]; omega)
      rw [marks_get k0 len k hkl] at c0 c1 c2
      simp only [mkE, Nat.zero_add] at c0 c1 c2
      have HX : Hid (((k0 + 3 * (k + 1) : Nat) : Int) = ((k0 + 3 * k : Nat) : Int) + 1 + 1 + 1) := by show _ = _; omega
      generalize hN : ((k0 + 3 * k : Nat) : Int) = N at c0 c1 c2 HX
      have hN0 : 0 ≤ N := by omega
      have hN1 : N ≤ 200000000 := by omega
      clear hN
      have hki : (k : Int) < (len : Int) := by omega
      go_wp2
      go_round
      case rel => exact ⟨k + 1, by omega, by go_num, by rw [HX.out]⟩
      case measure => simp [intOf]; omega
    · have hkk : k = len := by omega
      subst hkk
      go_wp2
      go_ret
      exact ⟨rfl, rfl⟩
end Go.Proofs.Ytfiailnlkhonnaw
