/-
  What the laws' own copying of maps and shades does.
-/
import Derived.Test.YtpaeigmdhmmjmaaKHostMark0
import Derived.Test.YtpaeigmdhmmjmaaKHostOut0
namespace Go.Proofs.Ytpaeigmdhmmjmaa
open Go.RowKit

set_option maxHeartbeats 400000 in
theorem toMap_any (h : Bool) (p : Int) (b : Bool) (w : World) :
    Calls Try.prog 85 #[.agg #[.bool h, .int .i64 p, .bool b]] w fun e w' => e = .returned (.agg #[.bool h, .int .i64 p, .bool b]) ∧ ∃ o1 o2 o3, w' = ((w.alloc o1).alloc o2).alloc o3 := by
  go_enter Try.func85, Try.ntmps85
  go_wp2
  refine bodyPost_ret (v := .agg #[.bool h, .int .i64 p, .bool b]) ?res rfl ⟨rfl, _, _, _, rfl⟩
  case res => simp [results, Try.results85, go_sem]
set_option maxHeartbeats 400000 in
theorem toShade_any (h : Bool) (p f : Int) (b : Bool) (w : World) :
    Calls Try.prog 86 #[.agg #[.bool h, .int .i64 p, .int .i64 f, .bool b]] w fun e w' => e = .returned (.agg #[.bool h, .int .i64 p, .int .i64 f, .bool b]) ∧ ∃ o1 o2 o3, w' = ((w.alloc o1).alloc o2).alloc o3 := by
  go_enter Try.func86, Try.ntmps86
  go_wp2
  refine bodyPost_ret (v := .agg #[.bool h, .int .i64 p, .int .i64 f, .bool b]) ?res rfl ⟨rfl, _, _, _, rfl⟩
  case res => simp [results, Try.results86, go_sem]
theorem Ents.belowH {N : Nat} {w w' : World} {b o : Nat} {es : List E3} (h : Ents w b o es) (hb : Below N w w') (hN : b < N) : Ents w' b o es := fun i hi =>
  ⟨(hb.cell (p := ⟨b, o + i * 3, none⟩) hN).trans (h i hi).1, (hb.cell (p := ⟨b, o + i * 3 + 1, none⟩) hN).trans (h i hi).2.1, (hb.cell (p := ⟨b, o + i * 3 + 2, none⟩) hN).trans (h i hi).2.2⟩
theorem Quads.belowH {N : Nat} {w w' : World} {b o : Nat} {ss : List S4} (h : Quads w b o ss) (hb : Below N w w') (hN : b < N) : Quads w' b o ss := fun i hi =>
  ⟨(hb.cell (p := ⟨b, o + i * 4, none⟩) hN).trans (h i hi).1, (hb.cell (p := ⟨b, o + i * 4 + 1, none⟩) hN).trans (h i hi).2.1, (hb.cell (p := ⟨b, o + i * 4 + 2, none⟩) hN).trans (h i hi).2.2.1, (hb.cell (p := ⟨b, o + i * 4 + 3, none⟩) hN).trans (h i hi).2.2.2⟩

set_option maxHeartbeats 1000000 in
theorem toMapS_any (lo hi : Nat) (a : Option Addr) (len cap : Nat) (es : List E3) (w : World) (h : IsMaps w lo hi a len es) (hh : hi ≤ w.heap.size) (hn : len ≤ 1048576) :
    Calls Try.prog 79 #[.slice a len cap] w fun e w' => e = .returned (.slice (some ⟨w.heap.size, 0, none⟩) len len) ∧ Ents w' w.heap.size 0 es ∧ Room w' w.heap.size (len * 3) ∧ w.heap.size < w'.heap.size ∧ Below w.heap.size w w' := by
  obtain ⟨hl, hd⟩ := h
  have hmk := make_maps len hn
  go_enter Try.func79, Try.ntmps79
  go_wp2
  clear hmk
  go_loopw [4] (fun i wr => ∃ k : Nat, k ≤ len ∧ i = .int .i64 k ∧ Hid (Ents wr w.heap.size 0 (es.take k)) ∧ Hid (Room wr w.heap.size (len * 3)) ∧ w.heap.size < wr.heap.size ∧ Below w.heap.size w wr) (fun i _ => len - (intOf i).toNat)
  case atStart => exact ⟨0, Nat.zero_le _, rfl, fun i hi => by simp at hi, room_made _ _ _ _, by simp, (Below.refl _ _).alloc (Nat.le_refl _) _⟩
  case round =>
    obtain ⟨k, hk, rfl, hE, hR, hlt, hB⟩ := hrel
    by_cases hkl : k < len
    · rcases hd with h0 | ⟨b, o, rfl, _, hb2, hc⟩
      · omega
      have hb : b < w.heap.size := by omega
      obtain ⟨q0, q1, q2⟩ := hc k (by omega)
      generalize hG : es.getD k (false, 0, false) = ek at q0 q1 q2
      obtain ⟨eh, ep, eb⟩ := ek
      have c0 := (hB.cell (p := ⟨b, o + k * 3, none⟩) hb).trans q0
      have c1 := (hB.cell (p := ⟨b, o + k * 3 + 1, none⟩) hb).trans q1
      have c2 := (hB.cell (p := ⟨b, o + k * 3 + 2, none⟩) hb).trans q2
      have HG : Hid (es.getD k (false, 0, false) = (eh, ep, eb)) := hG
      clear hG q0 q1 q2
      obtain ⟨⟨u0, d0⟩, f0⟩ := hR.out (k * 3) (by omega)
      obtain ⟨⟨u1, d1⟩, f1⟩ := hR.out (k * 3 + 1) (by omega)
      obtain ⟨⟨u2, d2⟩, f2⟩ := hR.out (k * 3 + 2) (by omega)
      have hlt1 : w.heap.size < wr.heap.size + 1 := by omega
      have hlt2 : w.heap.size < wr.heap.size + 1 + 1 := by omega
      have hki : (k : Int) < (len : Int) := by omega
      go_wp2_with (go_at_call 85; refine (toMap_any _ _ _ _).mono ?_; rintro e w' ⟨rfl, o1, o2, o3, rfl⟩)
      go_roundw
      case rel =>
        have b3 : ∀ W : World, Below W.heap.size W (((W.alloc o1).alloc o2).alloc o3) := fun W => by
          (repeat' (with_reducible (first | exact Below.refl _ _ | apply Below.setCell | apply Below.alloc | apply below_drewN | apply Below.drew))) <;> (first | exact Nat.le_refl _ | (simp; done) | (simp; omega))
        have hs3 : w.heap.size < (((wr.setCell ⟨w.heap.size, k * 3, none⟩ (.bool eh)).setCell ⟨w.heap.size, k * 3 + 1, none⟩ (.int .i64 ep)).setCell ⟨w.heap.size, k * 3 + 2, none⟩ (.bool eb)).heap.size := by simpa using hlt
        refine ⟨k + 1, by omega, by go_num, (ents_put hR.out hE.out (by omega) (by omega) HG.out).belowH (b3 _) hs3, (((hR.out.put _).put _).put _).below (b3 _) hs3, by simp; omega, ?_⟩
        refine Below.trans ?_ ((b3 _).mono (Nat.le_of_lt hs3))
        exact ((hB.setCell (p := ⟨w.heap.size, k * 3, none⟩) (Nat.le_refl _) _).setCell (p := ⟨w.heap.size, k * 3 + 1, none⟩) (Nat.le_refl _) _).setCell (p := ⟨w.heap.size, k * 3 + 2, none⟩) (Nat.le_refl _) _
      case measure => simp [intOf]; omega
    · have HE : Hid (Ents wr w.heap.size 0 es) := by
        have := hE.out
        rwa [List.take_of_length_le (by omega)] at this
      clear hE
      go_wp2
      go_ret
      exact ⟨rfl, HE.out, hR.out, hlt, hB⟩

set_option maxHeartbeats 1000000 in
theorem toShadeS_any (lo hi : Nat) (a : Option Addr) (len cap : Nat) (ss : List S4) (w : World) (h : IsShades w lo hi a len ss) (hh : hi ≤ w.heap.size) (hn : len ≤ 1048576) :
    Calls Try.prog 80 #[.slice a len cap] w fun e w' => e = .returned (.slice (some ⟨w.heap.size, 0, none⟩) len len) ∧ Quads w' w.heap.size 0 ss ∧ Room w' w.heap.size (len * 4) ∧ w.heap.size < w'.heap.size ∧ Below w.heap.size w w' := by
  obtain ⟨hl, hd⟩ := h
  have hmk := make_shades len hn
  go_enter Try.func80, Try.ntmps80
  go_wp2
  clear hmk
  go_loopw [4] (fun i wr => ∃ k : Nat, k ≤ len ∧ i = .int .i64 k ∧ Hid (Quads wr w.heap.size 0 (ss.take k)) ∧ Hid (Room wr w.heap.size (len * 4)) ∧ w.heap.size < wr.heap.size ∧ Below w.heap.size w wr) (fun i _ => len - (intOf i).toNat)
  case atStart => exact ⟨0, Nat.zero_le _, rfl, fun i hi => by simp at hi, room_made _ _ _ _, by simp, (Below.refl _ _).alloc (Nat.le_refl _) _⟩
  case round =>
    obtain ⟨k, hk, rfl, hE, hR, hlt, hB⟩ := hrel
    by_cases hkl : k < len
    · rcases hd with h0 | ⟨b, o, rfl, _, hb2, hc⟩
      · omega
      have hb : b < w.heap.size := by omega
      obtain ⟨q0, q1, q2, q3⟩ := hc k (by omega)
      generalize hG : ss.getD k noS = ek at q0 q1 q2 q3
      obtain ⟨sh, sp, sf, sw⟩ := ek
      have c0 := (hB.cell (p := ⟨b, o + k * 4, none⟩) hb).trans q0
      have c1 := (hB.cell (p := ⟨b, o + k * 4 + 1, none⟩) hb).trans q1
      have c2 := (hB.cell (p := ⟨b, o + k * 4 + 2, none⟩) hb).trans q2
      have c3 := (hB.cell (p := ⟨b, o + k * 4 + 3, none⟩) hb).trans q3
      have HG : Hid (ss.getD k noS = (sh, sp, sf, sw)) := hG
      clear hG q0 q1 q2 q3
      obtain ⟨⟨u0, d0⟩, f0⟩ := hR.out (k * 4) (by omega)
      obtain ⟨⟨u1, d1⟩, f1⟩ := hR.out (k * 4 + 1) (by omega)
      obtain ⟨⟨u2, d2⟩, f2⟩ := hR.out (k * 4 + 2) (by omega)
      obtain ⟨⟨u3, d3⟩, f3⟩ := hR.out (k * 4 + 3) (by omega)
      have hlt1 : w.heap.size < wr.heap.size + 1 := by omega
      have hlt2 : w.heap.size < wr.heap.size + 1 + 1 := by omega
      have hki : (k : Int) < (len : Int) := by omega
      go_wp2_with (go_at_call 86; refine (toShade_any _ _ _ _ _).mono ?_; rintro e w' ⟨rfl, o1, o2, o3, rfl⟩)
      go_roundw
      case rel =>
        have b3 : ∀ W : World, Below W.heap.size W (((W.alloc o1).alloc o2).alloc o3) := fun W => by
          (repeat' (with_reducible (first | exact Below.refl _ _ | apply Below.setCell | apply Below.alloc | apply below_drewN | apply Below.drew))) <;> (first | exact Nat.le_refl _ | (simp; done) | (simp; omega))
        have hs3 : w.heap.size < ((((wr.setCell ⟨w.heap.size, k * 4, none⟩ (.bool sh)).setCell ⟨w.heap.size, k * 4 + 1, none⟩ (.int .i64 sp)).setCell ⟨w.heap.size, k * 4 + 2, none⟩ (.int .i64 sf)).setCell ⟨w.heap.size, k * 4 + 3, none⟩ (.bool sw)).heap.size := by simpa using hlt
        refine ⟨k + 1, by omega, by go_num, (quads_put hR.out hE.out (by omega) (by omega) HG.out).belowH (b3 _) hs3, ((((hR.out.put _).put _).put _).put _).below (b3 _) hs3, by simp; omega, ?_⟩
        refine Below.trans ?_ ((b3 _).mono (Nat.le_of_lt hs3))
        exact (((hB.setCell (p := ⟨w.heap.size, k * 4, none⟩) (Nat.le_refl _) _).setCell (p := ⟨w.heap.size, k * 4 + 1, none⟩) (Nat.le_refl _) _).setCell (p := ⟨w.heap.size, k * 4 + 2, none⟩) (Nat.le_refl _) _).setCell (p := ⟨w.heap.size, k * 4 + 3, none⟩) (Nat.le_refl _) _
      case measure => simp [intOf]; omega
    · have HE : Hid (Quads wr w.heap.size 0 ss) := by
        have := hE.out
        rwa [List.take_of_length_le (by omega)] at this
      clear hE
      go_wp2
      go_ret
      exact ⟨rfl, HE.out, hR.out, hlt, hB⟩
end Go.Proofs.Ytpaeigmdhmmjmaa
