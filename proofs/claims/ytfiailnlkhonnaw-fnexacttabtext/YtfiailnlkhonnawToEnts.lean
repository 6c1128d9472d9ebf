/-
  What the law's own copying and comparing of tables do.
-/
import Derived.Test.YtfiailnlkhonnawTabOk
import Derived.Deep.Slices
namespace Go.Proofs.Ytfiailnlkhonnaw
open Go.RowKit

/-- A table that came in: empty, or a row of entries in old memory. -/
def IsEnts (w : World) (a : Option Addr) (len : Nat) (es : List E3) : Prop :=
  es.length = len ∧ (len = 0 ∨ ∃ b o, a = some ⟨b, o, none⟩ ∧ b < w.heap.size ∧ Ents w b o es)

theorem Ents.below {N : Nat} {w w' : World} {b o : Nat} {es : List E3} (h : Ents w b o es) (hb : Below N w w') (hN : b < N) : Ents w' b o es := fun i hi =>
  ⟨(hb.cell (p := ⟨b, o + i * 3, none⟩) hN).trans (h i hi).1, (hb.cell (p := ⟨b, o + i * 3 + 1, none⟩) hN).trans (h i hi).2.1, (hb.cell (p := ⟨b, o + i * 3 + 2, none⟩) hN).trans (h i hi).2.2⟩
theorem IsEnts.below {w w' : World} {a : Option Addr} {len : Nat} {es : List E3} (h : IsEnts w a len es) (hb : Below w.heap.size w w') : IsEnts w' a len es := by
  obtain ⟨hl, h⟩ := h
  rcases h with h | ⟨b, o, rfl, hlt, h⟩
  · exact ⟨hl, Or.inl h⟩
  · exact ⟨hl, Or.inr ⟨b, o, rfl, Nat.lt_of_lt_of_le hlt hb.size, h.below hb hlt⟩⟩

/-- A block of so many cells, each of which may be written. -/
def Room (w : World) (b n : Nat) : Prop := ∀ j, j < n → (∃ v, w.cell? ⟨b, j, none⟩ = some v) ∧ w.frozen? ⟨b, j, none⟩ = false
theorem Room.below {N : Nat} {w w' : World} {b n : Nat} (h : Room w b n) (hb : Below N w w') (hN : b < N) : Room w' b n := fun j hj =>
  ⟨(h j hj).1.imp fun _ hv => (hb.cell (p := ⟨b, j, none⟩) hN).trans hv, (hb.frozen (p := ⟨b, j, none⟩) hN).trans (h j hj).2⟩

theorem cell_put {w : World} {b j i : Nat} {u v : Value} (h : w.cell? ⟨b, i, none⟩ = some v) : (w.setCell ⟨b, j, none⟩ u).cell? ⟨b, i, none⟩ = some (if i = j then u else v) := by
  by_cases e : i = j
  · subst e; go_simp
  · rw [if_neg e, ← h]; go_simp

theorem Room.put {w : World} {b n j : Nat} (h : Room w b n) (u : Value) : Room (w.setCell ⟨b, j, none⟩ u) b n := by
  intro i hi
  obtain ⟨⟨v, hv⟩, hf⟩ := h i hi
  exact ⟨⟨_, cell_put hv⟩, by rw [← hf]; go_simp⟩

theorem room_made (w : World) (z : Array Value) (n : Nat) (t : TypeId) : Room (w.alloc (.cells (madeCells z n) t)) w.heap.size n := by
  intro j hj
  have hs := size_madeCells z n
  refine ⟨⟨(madeCells z n)[j]'(by omega), ?_⟩, by simp⟩
  simp [hs, hj]
/-- One entry more is written. -/
theorem ents_put {w : World} {b n k : Nat} {es : List E3} (hR : Room w b n) (hE : Ents w b 0 (es.take k)) (hk : k < es.length) (hn : k * 3 + 2 < n) {eh : Bool} {ep : Int} {eb : Bool} (hg : es.getD k (false, 0, false) = (eh, ep, eb)) :
    Ents (((w.setCell ⟨b, k * 3, none⟩ (.bool eh)).setCell ⟨b, k * 3 + 1, none⟩ (.int .i64 ep)).setCell ⟨b, k * 3 + 2, none⟩ (.bool eb)) b 0 (es.take (k + 1)) := by
  have key : ∀ x v, w.cell? ⟨b, x, none⟩ = some v → (((w.setCell ⟨b, k * 3, none⟩ (.bool eh)).setCell ⟨b, k * 3 + 1, none⟩ (.int .i64 ep)).setCell ⟨b, k * 3 + 2, none⟩ (.bool eb)).cell? ⟨b, x, none⟩ =
      some (if x = k * 3 + 2 then .bool eb else if x = k * 3 + 1 then .int .i64 ep else if x = k * 3 then .bool eh else v) := fun x v hv => cell_put (cell_put (cell_put hv))
  intro i hi
  simp only [List.length_take] at hi
  simp only [Nat.zero_add]
  have hget : (es.take (k + 1)).getD i (false, 0, false) = es.getD i (false, 0, false) := by
    simp only [List.getD_eq_getElem?_getD]
    rw [List.getElem?_take_of_lt (by omega)]
  rw [hget]
  by_cases hik : i = k
  · subst hik
    rw [hg]
    obtain ⟨⟨u0, d0⟩, _⟩ := hR (i * 3) (by omega)
    obtain ⟨⟨u1, d1⟩, _⟩ := hR (i * 3 + 1) (by omega)
    obtain ⟨⟨u2, d2⟩, _⟩ := hR (i * 3 + 2) (by omega)
    refine ⟨(key _ _ d0).trans ?_, (key _ _ d1).trans ?_, (key _ _ d2).trans ?_⟩
    · rw [if_neg (by omega), if_neg (by omega), if_pos rfl]
    · rw [if_neg (by omega), if_pos rfl]
    · rw [if_pos rfl]
  · have hi' : i < (es.take k).length := by simp only [List.length_take]; omega
    obtain ⟨e0, e1, e2⟩ := hE i hi'
    simp only [Nat.zero_add] at e0 e1 e2
    have hget' : (es.take k).getD i (false, 0, false) = es.getD i (false, 0, false) := by
      simp only [List.getD_eq_getElem?_getD]
      rw [List.getElem?_take_of_lt (by omega)]
    rw [hget'] at e0 e1 e2
    refine ⟨(key _ _ e0).trans ?_, (key _ _ e1).trans ?_, (key _ _ e2).trans ?_⟩
    all_goals rw [if_neg (by omega), if_neg (by omega), if_neg (by omega)]

set_option maxHeartbeats 400000 in
theorem toEntry_any (h : Bool) (p : Int) (b : Bool) (w : World) :
    Calls Try.prog 28 #[.agg #[.bool h, .int .i64 p, .bool b]] w fun e w' => e = .returned (.agg #[.bool h, .int .i64 p, .bool b]) ∧ ∃ o1 o2 o3, w' = ((w.alloc o1).alloc o2).alloc o3 := by
  go_enter Try.func28, Try.ntmps28
  go_wp2
  refine bodyPost_ret (v := .agg #[.bool h, .int .i64 p, .bool b]) ?res rfl ⟨rfl, _, _, _, rfl⟩
  case res => simp [results, Try.results28, go_sem]

theorem infoE : (Try.prog.info? 23).map (fun i => (i.zero, i.size, i.bytes)) = some (some (.agg #[.bool false, .int .i64 0, .bool false]), 3, 24) := by kernel_rfl

/-- 'make' of a table. -/
theorem make_ents (n : Nat) (hn : n ≤ 1048576) (w : World) :
    (Instr.makeSlice 30 (.int .i64 n) (.int .i64 n)).run Try.prog w = .ok (.slice (some ⟨w.heap.size, 0, none⟩) n n) (w.alloc (.cells (madeCells #[.bool false, .int .i64 0, .bool false] (n * 3)) 23)) := by
  obtain ⟨i0, hi, hz0, hz1, hz2⟩ := info_parts infoE
  have h := run_make (P := Try.prog) w 30 23 i0 _ Try.underlying30 hi hz0 .i64 .i64 n n (by omega) (by omega) (by rw [hz2]; omega) (by omega)
  rw [hz1] at h
  simpa [Value.cells] using h

set_option maxHeartbeats 1000000 in
theorem toEntryS_any (a : Option Addr) (len cap : Nat) (es : List E3) (w : World) (h : IsEnts w a len es) (hn : len ≤ 1048576) :
    Calls Try.prog 13 #[.slice a len cap] w fun e w' => e = .returned (.slice (some ⟨w.heap.size, 0, none⟩) len len) ∧ Ents w' w.heap.size 0 es ∧ w.heap.size < w'.heap.size ∧ Below w.heap.size w w' := by
  obtain ⟨hl, hd⟩ := h
  have hmk := make_ents len hn
  go_enter Try.func13, Try.ntmps13
  go_wp2
  clear hmk
  go_loopw [4] (fun i wr => ∃ k : Nat, k ≤ len ∧ i = .int .i64 k ∧ Hid (Ents wr w.heap.size 0 (es.take k)) ∧ Hid (Room wr w.heap.size (len * 3)) ∧ w.heap.size < wr.heap.size ∧ Below w.heap.size w wr) (fun i _ => len - (intOf i).toNat)
  case atStart => exact ⟨0, Nat.zero_le _, rfl, fun i hi => by simp at hi, room_made _ _ _ _, by simp, (Below.refl _ _).alloc (Nat.le_refl _) _⟩
  case round =>
    obtain ⟨k, hk, rfl, hE, hR, hlt, hB⟩ := hrel
    by_cases hkl : k < len
    · rcases hd with h0 | ⟨b, o, rfl, hb, hc⟩
      · omega
      obtain ⟨q0, q1, q2⟩ := hc k (by omega)
      generalize hG : es.getD k (false, 0, false) = ek at q0 q1 q2
      obtain ⟨eh, ep, eb⟩ := ek
      have c0 := (hB.cell (p := ⟨b, o + k * 3, none⟩) hb).trans q0
      have c1 := (hB.cell (p := ⟨b, o + k * 3 + 1, none⟩) hb).trans q1
      have c2 := (hB.cell (p := ⟨b, o + k * 3 + 2, none⟩) hb).trans q2
      have HG : Hid (es.getD k (false, 0, false) = (eh, ep, eb)) := hG
      clear hG q0 q1 q2
      obtain ⟨⟨u0, d0⟩, f0⟩ := hR.out (k * 3) (by omega)
      obtain ⟨⟨u1, d1⟩, f1⟩ := hR.out (k * 3 + 1) (by omega)
      obtain ⟨⟨u2, d2⟩, f2⟩ := hR.out (k * 3 + 2) (by omega)
      have hlt1 : w.heap.size < wr.heap.size + 1 := by omega
      have hlt2 : w.heap.size < wr.heap.size + 1 + 1 := by omega
      go_wp2_with (go_at_call 28; refine (toEntry_any _ _ _ _).mono ?_; rintro e w' ⟨rfl, o1, o2, o3, rfl⟩)
      go_roundw
      case rel =>
        have b3 : ∀ W : World, Below W.heap.size W (((W.alloc o1).alloc o2).alloc o3) := fun W => by
          (repeat' (with_reducible (first | exact Below.refl _ _ | apply Below.setCell | apply Below.alloc | apply below_drewN | apply Below.drew))) <;> (first | exact Nat.le_refl _ | (simp; done) | (simp; omega))
        have hs3 : w.heap.size < (((wr.setCell ⟨w.heap.size, k * 3, none⟩ (.bool eh)).setCell ⟨w.heap.size, k * 3 + 1, none⟩ (.int .i64 ep)).setCell ⟨w.heap.size, k * 3 + 2, none⟩ (.bool eb)).heap.size := by simpa using hlt
        refine ⟨k + 1, by omega, by go_num, (ents_put hR.out hE.out (by omega) (by omega) HG.out).below (b3 _) hs3, (((hR.out.put _).put _).put _).below (b3 _) hs3, by simp; omega, ?_⟩
        refine Below.trans ?_ ((b3 _).mono (Nat.le_of_lt hs3))
        exact ((hB.setCell (p := ⟨w.heap.size, k * 3, none⟩) (Nat.le_refl _) _).setCell (p := ⟨w.heap.size, k * 3 + 1, none⟩) (Nat.le_refl _) _).setCell (p := ⟨w.heap.size, k * 3 + 2, none⟩) (Nat.le_refl _) _
      case measure => simp [intOf]; omega
    · have hkk : k = len := by omega
      have HE : Hid (Ents wr w.heap.size 0 es) := by
        have := hE.out
        rwa [List.take_of_length_le (by omega)] at this
      clear hE hR
      go_wp2
      go_ret
      exact ⟨rfl, HE.out, hlt, hB⟩

end Go.Proofs.Ytfiailnlkhonnaw
