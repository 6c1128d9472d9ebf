/-
  Tables in memory: what is kept of them, and how they are written entry by entry.
-/
import Derived.Test.YteelpikhijkmdaaDoorTabOk
import Derived.Deep.Slices
namespace Go.Proofs.YteelpikhijkmdaaDoor
open Go.RowKit

/-- A table that came in: empty, or a row of entries in old memory. -/
def IsEnts (w : World) (a : Option Addr) (len : Nat) (es : List E3) : Prop :=
  es.length = len ∧ (len = 0 ∨ ∃ b o, a = some ⟨b, o, none⟩ ∧ b < w.heap.size ∧ Ents w b o es)

theorem Ents.below {N : Nat} {w w' : World} {b o : Nat} {es : List E3} (h : Ents w b o es) (hb : Below N w w') (hN : b < N) : Ents w' b o es := fun i hi =>
  ⟨(hb.cell (p := ⟨b, o + i * 3, none⟩) hN).trans (h i hi).1, (hb.cell (p := ⟨b, o + i * 3 + 1, none⟩) hN).trans (h i hi).2.1, (hb.cell (p := ⟨b, o + i * 3 + 2, none⟩) hN).trans (h i hi).2.2⟩
theorem IsEnts.below {w w' : World} {a : Option Addr} {len : Nat} {es : List E3} (h : IsEnts w a len es) (hb : Below w.heap.size w w') : IsEnts w' a len es := by
  obtain ⟨hl, h⟩ := h
  rcases h with h | ⟨b, o, rfl, hlt, h⟩
  · exact ⟨hl, Or.inl h⟩
  · exact ⟨hl, Or.inr ⟨b, o, rfl, Nat.lt_of_lt_of_le hlt hb.size, h.below hb hlt⟩⟩

/-- A block of so many cells, each of which may be written. -/
def Room (w : World) (b n : Nat) : Prop := ∀ j, j < n → (∃ v, w.cell? ⟨b, j, none⟩ = some v) ∧ w.frozen? ⟨b, j, none⟩ = false
theorem Room.below {N : Nat} {w w' : World} {b n : Nat} (h : Room w b n) (hb : Below N w w') (hN : b < N) : Room w' b n := fun j hj =>
  ⟨(h j hj).1.imp fun _ hv => (hb.cell (p := ⟨b, j, none⟩) hN).trans hv, (hb.frozen (p := ⟨b, j, none⟩) hN).trans (h j hj).2⟩

theorem cell_put {w : World} {b j i : Nat} {u v : Value} (h : w.cell? ⟨b, i, none⟩ = some v) : (w.setCell ⟨b, j, none⟩ u).cell? ⟨b, i, none⟩ = some (if i = j then u else v) := by
  by_cases e : i = j
  · subst e; go_simp
  · rw [if_neg e, ← h]; go_simp

theorem Room.put {w : World} {b n j : Nat} (h : Room w b n) (u : Value) : Room (w.setCell ⟨b, j, none⟩ u) b n := by
  intro i hi
  obtain ⟨⟨v, hv⟩, hf⟩ := h i hi
  exact ⟨⟨_, cell_put hv⟩, by rw [← hf]; go_simp⟩

theorem room_made (w : World) (z : Array Value) (n : Nat) (t : TypeId) : Room (w.alloc (.cells (madeCells z n) t)) w.heap.size n := by
  intro j hj
  have hs := size_madeCells z n
  refine ⟨⟨(madeCells z n)[j]'(by omega), ?_⟩, by simp⟩
  simp [hs, hj]
/-- One entry more is written. -/
theorem ents_put {w : World} {b n k : Nat} {es : List E3} (hR : Room w b n) (hE : Ents w b 0 (es.take k)) (hk : k < es.length) (hn : k * 3 + 2 < n) {eh : Bool} {ep : Int} {eb : Bool} (hg : es.getD k (false, 0, false) = (eh, ep, eb)) :
    Ents (((w.setCell ⟨b, k * 3, none⟩ (.bool eh)).setCell ⟨b, k * 3 + 1, none⟩ (.int .i64 ep)).setCell ⟨b, k * 3 + 2, none⟩ (.bool eb)) b 0 (es.take (k + 1)) := by
  have key : ∀ x v, w.cell? ⟨b, x, none⟩ = some v → (((w.setCell ⟨b, k * 3, none⟩ (.bool eh)).setCell ⟨b, k * 3 + 1, none⟩ (.int .i64 ep)).setCell ⟨b, k * 3 + 2, none⟩ (.bool eb)).cell? ⟨b, x, none⟩ =
      some (if x = k * 3 + 2 then .bool eb else if x = k * 3 + 1 then .int .i64 ep else if x = k * 3 then .bool eh else v) := fun x v hv => cell_put (cell_put (cell_put hv))
  intro i hi
  simp only [List.length_take] at hi
  simp only [Nat.zero_add]
  have hget : (es.take (k + 1)).getD i (false, 0, false) = es.getD i (false, 0, false) := by
    simp only [List.getD_eq_getElem?_getD]
    rw [List.getElem?_take_of_lt (by omega)]
  rw [hget]
  by_cases hik : i = k
  · subst hik
    rw [hg]
    obtain ⟨⟨u0, d0⟩, _⟩ := hR (i * 3) (by omega)
    obtain ⟨⟨u1, d1⟩, _⟩ := hR (i * 3 + 1) (by omega)
    obtain ⟨⟨u2, d2⟩, _⟩ := hR (i * 3 + 2) (by omega)
    refine ⟨(key _ _ d0).trans ?_, (key _ _ d1).trans ?_, (key _ _ d2).trans ?_⟩
    · rw [if_neg (by omega), if_neg (by omega), if_pos rfl]
    · rw [if_neg (by omega), if_pos rfl]
    · rw [if_pos rfl]
  · have hi' : i < (es.take k).length := by simp only [List.length_take]; omega
    obtain ⟨e0, e1, e2⟩ := hE i hi'
    simp only [Nat.zero_add] at e0 e1 e2
    have hget' : (es.take k).getD i (false, 0, false) = es.getD i (false, 0, false) := by
      simp only [List.getD_eq_getElem?_getD]
      rw [List.getElem?_take_of_lt (by omega)]
    rw [hget'] at e0 e1 e2
    refine ⟨(key _ _ e0).trans ?_, (key _ _ e1).trans ?_, (key _ _ e2).trans ?_⟩
    all_goals rw [if_neg (by omega), if_neg (by omega), if_neg (by omega)]

theorem infoE : (Tryd.prog.info? 117).map (fun i => (i.zero, i.size, i.bytes)) = some (some (.agg #[.bool false, .int .i64 0, .bool false]), 3, 24) := by kernel_rfl

/-- 'make' of a table. -/
theorem make_ents (n : Nat) (hn : n ≤ 1048576) (w : World) :
    (Instr.makeSlice 145 (.int .i64 n) (.int .i64 n)).run Tryd.prog w = .ok (.slice (some ⟨w.heap.size, 0, none⟩) n n) (w.alloc (.cells (madeCells #[.bool false, .int .i64 0, .bool false] (n * 3)) 117)) := by
  obtain ⟨i0, hi, hz0, hz1, hz2⟩ := info_parts infoE
  have h := run_make (P := Tryd.prog) w 145 117 i0 _ Tryd.underlying145 hi hz0 .i64 .i64 n n (by omega) (by omega) (by rw [hz2]; omega) (by omega)
  rw [hz1] at h
  simpa [Value.cells] using h

theorem keep6 {N : Nat} {W w1 : World} (h : Below N W w1) (b : Nat) (hN : b < N) (hs : b < W.heap.size) :
    (w1.cell? ⟨b, 0, none⟩ = W.cell? ⟨b, 0, none⟩ ∧ w1.cell? ⟨b, 1, none⟩ = W.cell? ⟨b, 1, none⟩ ∧ w1.cell? ⟨b, 2, none⟩ = W.cell? ⟨b, 2, none⟩) ∧
    (w1.frozen? ⟨b, 0, none⟩ = W.frozen? ⟨b, 0, none⟩ ∧ w1.frozen? ⟨b, 1, none⟩ = W.frozen? ⟨b, 1, none⟩ ∧ w1.frozen? ⟨b, 2, none⟩ = W.frozen? ⟨b, 2, none⟩) ∧ b < w1.heap.size :=
  ⟨⟨h.cell (p := ⟨b, 0, none⟩) hN, h.cell (p := ⟨b, 1, none⟩) hN, h.cell (p := ⟨b, 2, none⟩) hN⟩,
   ⟨h.frozen (p := ⟨b, 0, none⟩) hN, h.frozen (p := ⟨b, 1, none⟩) hN, h.frozen (p := ⟨b, 2, none⟩) hN⟩, Nat.lt_of_lt_of_le hs h.size⟩

theorem implTabOk (b o len cap : Nat) (es : List E3) (w : World) (hl : es.length = len) (hb : b < w.heap.size) (hc : Ents w b o es) :
    Calls Tryd.prog 97 #[.slice (some ⟨b, o, none⟩) len cap] w fun e w' => e = .returned (.bool (es.all okE && ((len : Int) == 6))) ∧ Below w.heap.size w w' := by
  cases h6 : ((len : Int) == 6)
  · refine (implTabOk_len _ len cap w h6).mono ?_
    rintro e w' ⟨rfl, rfl⟩
    exact ⟨by simp, Below.refl _ _⟩
  · have h6' : len = 6 := by simp at h6; omega
    subst h6'
    refine (implTabOk_six b o cap es w hl hb hc).mono ?_
    rintro e w' ⟨rfl, hb⟩
    exact ⟨by simp, hb⟩

end Go.Proofs.YteelpikhijkmdaaDoor
