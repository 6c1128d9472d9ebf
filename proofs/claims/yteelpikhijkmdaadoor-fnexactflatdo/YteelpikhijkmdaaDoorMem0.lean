/-
  Memory as it lies: rows of words, pages of them; what is kept of them, and what of them is a call's own.
-/
import Derived.Test.YteelpikhijkmdaaDoorEnts0
namespace Go.Proofs.YteelpikhijkmdaaDoor
open Go.RowKit

/-- Words from a place of a block on. -/
def Ints (w : World) (b o : Nat) (zs : List Int) : Prop := ∀ i, i < zs.length → w.cell? ⟨b, o + i, none⟩ = some (.int .i64 (zs.getD i 0))

/-- A list of words, all of it between two blocks. -/
def IsInts (w : World) (lo hi : Nat) (a : Option Addr) (len : Nat) (zs : List Int) : Prop :=
  zs.length = len ∧ (len = 0 ∨ ∃ b o, a = some ⟨b, o, none⟩ ∧ lo ≤ b ∧ b < hi ∧ Ints w b o zs)

/-- A list of lists of words, all of it between two blocks. -/
def IsMem (w : World) (lo hi : Nat) (a : Option Addr) (len : Nat) (ms : List (List Int)) : Prop :=
  ms.length = len ∧ (len = 0 ∨ ∃ b o, a = some ⟨b, o, none⟩ ∧ lo ≤ b ∧ b < hi ∧ ∀ i, i < len → ∃ a' l c, w.cell? ⟨b, o + i, none⟩ = some (.slice a' l c) ∧ IsInts w lo hi a' l (ms.getD i []))

/-- Of a row of pages the first ones are there, each in a block of its own. -/
def OwnUpto (w : World) (T lo hi k : Nat) (ms : List (List Int)) : Prop :=
  ∃ bs : Nat → Nat, (∀ i j, i < j → j < k → bs i < bs j) ∧ ∀ i, i < k → lo ≤ bs i ∧ bs i < hi ∧ bs i ≠ T ∧
    (∃ c, w.cell? ⟨T, i, none⟩ = some (.slice (some ⟨bs i, 0, none⟩) (ms.getD i []).length c)) ∧ w.frozen? ⟨T, i, none⟩ = false ∧
    Ints w (bs i) 0 (ms.getD i []) ∧ ∀ j, j < (ms.getD i []).length → w.frozen? ⟨bs i, j, none⟩ = false

/-- Memory that is a call's own: each page has a block of its own. -/
def OwnMem (w : World) (lo hi : Nat) (a : Option Addr) (len : Nat) (ms : List (List Int)) : Prop :=
  ms.length = len ∧ (len = 0 ∨ ∃ T, a = some ⟨T, 0, none⟩ ∧ lo ≤ T ∧ T < hi ∧ OwnUpto w T lo hi len ms)

/-- All blocks but those between two are as they were. -/
structure Amid (lo hi : Nat) (w w' : World) : Prop where
  os : w'.os = w.os
  tape : w'.tape = w.tape
  output : w'.output = w.output
  size : w'.heap.size = w.heap.size
  block : ∀ k, k < lo ∨ hi ≤ k → w'.heap[k]? = w.heap[k]?

theorem Amid.refl (lo hi : Nat) (w : World) : Amid lo hi w w := ⟨rfl, rfl, rfl, rfl, fun _ _ => rfl⟩
theorem Amid.trans {lo hi : Nat} {a b c : World} (h : Amid lo hi a b) (g : Amid lo hi b c) : Amid lo hi a c :=
  ⟨g.os.trans h.os, g.tape.trans h.tape, g.output.trans h.output, g.size.trans h.size, fun k hk => (g.block k hk).trans (h.block k hk)⟩
theorem Amid.put {lo hi : Nat} {w w' : World} (h : Amid lo hi w w') {b : Nat} (hl : lo ≤ b) (hh : b < hi) (j : Nat) (u : Value) : Amid lo hi w (w'.setCell ⟨b, j, none⟩ u) :=
  ⟨h.os, h.tape, h.output, by simpa [World.setCell] using h.size, fun k hk => (Below.heap_setCell _ _ _ _ (by simp; omega)).trans (h.block k hk)⟩
theorem Amid.below {lo hi B : Nat} {w w' : World} (h : Amid lo hi w w') (hB : B ≤ lo) : Below B w w' := ⟨h.os, h.tape, h.output, Nat.le_of_eq h.size.symm, fun k hk => h.block k (by omega)⟩

/-- What is the same in all blocks between two. -/
def SameIn (lo hi : Nat) (w w' : World) : Prop := ∀ k, lo ≤ k → k < hi → w'.heap[k]? = w.heap[k]?
theorem below_sameIn {N lo hi : Nat} {w w' : World} (h : Below N w w') (hh : hi ≤ N) : SameIn lo hi w w' := fun k _ hk => h.block k (by omega)
theorem Amid.same {lo' hi' lo hi : Nat} {w w' : World} (h : Amid lo' hi' w w') (hh : hi ≤ lo' ∨ hi' ≤ lo) : SameIn lo hi w w' := fun k h1 h2 => h.block k (by omega)
theorem SameIn.cell {lo hi : Nat} {w w' : World} (h : SameIn lo hi w w') {b o : Nat} (hl : lo ≤ b) (hh : b < hi) : w'.cell? ⟨b, o, none⟩ = w.cell? ⟨b, o, none⟩ := World.cell?_of_block (a := ⟨b, o, none⟩) (h b hl hh)
theorem SameIn.frozen {lo hi : Nat} {w w' : World} (h : SameIn lo hi w w') {b o : Nat} (hl : lo ≤ b) (hh : b < hi) : w'.frozen? ⟨b, o, none⟩ = w.frozen? ⟨b, o, none⟩ := World.frozen?_of_block (a := ⟨b, o, none⟩) (h b hl hh)

theorem Ints.same {lo hi : Nat} {w w' : World} (s : SameIn lo hi w w') {b o : Nat} {zs : List Int} (h : Ints w b o zs) (hl : lo ≤ b) (hh : b < hi) : Ints w' b o zs := fun i hi => (s.cell hl hh).trans (h i hi)
theorem Ints.below {N : Nat} {w w' : World} {b o : Nat} {zs : List Int} (h : Ints w b o zs) (hb : Below N w w') (hN : b < N) : Ints w' b o zs := fun i hi => (hb.cell (p := ⟨b, o + i, none⟩) hN).trans (h i hi)
theorem IsInts.same {lo hi : Nat} {w w' : World} (s : SameIn lo hi w w') {a : Option Addr} {len : Nat} {zs : List Int} (h : IsInts w lo hi a len zs) : IsInts w' lo hi a len zs := by
  obtain ⟨hl, h⟩ := h
  rcases h with h | ⟨b, o, rfl, h1, h2, h⟩
  · exact ⟨hl, Or.inl h⟩
  · exact ⟨hl, Or.inr ⟨b, o, rfl, h1, h2, h.same s h1 h2⟩⟩
theorem IsInts.wide {lo hi lo' hi' : Nat} {w : World} {a : Option Addr} {len : Nat} {zs : List Int} (h : IsInts w lo hi a len zs) (h1 : lo' ≤ lo) (h2 : hi ≤ hi') : IsInts w lo' hi' a len zs := by
  obtain ⟨hl, h⟩ := h
  rcases h with h | ⟨b, o, rfl, g1, g2, h⟩
  · exact ⟨hl, Or.inl h⟩
  · exact ⟨hl, Or.inr ⟨b, o, rfl, by omega, by omega, h⟩⟩
theorem IsMem.same {lo hi : Nat} {w w' : World} (s : SameIn lo hi w w') {a : Option Addr} {len : Nat} {ms : List (List Int)} (h : IsMem w lo hi a len ms) : IsMem w' lo hi a len ms := by
  obtain ⟨hl, h⟩ := h
  rcases h with h | ⟨b, o, rfl, h1, h2, h⟩
  · exact ⟨hl, Or.inl h⟩
  · refine ⟨hl, Or.inr ⟨b, o, rfl, h1, h2, fun i hi => ?_⟩⟩
    obtain ⟨a', l, c, hc, hI⟩ := h i hi
    exact ⟨a', l, c, (s.cell h1 h2).trans hc, hI.same s⟩
theorem IsMem.wide {lo hi lo' hi' : Nat} {w : World} {a : Option Addr} {len : Nat} {ms : List (List Int)} (h : IsMem w lo hi a len ms) (h1 : lo' ≤ lo) (h2 : hi ≤ hi') : IsMem w lo' hi' a len ms := by
  obtain ⟨hl, h⟩ := h
  rcases h with h | ⟨b, o, rfl, g1, g2, h⟩
  · exact ⟨hl, Or.inl h⟩
  · refine ⟨hl, Or.inr ⟨b, o, rfl, by omega, by omega, fun i hi => ?_⟩⟩
    obtain ⟨a', l, c, hc, hI⟩ := h i hi
    exact ⟨a', l, c, hc, hI.wide h1 h2⟩
theorem OwnUpto.same {lo hi : Nat} {w w' : World} (s : SameIn lo hi w w') {T k : Nat} {ms : List (List Int)} (h : OwnUpto w T lo hi k ms) (h1 : lo ≤ T) (h2 : T < hi) : OwnUpto w' T lo hi k ms := by
  obtain ⟨bs, hm, h⟩ := h
  refine ⟨bs, hm, fun i hi => ?_⟩
  obtain ⟨g1, g2, g3, ⟨c, g4⟩, g5, g6, g7⟩ := h i hi
  exact ⟨g1, g2, g3, ⟨c, (s.cell h1 h2).trans g4⟩, (s.frozen h1 h2).trans g5, g6.same s g1 g2, fun j hj => (s.frozen g1 g2).trans (g7 j hj)⟩
theorem OwnMem.same {lo hi : Nat} {w w' : World} (s : SameIn lo hi w w') {a : Option Addr} {len : Nat} {ms : List (List Int)} (h : OwnMem w lo hi a len ms) : OwnMem w' lo hi a len ms := by
  obtain ⟨hl, h⟩ := h
  rcases h with h | ⟨T, rfl, h1, h2, h⟩
  · exact ⟨hl, Or.inl h⟩
  · exact ⟨hl, Or.inr ⟨T, rfl, h1, h2, h.same s h1 h2⟩⟩
theorem OwnMem.wide {lo hi lo' hi' : Nat} {w : World} {a : Option Addr} {len : Nat} {ms : List (List Int)} (h : OwnMem w lo hi a len ms) (h1 : lo' ≤ lo) (h2 : hi ≤ hi') : OwnMem w lo' hi' a len ms := by
  obtain ⟨hl, h⟩ := h
  rcases h with h | ⟨T, rfl, g1, g2, bs, hm, h⟩
  · exact ⟨hl, Or.inl h⟩
  · refine ⟨hl, Or.inr ⟨T, rfl, by omega, by omega, bs, hm, fun i hi => ?_⟩⟩
    obtain ⟨k1, k2, k3⟩ := h i hi
    exact ⟨by omega, by omega, k3⟩
theorem OwnMem.mem {lo hi : Nat} {w : World} {a : Option Addr} {len : Nat} {ms : List (List Int)} (h : OwnMem w lo hi a len ms) : IsMem w lo hi a len ms := by
  obtain ⟨hl, h⟩ := h
  rcases h with h | ⟨T, rfl, h1, h2, bs, _, h⟩
  · exact ⟨hl, Or.inl h⟩
  · refine ⟨hl, Or.inr ⟨T, 0, rfl, h1, h2, fun i hi => ?_⟩⟩
    obtain ⟨g1, g2, _, ⟨c, g4⟩, _, g6, _⟩ := h i hi
    exact ⟨_, _, c, by simpa using g4, rfl, Or.inr ⟨_, 0, rfl, g1, g2, g6⟩⟩

theorem cell_off {w : World} {b b' j i : Nat} {u : Value} (h : b' ≠ b) : (w.setCell ⟨b, j, none⟩ u).cell? ⟨b', i, none⟩ = w.cell? ⟨b', i, none⟩ :=
  World.cell?_of_block (a := ⟨b', i, none⟩) (Below.heap_setCell _ _ _ _ (by simpa using h))
theorem frozen_put {w : World} {b b' j i : Nat} {u : Value} : (w.setCell ⟨b, j, none⟩ u).frozen? ⟨b', i, none⟩ = w.frozen? ⟨b', i, none⟩ := by go_simp

/-- One page more. -/
theorem OwnUpto.step {w w' : World} {T lo hi k p l c : Nat} {ms : List (List Int)} (h : OwnUpto w T lo hi k ms) (s : SameIn lo hi w w') (hT1 : lo ≤ T) (hT2 : T < hi)
    (hp : hi ≤ p) {hi' : Nat} (hp' : p < hi') (hl : (ms.getD k []).length = l) (hI : Ints w' p 0 (ms.getD k [])) (hF : ∀ j, j < l → w'.frozen? ⟨p, j, none⟩ = false)
    {v : Value} (hv : w.cell? ⟨T, k, none⟩ = some v) (hf : w.frozen? ⟨T, k, none⟩ = false) :
    OwnUpto (w'.setCell ⟨T, k, none⟩ (.slice (some ⟨p, 0, none⟩) l c)) T lo hi' (k + 1) ms := by
  obtain ⟨bs, hm, h⟩ := h
  have hv' : w'.cell? ⟨T, k, none⟩ = some v := (s.cell hT1 hT2).trans hv
  have hf' : w'.frozen? ⟨T, k, none⟩ = false := (s.frozen hT1 hT2).trans hf
  obtain ⟨bs', e1, e2⟩ : ∃ bs' : Nat → Nat, bs' k = p ∧ ∀ i, i ≠ k → bs' i = bs i := ⟨fun i => if i = k then p else bs i, by simp, fun i h => by simp [h]⟩
  refine ⟨bs', fun i j hij hj => ?_, fun i hik1 => ?_⟩
  · rw [e2 i (by omega)]
    by_cases hjk : j = k
    · rw [hjk, e1]
      have := (h i (by omega)).2.1
      omega
    · rw [e2 j hjk]
      exact hm i j hij (by omega)
  · by_cases hik : i = k
    · subst hik
      rw [e1]
      refine ⟨by omega, hp', by omega, ⟨c, ?_⟩, ?_, fun j hj => ?_, fun j hj => ?_⟩
      · rw [cell_put hv', if_pos rfl, hl]
      · rw [frozen_put]; exact hf'
      · rw [cell_off (by omega)]; exact hI j hj
      · rw [frozen_put]; exact hF j (by omega)
    · obtain ⟨g1, g2, g3, ⟨c', g4⟩, g5, g6, g7⟩ := h i (by omega)
      rw [e2 i hik]
      refine ⟨g1, by omega, g3, ⟨c', ?_⟩, ?_, fun j hj => ?_, fun j hj => ?_⟩
      · rw [cell_put ((s.cell hT1 hT2).trans g4), if_neg hik]
      · rw [frozen_put]; exact (s.frozen hT1 hT2).trans g5
      · rw [cell_off g3, s.cell g1 g2]; exact g6 j hj
      · rw [frozen_put, s.frozen g1 g2]; exact g7 j hj

/-- One word more is written. -/
theorem ints_put {w : World} {b n k : Nat} {zs : List Int} (hR : Room w b n) (hE : Ints w b 0 (zs.take k)) (hk : k < zs.length) (hn : k < n) {z : Int} (hg : zs.getD k 0 = z) :
    Ints (w.setCell ⟨b, k, none⟩ (.int .i64 z)) b 0 (zs.take (k + 1)) := by
  intro i hi
  simp only [List.length_take] at hi
  simp only [Nat.zero_add]
  have hget : (zs.take (k + 1)).getD i 0 = zs.getD i 0 := by
    simp only [List.getD_eq_getElem?_getD]
    rw [List.getElem?_take_of_lt (by omega)]
  rw [hget]
  by_cases hik : i = k
  · subst hik
    obtain ⟨⟨u0, d0⟩, _⟩ := hR i hn
    rw [cell_put d0, if_pos rfl, hg]
  · have hi' : i < (zs.take k).length := by simp only [List.length_take]; omega
    have e0 := hE i hi'
    simp only [Nat.zero_add] at e0
    have hget' : (zs.take k).getD i 0 = zs.getD i 0 := by
      simp only [List.getD_eq_getElem?_getD]
      rw [List.getElem?_take_of_lt (by omega)]
    rw [hget'] at e0
    rw [cell_put e0, if_neg hik]

/-- A word in the place of another. -/
theorem ints_set {w : World} {b o k : Nat} {zs : List Int} (hE : Ints w b o zs) (z : Int) :
    Ints (w.setCell ⟨b, o + k, none⟩ (.int .i64 z)) b o (zs.set k z) := by
  intro i hi
  simp only [List.length_set] at hi
  rw [cell_put (hE i hi)]
  by_cases hik : i = k
  · subst hik
    rw [if_pos rfl, List.getD_eq_getElem?_getD, List.getElem?_set_self hi]; rfl
  · rw [if_neg (by omega), List.getD_eq_getElem?_getD, List.getD_eq_getElem?_getD, List.getElem?_set_ne (by omega)]

theorem getD_lt {α : Type} {l : List α} {k : Nat} {d : α} (h : k < l.length) : l.getD k d = l[k] := by rw [List.getD_eq_getElem?_getD, List.getElem?_eq_getElem h]; rfl

/-- Whether a word is one; whether a page is; whether memory is. -/
def okZ (z : Int) : Bool := decide (0 ≤ z) && decide (z ≤ 63)
def okP (zs : List Int) : Bool := zs.all okZ && (zs.length == 4)
def okM (ms : List (List Int)) : Bool := ms.all okP
theorem all_no {α : Type} {f : α → Bool} {es : List α} {k : Nat} (h : k < es.length) (hf : f es[k] = false) : es.all f = false := by
  rw [List.all_eq_false]
  exact ⟨es[k], List.getElem_mem h, by simp [hf]⟩
theorem all_more {α : Type} {f : α → Bool} {es : List α} {k : Nat} (h : k < es.length) (ha : (es.take k).all f = true) (hf : f es[k] = true) : (es.take (k + 1)).all f = true := by
  rw [List.take_succ_eq_append_getElem h, List.all_append, ha]
  simp [hf]
theorem okM_get {ms : List (List Int)} (h : okM ms = true) {k : Nat} (hk : k < ms.length) : (ms.getD k []).length = 4 ∧ ∀ j, j < 4 → 0 ≤ (ms.getD k []).getD j 0 ∧ (ms.getD k []).getD j 0 ≤ 63 := by
  unfold okM at h
  rw [List.all_eq_true] at h
  have h1 := h _ (List.getElem_mem hk)
  rw [getD_lt hk]
  simp only [okP, Bool.and_eq_true, beq_iff_eq, List.all_eq_true] at h1
  refine ⟨h1.2, fun j hj => ?_⟩
  have h2 := h1.1 _ (List.getElem_mem (show j < ms[k].length by omega))
  rw [getD_lt (by omega)]
  simpa [okZ] using h2
/-- A page's four words. -/
theorem four {zs : List Int} (h : zs.length = 4) : zs = [zs.getD 0 0, zs.getD 1 0, zs.getD 2 0, zs.getD 3 0] := by
  match zs, h with
  | [_, _, _, _], _ => rfl
theorem okP_four {zs : List Int} (h : okP zs = true) : zs = [zs.getD 0 0, zs.getD 1 0, zs.getD 2 0, zs.getD 3 0] := four (by simp [okP] at h; exact h.2)

end Go.Proofs.YteelpikhijkmdaaDoor
