/-
  What the drawing of memory gives, whatever the bytes are: some pages of some words in new memory.
-/
import Derived.Test.YtdamdjhnhkmncaaKC
import Derived.Test.YtdamdjhnhkmncaaKPick0
namespace Go.Proofs.Ytdamdjhnhkmncaa
open Go.RowKit

theorem adv_same {rb lo hi : Nat} {w w' : World} (h : Adv rb w w') (hr : rb < lo) (hh : hi ≤ w.heap.size) : SameIn lo hi w w' := fun k h1 h2 => h.block k (by omega) (by omega)

/-- Pages of words that may be written, whatever they are. -/
def MemShape (w : World) (lo hi m T o n : Nat) : Prop :=
  lo ≤ T ∧ T < hi ∧ ∀ i, i < n → ∃ p l c, m ≤ l ∧ l ≤ 4 ∧ lo ≤ p ∧ p < hi ∧ p ≠ T ∧ w.cell? ⟨T, o + i, none⟩ = some (.slice (some ⟨p, 0, none⟩) l c) ∧ w.frozen? ⟨T, o + i, none⟩ = false ∧
    ∀ j, j < l → (∃ z, w.cell? ⟨p, j, none⟩ = some (.int .i64 z)) ∧ w.frozen? ⟨p, j, none⟩ = false
theorem MemShape.same {w w' : World} {lo hi m T o n : Nat} (h : MemShape w lo hi m T o n) (s : SameIn lo hi w w') : MemShape w' lo hi m T o n := by
  obtain ⟨h1, h2, h⟩ := h
  refine ⟨h1, h2, fun i hi => ?_⟩
  obtain ⟨p, l, c, g1, g2, g3, g4, g5, g6, g7, g8⟩ := h i hi
  exact ⟨p, l, c, g1, g2, g3, g4, g5, (s.cell h1 h2).trans g6, (s.frozen h1 h2).trans g7, fun j hj => ⟨(g8 j hj).1.imp fun _ e => (s.cell g3 g4).trans e, (s.frozen g3 g4).trans (g8 j hj).2⟩⟩
theorem MemShape.wide {w : World} {lo hi lo' hi' m T o n : Nat} (h : MemShape w lo hi m T o n) (h1 : lo' ≤ lo) (h2 : hi ≤ hi') : MemShape w lo' hi' m T o n := by
  obtain ⟨k1, k2, h⟩ := h
  refine ⟨by omega, by omega, fun i hi => ?_⟩
  obtain ⟨p, l, c, g1, g2, g3, g4, g5⟩ := h i hi
  exact ⟨p, l, c, g1, g2, by omega, by omega, g5⟩
theorem MemShape.drop {w : World} {lo hi m T o n : Nat} (h : MemShape w lo hi m T o (n + 1)) : MemShape w lo hi m T (o + 1) n := by
  obtain ⟨h1, h2, h⟩ := h
  refine ⟨h1, h2, fun i hi => ?_⟩
  have := h (i + 1) (by omega)
  rwa [show o + (i + 1) = o + 1 + i by omega] at this
/-- A word is written. -/
theorem MemShape.word {w : World} {lo hi m T o n : Nat} (h : MemShape w lo hi m T o n) {p : Nat} (hp : p ≠ T) (j : Nat) (z : Int) : MemShape (w.setCell ⟨p, j, none⟩ (.int .i64 z)) lo hi m T o n := by
  obtain ⟨h1, h2, h⟩ := h
  refine ⟨h1, h2, fun i hi => ?_⟩
  obtain ⟨q, l, c, g1, g2, g3, g4, g5, g6, g7, g8⟩ := h i hi
  refine ⟨q, l, c, g1, g2, g3, g4, g5, ?_, ?_, fun x hx => ⟨?_, ?_⟩⟩
  · rw [cell_off (fun e => hp e.symm)]; exact g6
  · rw [frozen_put]; exact g7
  · obtain ⟨y, hy⟩ := (g8 x hx).1
    by_cases hqp : q = p
    · subst hqp
      rw [cell_put hy]
      by_cases hxj : x = j
      · exact ⟨z, by rw [if_pos hxj]⟩
      · exact ⟨y, by rw [if_neg hxj]⟩
    · exact ⟨y, by rw [cell_off hqp]; exact hy⟩
  · rw [frozen_put]; exact (g8 x hx).2
/-- A page is put in the place of another. -/
theorem MemShape.page {w : World} {lo hi m T o n i : Nat} (h : MemShape w lo hi m T o n) (hi' : i < n) {p l c : Nat} (h1 : m ≤ l) (h4 : l ≤ 4) (hp1 : lo ≤ p) (hp2 : p < hi) (hpT : p ≠ T)
    (hc : ∀ j, j < l → (∃ z, w.cell? ⟨p, j, none⟩ = some (.int .i64 z)) ∧ w.frozen? ⟨p, j, none⟩ = false) : MemShape (w.setCell ⟨T, o + i, none⟩ (.slice (some ⟨p, 0, none⟩) l c)) lo hi m T o n := by
  obtain ⟨k1, k2, h⟩ := h
  refine ⟨k1, k2, fun x hx => ?_⟩
  obtain ⟨q, l', c', g1, g2, g3, g4, g5, g6, g7, g8⟩ := h x hx
  by_cases hxi : x = i
  · subst hxi
    refine ⟨p, l, c, h1, h4, hp1, hp2, hpT, ?_, ?_, fun j hj => ⟨?_, ?_⟩⟩
    · rw [cell_put g6, if_pos rfl]
    · rw [frozen_put]; exact g7
    · rw [cell_off hpT]; exact (hc j hj).1
    · rw [frozen_put]; exact (hc j hj).2
  · refine ⟨q, l', c', g1, g2, g3, g4, g5, ?_, ?_, fun j hj => ⟨?_, ?_⟩⟩
    · rw [cell_put g6, if_neg (by omega)]
    · rw [frozen_put]; exact g7
    · rw [cell_off g5]; exact (g8 j hj).1
    · rw [frozen_put]; exact (g8 j hj).2
theorem OwnMem.shape {w : World} {lo hi n : Nat} {a : Option Addr} {ms : List (List Int)} (h : OwnMem w lo hi a n ms) (hn : n ≠ 0) (h4 : ∀ i, i < n → (ms.getD i []).length = 4) : ∃ T, a = some ⟨T, 0, none⟩ ∧ MemShape w lo hi 4 T 0 n := by
  obtain ⟨hl, hd⟩ := h
  rcases hd with h0 | ⟨T, rfl, h1, h2, bs, _, h⟩
  · exact absurd h0 hn
  · refine ⟨T, rfl, h1, h2, fun i hi => ?_⟩
    obtain ⟨g1, g2, g3, ⟨c, g4⟩, g5, g6, g7⟩ := h i hi
    rw [h4 i hi] at g4 g7
    refine ⟨bs i, 4, c, Nat.le_refl _, Nat.le_refl _, g1, g2, g3, by simpa using g4, by simpa using g5, fun j hj => ⟨⟨(ms.getD i []).getD j 0, ?_⟩, g7 j hj⟩⟩
    have := g6 j (by rw [h4 i hi]; exact hj)
    rwa [Nat.zero_add] at this
theorem MemShape.mem {w : World} {lo hi m T o n : Nat} (h : MemShape w lo hi m T o n) : ∃ ms, IsMem w lo hi (some ⟨T, o, none⟩) n ms ∧ ∀ i, i < n → (ms.getD i []).length ≤ 4 := by
  obtain ⟨h1, h2, h⟩ := h
  have each : ∀ i, i < n → ∃ r : Nat × Nat × Nat × List Int, w.cell? ⟨T, o + i, none⟩ = some (.slice (some ⟨r.1, 0, none⟩) r.2.1 r.2.2.1) ∧ r.2.2.2.length = r.2.1 ∧ r.2.1 ≤ 4 ∧ lo ≤ r.1 ∧ r.1 < hi ∧ Ints w r.1 0 r.2.2.2 := by
    intro i hi
    obtain ⟨p, l, c, g1, g2, g3, g4, g5, g6, g7, g8⟩ := h i hi
    obtain ⟨f, hf⟩ := Go.Deep.choose_lt (α := Int) (fun j hj => (g8 j hj).1)
    refine ⟨(p, l, c, (List.range l).map f), g6, by simp, g2, g3, g4, fun j hj => ?_⟩
    have hj' : j < l := by simpa using hj
    rw [Nat.zero_add, hf j hj']
    simp [List.getD_eq_getElem?_getD, hj']
  obtain ⟨f, hf⟩ := Go.Deep.choose_lt (α := Nat × Nat × Nat × List Int) each
  have hg : ∀ i, i < n → ((List.range n).map fun i => (f i).2.2.2).getD i [] = (f i).2.2.2 := fun i hi => by simp [List.getD_eq_getElem?_getD, hi]
  refine ⟨(List.range n).map fun i => (f i).2.2.2, ⟨by simp, Or.inr ⟨T, o, rfl, h1, h2, fun i hi => ?_⟩⟩, fun i hi => ?_⟩
  · obtain ⟨k1, k2, k3, k4, k5, k6⟩ := hf i hi
    rw [hg i hi]
    exact ⟨_, _, _, k1, k2, Or.inr ⟨_, 0, rfl, k4, k5, k6⟩⟩
  · rw [hg i hi, (hf i hi).2.1]
    exact (hf i hi).2.2.1

/-- A reader that has not come too far. -/
def RdTo (w : World) (rb K : Nat) : Prop := ∃ k : Nat, Rd w rb k ∧ k ≤ K

theorem MemShape.drew {w : World} {lo hi m T o n : Nat} (h : MemShape w lo hi m T o n) : MemShape w.drew lo hi m T o n := h.same (fun _ _ _ => rfl)
theorem MemShape.weak {w : World} {lo hi m m' T o n : Nat} (h : MemShape w lo hi m T o n) (hm : m' ≤ m) : MemShape w lo hi m' T o n := by
  obtain ⟨k1, k2, h⟩ := h
  refine ⟨k1, k2, fun i hi => ?_⟩
  obtain ⟨p, l, c, g1, g⟩ := h i hi
  exact ⟨p, l, c, by omega, g⟩

end Go.Proofs.Ytdamdjhnhkmncaa
