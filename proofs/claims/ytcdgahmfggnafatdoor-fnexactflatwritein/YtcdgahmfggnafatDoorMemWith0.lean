/-
  What the given MemWith and MemNew do.
-/
import Derived.Test.YtcdgahmfggnafatDoorMemCopy0
namespace Go.Proofs.YtcdgahmfggnafatDoor
open Go.RowKit

/-- A word in the place of another, in memory that is a call's own. -/
theorem OwnUpto.put {w : World} {T lo hi k P O : Nat} {ms : List (List Int)} (h : OwnUpto w T lo hi k ms) (hP : P < k) (hm : P < ms.length) (hO : O < (ms.getD P []).length) (z : Int) :
    ∃ p c v, lo ≤ p ∧ p < hi ∧ p ≠ T ∧ w.cell? ⟨T, P, none⟩ = some (.slice (some ⟨p, 0, none⟩) (ms.getD P []).length c) ∧ w.cell? ⟨p, O, none⟩ = some v ∧ w.frozen? ⟨p, O, none⟩ = false ∧
      OwnUpto (w.setCell ⟨p, O, none⟩ (.int .i64 z)) T lo hi k (putM ms P O z) := by
  obtain ⟨bs, hi1, h⟩ := h
  obtain ⟨g1, g2, g3, ⟨c, g4⟩, g5, g6, g7⟩ := h P hP
  have g8 := g6 O hO
  rw [Nat.zero_add] at g8
  refine ⟨bs P, c, _, g1, g2, g3, g4, g8, g7 O hO, bs, hi1, fun i hi => ?_⟩
  obtain ⟨k1, k2, k3, ⟨c', k4⟩, k5, k6, k7⟩ := h i hi
  by_cases hiP : i = P
  · subst hiP
    rw [putM_at O z hm, List.length_set]
    refine ⟨k1, k2, k3, ⟨c', ?_⟩, ?_, ?_, fun j hj => ?_⟩
    · rw [cell_off (fun e => k3 e.symm)]; exact k4
    · rw [frozen_put]; exact k5
    · have := ints_set (k := O) k6 z
      rwa [Nat.zero_add] at this
    · rw [frozen_put]; exact k7 j hj
  · have hne : bs i ≠ bs P := by
      rcases Nat.lt_or_gt_of_ne hiP with hlt | hgt
      · have := hi1 i P hlt hP
        omega
      · have := hi1 P i hgt hi
        omega
    rw [putM_off O z hiP]
    refine ⟨k1, k2, k3, ⟨c', ?_⟩, ?_, fun j hj => ?_, fun j hj => ?_⟩
    · rw [cell_off (fun e => g3 e.symm)]; exact k4
    · rw [frozen_put]; exact k5
    · rw [cell_off hne]; exact k6 j hj
    · rw [frozen_put]; exact k7 j hj

theorem own_made (w : World) (t : TypeId) : (w.alloc (.cells (madeCells #[.int .i64 0] 4) t)).ownsRow w.heap.size t 1 (.slice (some ⟨w.heap.size, 0, none⟩) 4 4) 4 (zv [0, 0, 0, 0]) :=
  ⟨rfl, Or.inr ⟨w.heap.size, 4, _, rfl, Nat.le_refl _, heap_alloc_new w _, Nat.le_refl _, by simp [maxLen], by simp [size_madeCells], by rw [toList_madeCells_one]; rfl⟩⟩

end Go.Proofs.YtcdgahmfggnafatDoor
