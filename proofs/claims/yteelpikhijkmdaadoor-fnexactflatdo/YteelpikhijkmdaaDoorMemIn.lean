/-
  What memory that came in as an argument is told to the walk as.
-/
import Derived.Test.YteelpikhijkmdaaDoorWalkFnExactMemOk
import Derived.Lib.SmallJoins
import Derived.ProofKit
import Derived.OpenShut
namespace Go.Proofs.YteelpikhijkmdaaDoor
open Go.ChangeShapes Go.WideShapes Go.ChangeAt Go.RowKit Go.Joins Go.Deep

theorem cellsS : Tryd.prog.cellsOf 56 = 1 := by kernel_rfl

theorem ints_of {H : Type} {enc : TypeId × Value → H} {W : World} {fuel : Nat} {c0 : Value} {d : DataW H} {p : List MemPlace}
    (hf : DataW.trod enc Tryd.prog W 0 (fun _ => true) true fuel 56 [c0] = some (d, p)) : ∃ a l c zs, c0 = .slice a l c ∧ IsInts W 0 W.heap.size a l zs ∧ zs.length ≤ maxLen := by
  rcases open_ints Tryd.underlying56 Tryd.underlying3 (by kernel_rfl) hf with ⟨hcs, _⟩ | ⟨x, l, c, zs, hcs, _, hl, hm, hz, _, hcell, _⟩
  · simp at hcs
    exact ⟨none, 0, 0, [], hcs, ⟨rfl, Or.inl rfl⟩, by simp [maxLen]⟩
  · simp at hcs
    have hz' : zs.length = c := by simpa using hz
    refine ⟨some x, l, c, zs.take l, hcs, ?_, ?_⟩
    · refine ⟨by simp; omega, ?_⟩
      by_cases h0 : l = 0
      · exact Or.inl h0
      · right
        obtain ⟨b, off, spot⟩ := x
        have hz0 := hcell 0 (by omega)
        have hspot : spot = none := by simpa [Addr.add] using World.cell?_spot hz0
        subst hspot
        refine ⟨b, off, rfl, Nat.zero_le _, ?_, fun i hi => ?_⟩
        · have := World.block_lt_of_cell? _ _ hz0
          simpa [Addr.add] using this
        · simp at hi
          have := hcell i (by omega)
          rw [adk] at this
          rw [this, List.getD_eq_getElem?_getD, List.getD_eq_getElem?_getD, List.getElem?_take_of_lt (by omega)]
    · simp
      omega

theorem mem_of {H : Type} {enc : TypeId × Value → H} {W : World} {a : Option Addr} {len cap : Nat} {d : DataW H} {p : List MemPlace}
    (h : DataW.Trod enc Tryd.prog W 0 (fun _ => true) true 23 (.slice a len cap) d p) : ∃ ms, ArgMem W a len ms := by
  obtain ⟨fuel, hf⟩ := h
  rcases open_slice Tryd.underlying23 hf with ⟨hcs, _⟩ | ⟨x, l, c, m, n, D, Pl, hcs, _, hl, hm, hmm, _, hx⟩
  · simp [Value.cells] at hcs
    obtain ⟨rfl, rfl, rfl⟩ := hcs
    exact ⟨[], ⟨rfl, Or.inl rfl⟩, by simp [maxLen], fun i hi => by omega⟩
  · simp [Value.cells] at hcs
    obtain ⟨rfl, rfl, rfl⟩ := hcs
    have hlm : len ≤ m := by rw [hmm]; simpa using hl
    have each : ∀ i, i < len → ∃ r : Option Addr × Nat × Nat × List Int, W.cell? (x.add i) = some (.slice r.1 r.2.1 r.2.2.1) ∧ IsInts W 0 W.heap.size r.1 r.2.1 r.2.2.2 ∧ r.2.2.2.length ≤ maxLen := by
      intro i hi
      obtain ⟨cs', h1, h2⟩ := hx i (by omega)
      rw [cellsS] at h1
      obtain ⟨_, hlen, hcell⟩ := World.cells?_some h1
      match cs', hlen with
      | [c0], _ =>
        obtain ⟨a', l', c', zs, rfl, hI, hz⟩ := ints_of h2
        have d0 := hcell 0 (by omega)
        rw [add_add] at d0
        exact ⟨(a', l', c', zs), by simpa using d0, hI, hz⟩
    by_cases h0 : len = 0
    · subst h0
      exact ⟨[], ⟨rfl, Or.inl rfl⟩, by simp [maxLen], fun i hi => by omega⟩
    · obtain ⟨f, hf'⟩ := choose_lt (α := Option Addr × Nat × Nat × List Int) each
      obtain ⟨b, off, spot⟩ := x
      have hz := (hf' 0 (by omega)).1
      have hspot : spot = none := by simpa [Addr.add] using World.cell?_spot hz
      subst hspot
      have hgi : ∀ i, i < len → ((List.range len).map fun i => (f i).2.2.2).getD i [] = (f i).2.2.2 := fun i hi => by simp [List.getD_eq_getElem?_getD, hi]
      refine ⟨(List.range len).map fun i => (f i).2.2.2, ⟨by simp, Or.inr ⟨b, off, rfl, Nat.zero_le _, ?_, fun i hi => ?_⟩⟩, Nat.le_trans hl hm, fun i hi => ?_⟩
      · have := World.block_lt_of_cell? _ _ hz
        simpa [Addr.add] using this
      · obtain ⟨k1, k2, _⟩ := hf' i hi
        rw [adk] at k1
        exact ⟨_, _, _, k1, by rw [hgi i hi]; exact k2⟩
      · rw [hgi i hi]
        exact (hf' i hi).2.2
end Go.Proofs.YteelpikhijkmdaaDoor
