/-
  What a table that came in as an argument is told to the walk as.
-/
import Derived.Test.YtfiailnlkhonnawToEnts
import Derived.Lib.SmallJoins
import Derived.ProofKit
import Derived.OpenShut
namespace Go.Proofs.Ytfiailnlkhonnaw
open Go.ChangeShapes Go.WideShapes Go.ChangeAt Go.RowKit Go.Joins Go.Deep

theorem cellsB : Try.prog.cellsOf 4 = 1 := by kernel_rfl
theorem cellsZ : Try.prog.cellsOf 3 = 1 := by kernel_rfl
theorem cellsIn : Try.prog.cellsOf 47 = 3 := by kernel_rfl

theorem ents_of {H : Type} {enc : TypeId × Value → H} {W : World} {a : Option Addr} {len cap : Nat} {d : DataW H} {p : List MemPlace}
    (h : DataW.Trod enc Try.prog W 0 (fun _ => true) true 27 (.slice a len cap) d p) : ∃ es, IsEnts W a len es ∧ len ≤ maxLen := by
  obtain ⟨fuel, hf⟩ := h
  rcases open_slice Try.underlying27 hf with ⟨hcs, _⟩ | ⟨x, l, c, m, n, D, Pl, hcs, _, hl, hm, hmm, _, hx⟩
  · simp [Value.cells] at hcs
    obtain ⟨rfl, rfl, rfl⟩ := hcs
    exact ⟨[], ⟨rfl, Or.inl rfl⟩, by simp [maxLen]⟩
  · simp [Value.cells] at hcs
    obtain ⟨rfl, rfl, rfl⟩ := hcs
    have hlm : len ≤ m := by rw [hmm]; simpa using hl
    have each : ∀ i, i < len → ∃ e : E3, W.cell? (x.add (i * 3)) = some (.bool e.1) ∧ W.cell? (x.add (i * 3 + 1)) = some (.int .i64 e.2.1) ∧ W.cell? (x.add (i * 3 + 2)) = some (.bool e.2.2) := by
      intro i hi
      obtain ⟨cs', h1, h2⟩ := hx i (by omega)
      rw [cellsIn] at h1
      obtain ⟨_, hlen, hcell⟩ := World.cells?_some h1
      obtain ⟨y0, y1, y2, k, _, _, g0, g1, g2⟩ := trod_struct3 Try.underlying47 h2
      match cs', hlen with
      | [c0, c1, c2], _ =>
        obtain ⟨e0, b0⟩ : ∃ e0, c0 = .bool e0 := by
          obtain ⟨x, e, _⟩ := DataW.trod_bool Try.underlying4 (cs := [c0]) (by simpa [cellsB] using g0)
          simp at e
          exact ⟨x, e⟩
        obtain ⟨e1, b1⟩ : ∃ e1, c1 = .int .i64 e1 := by
          obtain ⟨x, e, _⟩ := DataW.trod_int Try.underlying3 (cs := [c1]) (by simpa [cellsZ] using g1)
          simp at e
          exact ⟨x, e⟩
        obtain ⟨e2, b2⟩ : ∃ e2, c2 = .bool e2 := by
          obtain ⟨x, e, _⟩ := DataW.trod_bool Try.underlying4 (cs := [c2]) (by simpa [cellsB] using g2)
          simp at e
          exact ⟨x, e⟩
        have d0 := hcell 0 (by omega)
        have d1 := hcell 1 (by omega)
        have d2 := hcell 2 (by omega)
        rw [add_add] at d0 d1 d2
        exact ⟨(e0, e1, e2), by simpa [b0] using d0, by simpa [b1] using d1, by simpa [b2] using d2⟩
    by_cases h0 : len = 0
    · subst h0
      exact ⟨[], ⟨rfl, Or.inl rfl⟩, by simp [maxLen]⟩
    · obtain ⟨f, hf'⟩ := choose_lt (α := E3) each
      obtain ⟨b, off, spot⟩ := x
      have hz := (hf' 0 (by omega)).1
      have hspot : spot = none := by simpa [Addr.add] using World.cell?_spot hz
      subst hspot
      have ad : ∀ j, (⟨b, off, none⟩ : Addr).add j = ⟨b, off + j, none⟩ := fun j => by by_cases h : j = 0 <;> simp [Addr.add, h]
      refine ⟨(List.range len).map f, ⟨by simp, Or.inr ⟨b, off, rfl, ?_, ?_⟩⟩, Nat.le_trans hl hm⟩
      · exact World.block_lt_of_cell? _ _ hz
      · intro i hi
        simp at hi
        have hgi : ((List.range len).map f).getD i (false, 0, false) = f i := by simp [List.getD_eq_getElem?_getD, hi]
        rw [hgi]
        have := hf' i hi
        rw [ad, ad, ad] at this
        exact this
end Go.Proofs.Ytfiailnlkhonnaw
