/-
  A list of one lodger, made by a literal: kept shut.
-/
import Derived.Test.YtahcoklhijjenaaBig0
set_option linter.unusedSimpArgs false
namespace Go.Proofs.Ytahcoklhijjenaa
open Go.RowKit

def bsRun (P : Program) (t : TypeId) (n : Nat) (parts : Array (Nat × Value)) (w : World) : Result Value := (Instr.buildSlice t n parts).run P w
theorem exec_bsL (ρ : Operand → Value) (dst : Option Tmp) (ty : TypeId) (pos : String) (after : Array _) (guard : Option _) (n : Nat) (ps : Array (Nat × Operand)) (w : World) :
    (execOp ρ ⟨dst, .buildSlice 70 n ps, ty, pos, after, guard⟩).run Try.prog w = bigNext (bsRun Try.prog 70 n (ps.map fun (i, x) => (i, ρ x)) w) := by
  unfold bsRun execOp
  simp only [Sem.run_bind]
  cases (Instr.buildSlice 70 n (ps.map fun (i, x) => (i, ρ x))).run Try.prog w <;> rfl

theorem foldl_set : ∀ (l : List Value) (o : Nat) (Z : Array Value), o + l.length ≤ Z.size → ∃ R : Array Value, (l.zipIdx o).foldl (fun z x => z.setIfInBounds x.2 x.1) Z = R ∧ R.size = Z.size ∧ (∀ i, i < o → R[i]? = Z[i]?) ∧ ∀ i, i < l.length → R[o + i]? = l[i]?
  | [], o, Z, _ => ⟨Z, rfl, rfl, fun _ _ => rfl, fun i hi => by simp at hi⟩
  | v :: r, o, Z, h => by
    obtain ⟨R, e1, e2, e3, e4⟩ := foldl_set r (o + 1) (Z.setIfInBounds o v) (by simp at h ⊢; omega)
    refine ⟨R, ?_, by rw [e2]; simp, fun i hi => ?_, fun i hi => ?_⟩
    · rw [List.zipIdx_cons, List.foldl_cons, e1]
    · rw [e3 i (by omega), Array.getElem?_setIfInBounds_ne (by omega)]
    · cases i with
      | zero =>
        have hlt : o < Z.size := by simp at h; omega
        rw [Nat.add_zero, e3 o (by omega), Array.getElem?_setIfInBounds_self_of_lt hlt]; rfl
      | succ i =>
        have := e4 i (by simpa using hi)
        rw [show o + (i + 1) = o + 1 + i by omega, this]; rfl
theorem fill_all (cs : List Value) (Z : Array Value) (n : Nat) (hl : cs.length = n) (hZ : Z.size = n) : Instr.fill (fun i => some (i * n, n)) Z [(0, .agg cs.toArray)] = some cs.toArray := by
  obtain ⟨R, e1, e2, _, e4⟩ := foldl_set cs 0 Z (by omega)
  have hR : R = cs.toArray := by
    apply Array.ext_getElem?
    intro i
    by_cases hi : i < cs.length
    · have := e4 i hi
      rw [Nat.zero_add] at this
      rw [this]
      simp
    · rw [Array.getElem?_eq_none (by omega), Array.getElem?_eq_none (by simp; omega)]
  rw [hR] at e1
  simp [Instr.fill, Value.cells, hl, hZ]
  simpa using e1

theorem bs_lod (cs : List Value) (hl : cs.length = 66) (w : World) : bsRun Try.prog 70 1 #[(0, .agg cs.toArray)] w = .ok (.slice (some ⟨w.heap.size, 0, none⟩) 1 1) (w.alloc (.cells cs.toArray 87)) := by
  obtain ⟨i0, hi, hz0, hz1, hz2⟩ := info_parts infoL
  simp [bsRun, Instr.buildSlice, run_underlying Try.underlying70, sizeOf, typeInfo, hi, hz1, zeroValue, hz0]
  rw [fill_all cs _ 66 hl (by simp)]
  simp [newRow]
end Go.Proofs.Ytahcoklhijjenaa
