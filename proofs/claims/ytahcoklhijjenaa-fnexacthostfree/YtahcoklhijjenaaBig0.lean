/-
  Great values kept shut: loads, stores and variables of lodgers and houses, parts of arrays, and maps, each by one hypothesis on it.
-/
import Derived.Test.YtahcoklhijjenaaHostMake0
import Derived.Test.YtahcoklhijjenaaSpots0
namespace Go.Proofs.Ytahcoklhijjenaa
open Go.RowKit

theorem exec_mapsA (ρ : Operand → Value) (dst : Option Tmp) (ty : TypeId) (pos : String) (after : Array _) (guard : Option _) (x : Operand) (w : World) :
    (execOp ρ ⟨dst, .load 81 x, ty, pos, after, guard⟩).run Try.prog w = bigNext (bigRun Try.prog 81 (ρ x) w) := by
  unfold bigRun execOp
  simp only [Sem.run_bind]
  cases (Instr.loadAt 81 (ρ x)).run Try.prog w <;> rfl
theorem exec_allocL (ρ : Operand → Value) (dst : Option Tmp) (ty : TypeId) (pos : String) (after : Array _) (guard : Option _) (w : World) :
    (execOp ρ ⟨dst, .alloc 87, ty, pos, after, guard⟩).run Try.prog w = bigNext (bigAlloc Try.prog 87 w) := by
  unfold bigAlloc execOp
  simp only [Sem.run_bind]
  cases (Instr.alloc 87 true (.tuple #[])).run Try.prog w <;> rfl
theorem exec_buildL (ρ : Operand → Value) (dst : Option Tmp) (ty : TypeId) (pos : String) (after : Array _) (guard : Option _) (ps : Array (Nat × Operand)) (w : World) :
    (execOp ρ ⟨dst, .build 87 ps, ty, pos, after, guard⟩).run Try.prog w = bigNext (bigBuild Try.prog 87 (ps.map fun (i, x) => (i, ρ x)) w) := by
  unfold bigBuild execOp
  simp only [Sem.run_bind]
  cases (Instr.build 87 (ps.map fun (i, x) => (i, ρ x))).run Try.prog w <;> rfl
theorem exec_storeL (ρ : Operand → Value) (dst : Option Tmp) (ty : TypeId) (pos : String) (after : Array _) (guard : Option _) (a x : Operand) (w : World) :
    (execOp ρ ⟨dst, .store 87 a x, ty, pos, after, guard⟩).run Try.prog w = bigSkip (bigStore Try.prog 87 (ρ a) (ρ x) w) := by
  unfold bigStore execOp
  simp only [Sem.run_bind]
  cases (Instr.storeAt 87 (ρ a) (ρ x)).run Try.prog w <;> rfl

def idxRun (P : Program) (t : TypeId) (v i : Value) (w : World) : Result Value := (Instr.index t v i).run P w
theorem exec_idxM (ρ : Operand → Value) (dst : Option Tmp) (ty : TypeId) (pos : String) (after : Array _) (guard : Option _) (x y : Operand) (w : World) :
    (execOp ρ ⟨dst, .index 81 x y, ty, pos, after, guard⟩).run Try.prog w = bigNext (idxRun Try.prog 81 (ρ x) (ρ y) w) := by
  unfold idxRun execOp
  simp only [Sem.run_bind]
  cases (Instr.index 81 (ρ x) (ρ y)).run Try.prog w <;> rfl
def lookRun (P : Program) (t : TypeId) (m k : Value) (w : World) : Result Value := (Instr.lookup t m k false).run P w
theorem exec_look (ρ : Operand → Value) (dst : Option Tmp) (ty : TypeId) (pos : String) (after : Array _) (guard : Option _) (x y : Operand) (w : World) :
    (execOp ρ ⟨dst, .lookup 106 x y false, ty, pos, after, guard⟩).run Try.prog w = bigNext (lookRun Try.prog 106 (ρ x) (ρ y) w) := by
  unfold lookRun execOp
  simp only [Sem.run_bind]
  cases (Instr.lookup 106 (ρ x) (ρ y) false).run Try.prog w <;> rfl
def updRun (P : Program) (t : TypeId) (m k v : Value) (w : World) : Result Unit := (Instr.mapUpdate t m k v).run P w
theorem exec_upd (ρ : Operand → Value) (dst : Option Tmp) (ty : TypeId) (pos : String) (after : Array _) (guard : Option _) (m x y : Operand) (w : World) :
    (execOp ρ ⟨dst, .mapUpdate 106 m x y, ty, pos, after, guard⟩).run Try.prog w = bigSkip (updRun Try.prog 106 (ρ m) (ρ x) (ρ y) w) := by
  unfold updRun execOp
  simp only [Sem.run_bind]
  cases (Instr.mapUpdate 106 (ρ m) (ρ x) (ρ y)).run Try.prog w <;> rfl

/-- A new variable, written whole, is one that was made so. -/
theorem setAll_alloc (w : World) (t : TypeId) : ∀ (cs : List Value) (o : Nat) (z : Array Value), o + cs.length = z.size → ∃ z' : Array Value, (w.alloc (.cells z t)).setCells w.heap.size o cs = w.alloc (.cells z' t) ∧ z'.size = z.size ∧ (∀ i, i < o → z'[i]? = z[i]?) ∧ ∀ i, i < cs.length → z'[o + i]? = cs[i]?
  | [], o, z, _ => ⟨z, rfl, rfl, fun _ _ => rfl, fun i hi => by simp at hi⟩
  | v :: r, o, z, h => by
    obtain ⟨z', e1, e2, e3, e4⟩ := setAll_alloc w t r (o + 1) (z.setIfInBounds o v) (by simp at h ⊢; omega)
    refine ⟨z', ?_, by rw [e2]; simp, fun i hi => ?_, fun i hi => ?_⟩
    · rw [World.setCells, World.setCell_alloc_new, e1]
    · rw [e3 i (by omega), Array.getElem?_setIfInBounds_ne (by omega)]
    · cases i with
      | zero =>
        have hlt : o < z.size := by simp at h; omega
        rw [Nat.add_zero, e3 o (by omega), Array.getElem?_setIfInBounds_self_of_lt hlt]; rfl
      | succ i =>
        have := e4 i (by simpa using hi)
        rw [show o + (i + 1) = o + 1 + i by omega, this]; rfl
theorem alloc_setCells (w : World) (t : TypeId) (cs : List Value) (z : Array Value) (h : z.size = cs.length) : (w.alloc (.cells z t)).setCells w.heap.size 0 cs = w.alloc (.cells cs.toArray t) := by
  obtain ⟨z', e1, e2, _, e4⟩ := setAll_alloc w t cs 0 z (by omega)
  rw [e1]
  have : z' = cs.toArray := by
    apply Array.ext_getElem?
    intro i
    by_cases hi : i < cs.length
    · have := e4 i hi
      rw [Nat.zero_add] at this
      rw [this]
      simp
    · rw [Array.getElem?_eq_none (by omega), Array.getElem?_eq_none (by simp; omega)]
  rw [this]

/-- Variables of lodgers: made, and written. -/
theorem lod_var : ∃ zL : Array Value, (∀ w : World, bigAlloc Try.prog 87 w = .ok (.pointer (some ⟨w.heap.size, 0, none⟩)) (w.alloc (.cells zL 87))) ∧
    ∀ (w : World) (cs : List Value), cs.length = 66 → (∀ v ∈ cs, v.oneCell' = true) → bigStore Try.prog 87 (.pointer (some ⟨w.heap.size, 0, none⟩)) (.agg cs.toArray) (w.alloc (.cells zL 87)) = .ok () (w.alloc (.cells cs.toArray 87)) := by
  obtain ⟨zL, hz, hal⟩ := alloc_any 87 66 (by kernel_rfl)
  refine ⟨zL, hal, fun w cs hl h1 => ?_⟩
  have hth := there_new w zL 87
  rw [hz] at hth
  have := run_storeAt_mid (P := Try.prog) (w.alloc (.cells zL 87)) w.heap.size 0 87 cs.toArray (by rw [show cs.toArray.size = 66 by simp [hl]]; exact hth) (by rw [show cs.toArray.size = 66 by simp [hl]]; kernel_rfl) (all_oneCell_toArray h1)
  rw [List.toList_toArray, alloc_setCells w 87 cs zL (by omega)] at this
  exact this
/-- Variables of houses: made, and written. -/
theorem house_var : ∃ zH : Array Value, zH.size = 34 ∧ (∀ w : World, bigAlloc Try.prog 72 w = .ok (.pointer (some ⟨w.heap.size, 0, none⟩)) (w.alloc (.cells zH 72))) ∧
    ∀ (w : World) (cs : List Value), cs.length = 34 → (∀ v ∈ cs, v.oneCell' = true) → bigStore Try.prog 72 (.pointer (some ⟨w.heap.size, 0, none⟩)) (.agg cs.toArray) (w.alloc (.cells zH 72)) = .ok () (w.alloc (.cells cs.toArray 72)) := by
  obtain ⟨zH, hz, hal⟩ := alloc_any 72 34 (by kernel_rfl)
  refine ⟨zH, hz, hal, fun w cs hl h1 => ?_⟩
  have hth := there_new w zH 72
  rw [hz] at hth
  have := run_storeAt_mid (P := Try.prog) (w.alloc (.cells zH 72)) w.heap.size 0 72 cs.toArray (by rw [show cs.toArray.size = 34 by simp [hl]]; exact hth) (by rw [show cs.toArray.size = 34 by simp [hl]]; kernel_rfl) (all_oneCell_toArray h1)
  rw [List.toList_toArray, alloc_setCells w 72 cs zH (by omega)] at this
  exact this

/-- A map out of an array of maps. -/
theorem idx_at0 (m0 m1 m2 m3 m4 m5 : E3) (w : World) : idxRun Try.prog 81 (.agg (flat [m0, m1, m2, m3, m4, m5]).toArray) (.int .i64 0) w = .ok (.agg #[.bool m0.1, .int .i64 m0.2.1, .bool m0.2.2]) w := by kernel_rfl
theorem idx_at1 (m0 m1 m2 m3 m4 m5 : E3) (w : World) : idxRun Try.prog 81 (.agg (flat [m0, m1, m2, m3, m4, m5]).toArray) (.int .i64 1) w = .ok (.agg #[.bool m1.1, .int .i64 m1.2.1, .bool m1.2.2]) w := by kernel_rfl
theorem idx_at2 (m0 m1 m2 m3 m4 m5 : E3) (w : World) : idxRun Try.prog 81 (.agg (flat [m0, m1, m2, m3, m4, m5]).toArray) (.int .i64 2) w = .ok (.agg #[.bool m2.1, .int .i64 m2.2.1, .bool m2.2.2]) w := by kernel_rfl
theorem idx_at3 (m0 m1 m2 m3 m4 m5 : E3) (w : World) : idxRun Try.prog 81 (.agg (flat [m0, m1, m2, m3, m4, m5]).toArray) (.int .i64 3) w = .ok (.agg #[.bool m3.1, .int .i64 m3.2.1, .bool m3.2.2]) w := by kernel_rfl
theorem idx_at4 (m0 m1 m2 m3 m4 m5 : E3) (w : World) : idxRun Try.prog 81 (.agg (flat [m0, m1, m2, m3, m4, m5]).toArray) (.int .i64 4) w = .ok (.agg #[.bool m4.1, .int .i64 m4.2.1, .bool m4.2.2]) w := by kernel_rfl
theorem idx_at5 (m0 m1 m2 m3 m4 m5 : E3) (w : World) : idxRun Try.prog 81 (.agg (flat [m0, m1, m2, m3, m4, m5]).toArray) (.int .i64 5) w = .ok (.agg #[.bool m5.1, .int .i64 m5.2.1, .bool m5.2.2]) w := by kernel_rfl
theorem idx_maps (ms : List E3) (hm : ms.length = 6) (k : Nat) (hk : k < 6) (w : World) : idxRun Try.prog 81 (.agg (flat ms).toArray) (.int .i64 k) w = .ok (.agg #[.bool (ms.getD k noM).1, .int .i64 (ms.getD k noM).2.1, .bool (ms.getD k noM).2.2]) w := by
  match ms, hm with
  | [m0, m1, m2, m3, m4, m5], _ =>
    match k, hk with
    | 0, _ => exact idx_at0 m0 m1 m2 m3 m4 m5 w
    | 1, _ => exact idx_at1 m0 m1 m2 m3 m4 m5 w
    | 2, _ => exact idx_at2 m0 m1 m2 m3 m4 m5 w
    | 3, _ => exact idx_at3 m0 m1 m2 m3 m4 m5 w
    | 4, _ => exact idx_at4 m0 m1 m2 m3 m4 m5 w
    | 5, _ => exact idx_at5 m0 m1 m2 m3 m4 m5 w
end Go.Proofs.Ytahcoklhijjenaa
