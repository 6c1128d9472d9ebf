/-
  Who is in which frame: a map from frames to lists of spots, each list in a row of its own; looked up, and one spot more.
-/
import Derived.Test.YtdamdjhnhkmncaaKC
import Derived.Maps.Keyed
import Derived.Test.YtdamdjhnhkmncaaKW
set_option linter.unusedSimpArgs false
namespace Go.Proofs.Ytdamdjhnhkmncaa
open Go.RowKit Go.Maps
open Go.ChangeMaps (setBlock modify_eq_set)

def spC (l : List (Nat × Nat)) : List Value := l.flatMap fun x => [.int .i64 (x.1 : Int), .int .i64 (x.2 : Int)]

def Who (w : World) (lo r : Nat) (S : Int → List (Nat × Nat)) : Prop :=
  ∃ es clock, w.heap[r]? = some (.map es clock) ∧
    (∀ (i j : Nat) (e e' : MapEntry), es.toList[i]? = some e → es.toList[j]? = some e' → i ≠ j → e.key ≠ e'.key ∧ e.val.ownBlock ≠ e'.val.ownBlock) ∧
    (∀ e ∈ es.toList, ∃ f g c, e.key = .int .i64 f ∧ (Lit.int .i64 f).wf = true ∧ e.val = .slice (some ⟨g, 0, none⟩) (S f).length c ∧ S f ≠ [] ∧ w.ownsRow lo 99 2 e.val (S f).length (spC (S f))) ∧
    ∀ f, S f ≠ [] → ∃ e ∈ es.toList, e.key = .int .i64 f

theorem Who.same {w w' : World} {lo r : Nat} {S : Int → List (Nat × Nat)} (h : Who w lo r S) {row : Option Nat} (hg : w.grownBy w' row) (hr : row ≠ some r) (hrow : ∀ T, row = some T → T < lo) : Who w' lo r S := by
  obtain ⟨es, clock, hb, hp, he, hf⟩ := h
  have hlt : r < w.heap.size := by
    rcases Nat.lt_or_ge r w.heap.size with h | h
    · exact h
    · rw [Array.getElem?_eq_none h] at hb; cases hb
  refine ⟨es, clock, (hg.block r hlt (fun e => hr e.symm)).trans hb, hp, fun e hm => ?_, hf⟩
  obtain ⟨f, g, c, e1, e2, e3, e4, e5⟩ := he e hm
  refine ⟨f, g, c, e1, e2, e3, e4, e5.kept hg (Or.inr fun e => ?_)⟩
  have h1 := e5.lt g (by rw [e3]; rfl)
  rw [e3] at e
  have := hrow g e.symm
  omega
theorem Who.lt {w : World} {lo r : Nat} {S : Int → List (Nat × Nat)} (h : Who w lo r S) : r < w.heap.size := by
  obtain ⟨es, clock, hb, _⟩ := h
  rcases Nat.lt_or_ge r w.heap.size with h | h
  · exact h
  · rw [Array.getElem?_eq_none h] at hb; cases hb

end Go.Proofs.Ytdamdjhnhkmncaa

/-
  Great values kept shut: loads, stores and variables of lodgers and houses, parts of arrays, and maps, each by one hypothesis on it.
-/
namespace Go.Proofs.Ytdamdjhnhkmncaa
open Go.RowKit

theorem exec_mapsA (ρ : Operand → Value) (dst : Option Tmp) (ty : TypeId) (pos : String) (after : Array _) (guard : Option _) (x : Operand) (w : World) :
    (execOp ρ ⟨dst, .load 78 x, ty, pos, after, guard⟩).run Try.prog w = bigNext (bigRun Try.prog 78 (ρ x) w) := by
  unfold bigRun execOp
  simp only [Sem.run_bind]
  cases (Instr.loadAt 78 (ρ x)).run Try.prog w <;> rfl
theorem exec_allocL (ρ : Operand → Value) (dst : Option Tmp) (ty : TypeId) (pos : String) (after : Array _) (guard : Option _) (w : World) :
    (execOp ρ ⟨dst, .alloc 84, ty, pos, after, guard⟩).run Try.prog w = bigNext (bigAlloc Try.prog 84 w) := by
  unfold bigAlloc execOp
  simp only [Sem.run_bind]
  cases (Instr.alloc 84 true (.tuple #[])).run Try.prog w <;> rfl
theorem exec_buildL (ρ : Operand → Value) (dst : Option Tmp) (ty : TypeId) (pos : String) (after : Array _) (guard : Option _) (ps : Array (Nat × Operand)) (w : World) :
    (execOp ρ ⟨dst, .build 84 ps, ty, pos, after, guard⟩).run Try.prog w = bigNext (bigBuild Try.prog 84 (ps.map fun (i, x) => (i, ρ x)) w) := by
  unfold bigBuild execOp
  simp only [Sem.run_bind]
  cases (Instr.build 84 (ps.map fun (i, x) => (i, ρ x))).run Try.prog w <;> rfl
theorem exec_storeL (ρ : Operand → Value) (dst : Option Tmp) (ty : TypeId) (pos : String) (after : Array _) (guard : Option _) (a x : Operand) (w : World) :
    (execOp ρ ⟨dst, .store 84 a x, ty, pos, after, guard⟩).run Try.prog w = bigSkip (bigStore Try.prog 84 (ρ a) (ρ x) w) := by
  unfold bigStore execOp
  simp only [Sem.run_bind]
  cases (Instr.storeAt 84 (ρ a) (ρ x)).run Try.prog w <;> rfl

def idxRun (P : Program) (t : TypeId) (v i : Value) (w : World) : Result Value := (Instr.index t v i).run P w
theorem exec_idxM (ρ : Operand → Value) (dst : Option Tmp) (ty : TypeId) (pos : String) (after : Array _) (guard : Option _) (x y : Operand) (w : World) :
    (execOp ρ ⟨dst, .index 78 x y, ty, pos, after, guard⟩).run Try.prog w = bigNext (idxRun Try.prog 78 (ρ x) (ρ y) w) := by
  unfold idxRun execOp
  simp only [Sem.run_bind]
  cases (Instr.index 78 (ρ x) (ρ y)).run Try.prog w <;> rfl
def lookRun (P : Program) (t : TypeId) (m k : Value) (w : World) : Result Value := (Instr.lookup t m k false).run P w
theorem exec_look (ρ : Operand → Value) (dst : Option Tmp) (ty : TypeId) (pos : String) (after : Array _) (guard : Option _) (x y : Operand) (w : World) :
    (execOp ρ ⟨dst, .lookup 137 x y false, ty, pos, after, guard⟩).run Try.prog w = bigNext (lookRun Try.prog 137 (ρ x) (ρ y) w) := by
  unfold lookRun execOp
  simp only [Sem.run_bind]
  cases (Instr.lookup 137 (ρ x) (ρ y) false).run Try.prog w <;> rfl
def updRun (P : Program) (t : TypeId) (m k v : Value) (w : World) : Result Unit := (Instr.mapUpdate t m k v).run P w
theorem exec_upd (ρ : Operand → Value) (dst : Option Tmp) (ty : TypeId) (pos : String) (after : Array _) (guard : Option _) (m x y : Operand) (w : World) :
    (execOp ρ ⟨dst, .mapUpdate 137 m x y, ty, pos, after, guard⟩).run Try.prog w = bigSkip (updRun Try.prog 137 (ρ m) (ρ x) (ρ y) w) := by
  unfold updRun execOp
  simp only [Sem.run_bind]
  cases (Instr.mapUpdate 137 (ρ m) (ρ x) (ρ y)).run Try.prog w <;> rfl

end Go.Proofs.Ytdamdjhnhkmncaa
