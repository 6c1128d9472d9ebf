/-
  What the given functions that make hosts do.
-/
import Derived.Test.YteelpikhijkmdaaDoorKHostLoad1
import Derived.Deep.AppendLies
import Derived.Deep.RegionLaw
set_option linter.unusedSimpArgs false
namespace Go.Proofs.YteelpikhijkmdaaDoor
open Go.RowKit
attribute [local go_sem ↓] Go.wp_at_zero Go.wp_at_succ

/-- The three cells of a variable, all of them to be written. -/
def Var3 (w : World) (b : Nat) (x y z : Value) : Prop := w.cell? ⟨b, 0, none⟩ = some x ∧ w.cell? ⟨b, 1, none⟩ = some y ∧ w.cell? ⟨b, 2, none⟩ = some z ∧ w.frozen? ⟨b, 0, none⟩ = false ∧ w.frozen? ⟨b, 1, none⟩ = false ∧ w.frozen? ⟨b, 2, none⟩ = false
theorem Var3.same {w w' : World} {b : Nat} {x y z : Value} (h : Var3 w b x y z) (e : w'.heap[b]? = w.heap[b]?) : Var3 w' b x y z := by
  obtain ⟨h0, h1, h2, f0, f1, f2⟩ := h
  exact ⟨(World.cell?_of_block (a := ⟨b, 0, none⟩) e).trans h0, (World.cell?_of_block (a := ⟨b, 1, none⟩) e).trans h1, (World.cell?_of_block (a := ⟨b, 2, none⟩) e).trans h2, (World.frozen?_of_block (a := ⟨b, 0, none⟩) e).trans f0, (World.frozen?_of_block (a := ⟨b, 1, none⟩) e).trans f1, (World.frozen?_of_block (a := ⟨b, 2, none⟩) e).trans f2⟩

theorem Var3.lt {w : World} {b : Nat} {x y z : Value} (h : Var3 w b x y z) : b < w.heap.size := World.block_lt_of_cell? _ _ h.1
theorem Var3.belowK {w w' : World} {b : Nat} {x y z : Value} (h : Var3 w b x y z) (hB : Below w.heap.size w w') : Var3 w' b x y z := h.same (hB.block _ h.lt)
theorem Var3.allocK {w : World} {b : Nat} {x y z : Value} (h : Var3 w b x y z) (ob : Obj) : Var3 (w.alloc ob) b x y z := h.belowK ((Below.refl _ _).alloc (Nat.le_refl _) _)
theorem Var3.drewK {w : World} {b : Nat} {x y z : Value} (h : Var3 w b x y z) : Var3 w.drew b x y z := h

/-- An append, kept shut: by one hypothesis on it. -/
def appRun (P : Program) (t ty : TypeId) (x y : Value) (w : World) : Result Value := (Builtin.append_ #[t, t] ty #[x, y]).run P w
theorem exec_app {P : Program} (ρ : Operand → Value) (dst : Option Tmp) (t ty : TypeId) (pos : String) (after : Array _) (guard : Option _) (x y : Operand) (w : World) :
    (execOp ρ ⟨dst, .call { callee := .builtin .append, args := #[x, y], argTypes := #[t, t] }, ty, pos, after, guard⟩).run P w = bigNext (appRun P t ty (ρ x) (ρ y) w) := by
  unfold appRun execOp
  simp only [resolve, invoke, builtin, Sem.run_bind, Sem.run_pure, Result.andThen_ok, List.map_toArray, List.map_cons, List.map_nil]
  cases (Builtin.append_ #[t, t] ty #[ρ x, ρ y]).run P w <;> rfl
/-- Lists that have been made, as the program's own zero cells read. -/
def MadeM (w : World) (b : Nat) : Prop := Ents w b 0 (List.replicate 6 noM) ∧ Room w b 18
def MadeQ (w : World) (b : Nat) : Prop := Quads w b 0 (List.replicate 6 noS) ∧ Room w b 24
theorem MadeM.lt {w : World} {b : Nat} (h : MadeM w b) : b < w.heap.size := by
  obtain ⟨v, hv⟩ := (h.2 0 (by omega)).1
  exact World.block_lt_of_cell? _ _ hv
theorem MadeQ.lt {w : World} {b : Nat} (h : MadeQ w b) : b < w.heap.size := by
  obtain ⟨v, hv⟩ := (h.2 0 (by omega)).1
  exact World.block_lt_of_cell? _ _ hv
theorem MadeM.same {w w' : World} {b : Nat} (h : MadeM w b) (s : SameIn b (b + 1) w w') : MadeM w' b := ⟨h.1.sameH s (Nat.le_refl _) (Nat.lt_succ_self _), h.2.same s (Nat.le_refl _) (Nat.lt_succ_self _)⟩
theorem MadeQ.same {w w' : World} {b : Nat} (h : MadeQ w b) (s : SameIn b (b + 1) w w') : MadeQ w' b := ⟨h.1.same s (Nat.le_refl _) (Nat.lt_succ_self _), h.2.same s (Nat.le_refl _) (Nat.lt_succ_self _)⟩
theorem MadeM.belowK {w w' : World} {b : Nat} (h : MadeM w b) (hB : Below w.heap.size w w') : MadeM w' b := h.same (below_sameIn hB h.lt)
theorem MadeQ.belowK {w w' : World} {b : Nat} (h : MadeQ w b) (hB : Below w.heap.size w w') : MadeQ w' b := h.same (below_sameIn hB h.lt)
theorem MadeM.allocK {w : World} {b : Nat} (h : MadeM w b) (ob : Obj) : MadeM (w.alloc ob) b := h.belowK ((Below.refl _ _).alloc (Nat.le_refl _) _)
theorem MadeQ.allocK {w : World} {b : Nat} (h : MadeQ w b) (ob : Obj) : MadeQ (w.alloc ob) b := h.belowK ((Below.refl _ _).alloc (Nat.le_refl _) _)
theorem MadeM.drewK {w : World} {b : Nat} (h : MadeM w b) : MadeM w.drew b := h
theorem MadeQ.drewK {w : World} {b : Nat} (h : MadeQ w b) : MadeQ w.drew b := h
theorem MadeM.otherK {w : World} {b b' j : Nat} {u : Value} (h : MadeM w b) (hb : b ≠ b') : MadeM (w.setCell ⟨b', j, none⟩ u) b := h.same fun k h1 h2 => Below.heap_setCell _ _ _ _ (by simp; omega)
theorem MadeQ.otherK {w : World} {b b' j : Nat} {u : Value} (h : MadeQ w b) (hb : b ≠ b') : MadeQ (w.setCell ⟨b', j, none⟩ u) b := h.same fun k h1 h2 => Below.heap_setCell _ _ _ _ (by simp; omega)

end Go.Proofs.YteelpikhijkmdaaDoor
