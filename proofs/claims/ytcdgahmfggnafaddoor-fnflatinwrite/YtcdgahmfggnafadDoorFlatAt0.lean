/-
  An entry in a block of its own.
-/
import Derived.Test.YtcdgahmfggnafadDoorFlatDraw0
namespace Go.Proofs.YtcdgahmfggnafadDoor
open Go.RowKit

def At3F (w : World) (b : Nat) (h : Bool) (p : Int) (x : Bool) : Prop := b < w.heap.size ∧ w.cell? ⟨b, 0, none⟩ = some (.bool h) ∧ w.cell? ⟨b, 1, none⟩ = some (.int .i64 p) ∧ w.cell? ⟨b, 2, none⟩ = some (.bool x)
theorem At3F.below {w w' : World} {b : Nat} {h : Bool} {p : Int} {x : Bool} (a : At3F w b h p x) (hB : Below w.heap.size w w') : At3F w' b h p x :=
  ⟨Nat.lt_of_lt_of_le a.1 hB.size, (hB.cell (p := ⟨b, 0, none⟩) a.1).trans a.2.1, (hB.cell (p := ⟨b, 1, none⟩) a.1).trans a.2.2.1, (hB.cell (p := ⟨b, 2, none⟩) a.1).trans a.2.2.2⟩
theorem at3_newF (w : World) (h : Bool) (p : Int) (x : Bool) (t : TypeId) : At3F (w.alloc (.cells #[.bool h, .int .i64 p, .bool x] t)) w.heap.size h p x := ⟨by simp, by simp, by simp, by simp⟩
theorem wiB_pos {ms : List (List Int)} {p o : Nat} {z : Int} (h : wiB ms p o z = true) : 0 ≤ wiG ms p o z := by
  have h' := h
  simp only [wiB, Bool.and_eq_true] at h'
  obtain ⟨hg, he, hw⟩ := h'
  obtain ⟨P, O, e1, e2, hP, hO⟩ := goodR_nat (goodW_R hg)
  obtain ⟨ho, h6⟩ := tabB_ok (goodR_tab (goodW_R hg))
  have hb := entOf_bd he
  rw [wiG, hg, he, hw]
  exact (atM_bd (P := (entOf ms p).2.1.toNat) ho (by omega) (by omega)).1
end Go.Proofs.YtcdgahmfggnafadDoor
