/-
  What the drawing of memory that may be spoilt gives, whatever the bytes are.
-/
import Derived.Test.YtdamdjhnhkmncaaKMemDraw0
namespace Go.Proofs.Ytdamdjhnhkmncaa
open Go.RowKit

theorem two_new (w : World) (x y : Int) (t : TypeId) : ∀ j, j < 2 → (∃ z, (w.alloc (.cells #[.int .i64 x, .int .i64 y] t)).cell? ⟨w.heap.size, j, none⟩ = some (.int .i64 z)) ∧ (w.alloc (.cells #[.int .i64 x, .int .i64 y] t)).frozen? ⟨w.heap.size, j, none⟩ = false := by
  intro j hj
  match j, hj with
  | 0, _ => exact ⟨⟨x, by simp⟩, by simp⟩
  | 1, _ => exact ⟨⟨y, by simp⟩, by simp⟩

theorem two_get (x y : Int) (j : Nat) (h : j < 2) : ∃ z, ([Value.int .i64 x, .int .i64 y] : List Value)[j]? = some (.int .i64 z) := by
  match j, h with
  | 0, _ => exact ⟨x, rfl⟩
  | 1, _ => exact ⟨y, rfl⟩
/-- Two words in a block. -/
def Two (w : World) (b : Nat) : Prop := b < w.heap.size ∧ ∀ j, j < 2 → ∃ z, w.cell? ⟨b, j, none⟩ = some (.int .i64 z)
theorem Two.adv {rb b : Nat} {w w' : World} (h : Two w b) (ha : Adv rb w w') (hn : rb < b) : Two w' b :=
  ⟨Nat.lt_of_lt_of_le h.1 ha.size, fun j hj => (h.2 j hj).imp fun _ e => (ha.cell (p := ⟨b, j, none⟩) h.1 (by simp; omega)).trans e⟩
theorem two_drew (w : World) (x y : Int) (t : TypeId) : Two (w.drew.alloc (.cells #[.int .i64 x, .int .i64 y] t)) w.heap.size := ⟨by simp, fun j hj => (two_new w.drew x y t j hj).1⟩
theorem two_made (w : World) (x y : Int) (t : TypeId) : Two (w.alloc (.cells #[.int .i64 x, .int .i64 y] t)) w.heap.size := ⟨by simp, fun j hj => (two_new w x y t j hj).1⟩
theorem adv_same1 {rb lo hi : Nat} {w w' : World} {o : Obj} (h : Adv rb (w.alloc o) w') (hr : rb < lo) (hh : hi ≤ w.heap.size) : SameIn lo hi w w' := fun k h1 h2 =>
  (h.block k (by simp; omega) (by omega)).trans (((Below.refl w.heap.size w).alloc (Nat.le_refl _) o).block k (by omega))

end Go.Proofs.Ytdamdjhnhkmncaa
