/-
  What the laws' own copying, measuring, comparing of memory do.
-/
import Derived.Test.YtjegndgdpmlbaaaKOC
import Derived.Test.YtjegndgdpmlbaaaKOA
namespace Go.Proofs.Ytjegndgdpmlbaaa
open Go.RowKit

end Go.Proofs.Ytjegndgdpmlbaaa

/-
  What the laws' own marking of memory, and their looking for the marks, do.
-/
namespace Go.Proofs.Ytjegndgdpmlbaaa
open Go.RowKit

/-- Numbers one behind the other. -/
def mk (k n : Nat) : List Int := (List.range n).map fun j => ((k + j : Nat) : Int)

theorem Amid.wide {lo hi lo' hi' : Nat} {w w' : World} (h : Amid lo hi w w') (h1 : lo' ≤ lo) (h2 : hi ≤ hi') : Amid lo' hi' w w' := ⟨h.os, h.tape, h.output, h.size, fun k hk => h.block k (by omega)⟩

end Go.Proofs.Ytjegndgdpmlbaaa

/-
  What the law's own comparing of two tables does where both hold the same.
-/
namespace Go.Proofs.Ytjegndgdpmlbaaa
open Go.RowKit
end Go.Proofs.Ytjegndgdpmlbaaa

/-
  What the law's own marking of tables, and its looking for the marks, do.
-/
namespace Go.Proofs.Ytjegndgdpmlbaaa
open Go.RowKit

/-- All blocks but one are as they were. -/
structure Only (b : Nat) (w w' : World) : Prop where
  os : w'.os = w.os
  tape : w'.tape = w.tape
  output : w'.output = w.output
  size : w'.heap.size = w.heap.size
  block : ∀ k, k ≠ b → w'.heap[k]? = w.heap[k]?
theorem Only.refl (b : Nat) (w : World) : Only b w w := ⟨rfl, rfl, rfl, rfl, fun _ _ => rfl⟩
theorem Only.put {b : Nat} {w w' : World} (h : Only b w w') (j : Nat) (u : Value) : Only b w (w'.setCell ⟨b, j, none⟩ u) :=
  ⟨h.os, h.tape, h.output, by simpa [World.setCell] using h.size, fun k hk => (Below.heap_setCell _ _ _ _ (by simpa using hk)).trans (h.block k hk)⟩
theorem Only.below {b B : Nat} {w w' : World} (h : Only b w w') (hB : B ≤ b) : Below B w w' := ⟨h.os, h.tape, h.output, Nat.le_of_eq h.size.symm, fun k hk => h.block k (by omega)⟩
theorem Ents.only {b : Nat} {w w' : World} {b' o : Nat} {es : List E3} (h : Ents w b' o es) (ho : Only b w w') (hn : b' ≠ b) : Ents w' b' o es := fun i hi =>
  ⟨(World.cell?_of_block (a := ⟨b', o + i * 3, none⟩) (ho.block b' hn)).trans (h i hi).1, (World.cell?_of_block (a := ⟨b', o + i * 3 + 1, none⟩) (ho.block b' hn)).trans (h i hi).2.1, (World.cell?_of_block (a := ⟨b', o + i * 3 + 2, none⟩) (ho.block b' hn)).trans (h i hi).2.2⟩
theorem Room.only {b : Nat} {w w' : World} {b' n : Nat} (h : Room w b' n) (ho : Only b w w') (hn : b' ≠ b) : Room w' b' n := fun j hj =>
  ⟨(h j hj).1.imp fun _ hv => (World.cell?_of_block (a := ⟨b', j, none⟩) (ho.block b' hn)).trans hv, (World.frozen?_of_block (a := ⟨b', j, none⟩) (ho.block b' hn)).trans (h j hj).2⟩

end Go.Proofs.Ytjegndgdpmlbaaa
