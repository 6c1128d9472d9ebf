/-
  What the functions from a word to an entry do: the program's own and the given one.
-/
import Derived.Test.YteelpikhijkmdaaDoorKA
import Derived.Test.YteelpikhijkmdaaDoorKC
namespace Go.Proofs.YteelpikhijkmdaaDoor
open Go.RowKit

end Go.Proofs.YteelpikhijkmdaaDoor

/-
  What MemTab does: the program's own and the given one.
-/
namespace Go.Proofs.YteelpikhijkmdaaDoor
open Go.RowKit

def tabB (ms : List (List Int)) : Bool := okM ms && (ms.length == 6)

/-- A list of entries in a block between two. -/
def HasEnts (w : World) (lo hi : Nat) (a : Option Addr) (len : Nat) (es : List E3) : Prop := es.length = len ∧ (len = 0 ∨ ∃ T, a = some ⟨T, 0, none⟩ ∧ lo ≤ T ∧ T < hi ∧ Ents w T 0 es)
def OwnEnts (w : World) (lo hi : Nat) (a : Option Addr) (len : Nat) (es : List E3) : Prop := es.length = len ∧ (len = 0 ∨ ∃ T, a = some ⟨T, 0, none⟩ ∧ lo ≤ T ∧ T < hi ∧ Ents w T 0 es ∧ Room w T (len * 3))
theorem Ents.same {lo hi : Nat} {w w' : World} (s : SameIn lo hi w w') {b o : Nat} {es : List E3} (h : Ents w b o es) (hl : lo ≤ b) (hh : b < hi) : Ents w' b o es := fun i hi =>
  ⟨(s.cell hl hh).trans (h i hi).1, (s.cell hl hh).trans (h i hi).2.1, (s.cell hl hh).trans (h i hi).2.2⟩
theorem Room.sameM {lo hi : Nat} {w w' : World} (s : SameIn lo hi w w') {b n : Nat} (h : Room w b n) (hl : lo ≤ b) (hh : b < hi) : Room w' b n := fun j hj =>
  ⟨(h j hj).1.imp fun _ hv => (s.cell hl hh).trans hv, (s.frozen hl hh).trans (h j hj).2⟩
theorem HasEnts.same {lo hi : Nat} {w w' : World} (s : SameIn lo hi w w') {a : Option Addr} {len : Nat} {es : List E3} (h : HasEnts w lo hi a len es) : HasEnts w' lo hi a len es := by
  obtain ⟨h1, h2⟩ := h
  rcases h2 with h2 | ⟨T, e, g1, g2, g3⟩
  · exact ⟨h1, Or.inl h2⟩
  · exact ⟨h1, Or.inr ⟨T, e, g1, g2, g3.same s g1 g2⟩⟩
theorem OwnEnts.same {lo hi : Nat} {w w' : World} (s : SameIn lo hi w w') {a : Option Addr} {len : Nat} {es : List E3} (h : OwnEnts w lo hi a len es) : OwnEnts w' lo hi a len es := by
  obtain ⟨h1, h2⟩ := h
  rcases h2 with h2 | ⟨T, e, g1, g2, g3, g4⟩
  · exact ⟨h1, Or.inl h2⟩
  · exact ⟨h1, Or.inr ⟨T, e, g1, g2, g3.same s g1 g2, g4.sameM s g1 g2⟩⟩

end Go.Proofs.YteelpikhijkmdaaDoor
