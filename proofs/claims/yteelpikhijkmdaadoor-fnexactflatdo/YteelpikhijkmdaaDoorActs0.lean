/-
  Acts in memory, and what the given ActsTidy does.
-/
import Derived.Test.YteelpikhijkmdaaDoorTidy0
import Derived.Test.YteelpikhijkmdaaDoorEnts0
namespace Go.Proofs.YteelpikhijkmdaaDoor
open Go.RowKit

def actV (a : A5) : Value := .agg #[.int .i64 a.1, .int .i64 a.2.1, .int .i64 a.2.2.1, .int .i64 a.2.2.2.1, .int .i64 a.2.2.2.2]
/-- A row of acts in memory. -/
def Acts (w : World) (b o : Nat) (xs : List A5) : Prop :=
  ∀ i, i < xs.length → w.cell? ⟨b, o + i * 5, none⟩ = some (.int .i64 (xs.getD i noA).1) ∧ w.cell? ⟨b, o + i * 5 + 1, none⟩ = some (.int .i64 (xs.getD i noA).2.1) ∧ w.cell? ⟨b, o + i * 5 + 2, none⟩ = some (.int .i64 (xs.getD i noA).2.2.1) ∧ w.cell? ⟨b, o + i * 5 + 3, none⟩ = some (.int .i64 (xs.getD i noA).2.2.2.1) ∧ w.cell? ⟨b, o + i * 5 + 4, none⟩ = some (.int .i64 (xs.getD i noA).2.2.2.2)
/-- Acts that came in: none, or a row in old memory. -/
def IsActs (w : World) (a : Option Addr) (len : Nat) (xs : List A5) : Prop :=
  xs.length = len ∧ (len = 0 ∨ ∃ b o, a = some ⟨b, o, none⟩ ∧ b < w.heap.size ∧ Acts w b o xs)
theorem Acts.at {N : Nat} {w w' : World} {b o : Nat} {xs : List A5} (h : Acts w b o xs) (hb : Below N w w') (hN : b < N) {k : Nat} (hk : k < xs.length) {a0 a1 a2 a3 a4 : Int} (he : xs.getD k noA = (a0, a1, a2, a3, a4)) :
    w'.cell? ⟨b, o + k * 5, none⟩ = some (.int .i64 a0) ∧ w'.cell? ⟨b, o + k * 5 + 1, none⟩ = some (.int .i64 a1) ∧ w'.cell? ⟨b, o + k * 5 + 2, none⟩ = some (.int .i64 a2) ∧ w'.cell? ⟨b, o + k * 5 + 3, none⟩ = some (.int .i64 a3) ∧ w'.cell? ⟨b, o + k * 5 + 4, none⟩ = some (.int .i64 a4) := by
  obtain ⟨q0, q1, q2, q3, q4⟩ := h k hk
  rw [he] at q0 q1 q2 q3 q4
  exact ⟨(hb.cell (p := ⟨b, o + k * 5, none⟩) hN).trans q0, (hb.cell (p := ⟨b, o + k * 5 + 1, none⟩) hN).trans q1, (hb.cell (p := ⟨b, o + k * 5 + 2, none⟩) hN).trans q2, (hb.cell (p := ⟨b, o + k * 5 + 3, none⟩) hN).trans q3, (hb.cell (p := ⟨b, o + k * 5 + 4, none⟩) hN).trans q4⟩
theorem Acts.below {N : Nat} {w w' : World} {b o : Nat} {xs : List A5} (h : Acts w b o xs) (hb : Below N w w') (hN : b < N) : Acts w' b o xs := fun _ hi => h.at hb hN hi rfl
theorem IsActs.below {w w' : World} {a : Option Addr} {len : Nat} {xs : List A5} (h : IsActs w a len xs) (hb : Below w.heap.size w w') : IsActs w' a len xs := by
  obtain ⟨hl, h⟩ := h
  rcases h with h | ⟨b, o, rfl, hlt, h⟩
  · exact ⟨hl, Or.inl h⟩
  · exact ⟨hl, Or.inr ⟨b, o, rfl, Nat.lt_of_lt_of_le hlt hb.size, h.below hb hlt⟩⟩
theorem getD_drop (xs : List A5) (k : Nat) (hk : k < xs.length) : xs.drop k = xs.getD k noA :: xs.drop (k + 1) := by
  rw [List.drop_eq_getElem_cons hk]
  congr 1
  rw [List.getD_eq_getElem?_getD, List.getElem?_eq_getElem hk]; rfl

theorem ownA_nextT {x : A5} {l : List A5} {g : Int} (h1 : (x.2.1 == g) = true) (h2 : ownA x = true) : nextA (x :: l) g = (x.1 == 5) := by rw [nextA, h1, h2]; rfl
theorem ownA_nextF {x : A5} {l : List A5} {g : Int} (h : (x.2.1 == g && ownA x) = false) : nextA (x :: l) g = nextA l g := by rw [nextA, h]; rfl

theorem tidyA_stop {x : A5} {l : List A5} (h1 : toTab x = true) (h2 : nextA l x.2.1 = false) : tidyA (x :: l) = false := by rw [tidyA, h1, h2]; rfl
theorem tidyA_go1 {x : A5} {l : List A5} (h1 : toTab x = false) : tidyA (x :: l) = tidyA l := by rw [tidyA, h1]; rfl
theorem tidyA_go2 {x : A5} {l : List A5} (h2 : nextA l x.2.1 = true) : tidyA (x :: l) = tidyA l := by rw [tidyA, h2]; simp

end Go.Proofs.YteelpikhijkmdaaDoor
