/-
  Acts, plainly: whose they are, when they are tidy, told by looking ahead (as the given one does) and by keeping each guest's last act (as the program does).
-/
import Derived.Test.YteelpikhijkmdaaDoorBase
namespace Go.Proofs.YteelpikhijkmdaaDoor
open Go.RowKit

/-- An act: kind, guest, page, place, word. -/
abbrev A5 := Int × Int × Int × Int × Int
def noA : A5 := (0, 0, 0, 0, 0)
def ownA (a : A5) : Bool := decide (1 ≤ a.1) && decide (a.1 ≤ 5)
def toTab (a : A5) : Bool := a.1 == 2 && decide (a.2.2.1 < 2)
/-- Whether the next one of a guest's own lets shades be forgotten, or there is none. -/
def nextA : List A5 → Int → Bool
  | [], _ => true
  | a :: l, g => bif a.2.1 == g && ownA a then a.1 == 5 else nextA l g
def tidyA : List A5 → Bool
  | [] => true
  | a :: l => bif toTab a && !nextA l a.2.1 then false else tidyA l
def updA (L : Int → A5) (g : Int) (a : A5) (g' : Int) : A5 := if g' = g then a else L g'
theorem updA_same (L : Int → A5) (g : Int) (a : A5) : updA L g a g = a := if_pos rfl
theorem updA_other (L : Int → A5) {g g' : Int} (a : A5) (h : g' ≠ g) : updA L g a g' = L g' := if_neg h
def runA : (Int → A5) → List A5 → Bool
  | _, [] => true
  | L, a :: l => bif ownA a then (bif toTab (L a.2.1) && !(a.1 == 5) then false else runA (updA L a.2.1 a) l) else runA L l

theorem toTab_own {a : A5} (h : toTab a = true) : ownA a = true := by
  simp [toTab] at h
  simp [ownA, h.1]
theorem runA_iff : ∀ (l : List A5) (L : Int → A5), runA L l = true ↔ tidyA l = true ∧ ∀ g, toTab (L g) = true → nextA l g = true
  | [], L => by simp [runA, tidyA, nextA]
  | a :: l, L => by
    cases ho : ownA a
    · have ht : toTab a = false := by
        cases h : toTab a
        · rfl
        · rw [toTab_own h] at ho; cases ho
      have ih := runA_iff l L
      simp only [runA, ho, tidyA, ht, nextA, Bool.and_false, Bool.false_and, cond]
      exact ih
    · have ih := runA_iff l (updA L a.2.1 a)
      simp only [runA, ho, tidyA, nextA, Bool.and_true, cond_true]
      cases hx : toTab (L a.2.1) && !(a.1 == 5)
      · rw [cond_false, ih]
        constructor
        · rintro ⟨h1, h2⟩
          refine ⟨?_, fun g hg => ?_⟩
          · cases ht : toTab a
            · simpa using h1
            · have := h2 a.2.1 (by rw [updA_same]; exact ht)
              simpa [this] using h1
          · by_cases hga : a.2.1 = g
            · subst hga
              rw [show (a.2.1 == a.2.1) = true by simp, cond_true]
              rw [hg] at hx
              simpa using hx
            · rw [show (a.2.1 == g) = false by simpa using hga, cond_false]
              exact h2 g (by rw [updA_other L a (fun e => hga e.symm)]; exact hg)
        · rintro ⟨h1, h2⟩
          have h3 : (toTab a && !nextA l a.2.1) = false := by
            cases h : toTab a && !nextA l a.2.1
            · rfl
            · rw [h] at h1; cases h1
          rw [h3, cond_false] at h1
          refine ⟨h1, fun g hg => ?_⟩
          by_cases hga : g = a.2.1
          · subst hga
            rw [updA_same] at hg
            rw [hg] at h3
            simpa using h3
          · rw [updA_other L a hga] at hg
            have := h2 g hg
            rwa [show (a.2.1 == g) = false by simpa using fun e => hga e.symm, cond_false] at this
      · rw [cond_true]
        constructor
        · intro h; cases h
        · rintro ⟨_, h2⟩
          simp only [Bool.and_eq_true] at hx
          have := h2 a.2.1 hx.1
          rw [show (a.2.1 == a.2.1) = true by simp, cond_true] at this
          rw [this] at hx
          simp at hx
/-- What the program keeps and what the given one looks for come to the same. -/
theorem runA_tidy (l : List A5) : runA (fun _ => noA) l = tidyA l := by
  have h := runA_iff l (fun _ => noA)
  have h0 : ∀ g : Int, toTab ((fun _ => noA) g) = true → nextA l g = true := fun g hg => by
    have : toTab noA = false := by decide
    rw [show ((fun _ => noA : Int → A5) g) = noA from rfl, this] at hg
    cases hg
  cases h1 : runA (fun _ => noA) l <;> cases h2 : tidyA l
  · rfl
  · exact absurd (h.2 ⟨h2, h0⟩) (by rw [h1]; decide)
  · exact absurd (h.1 h1).1 (by rw [h2]; decide)
  · rfl
end Go.Proofs.YteelpikhijkmdaaDoor
