/-
  Tidy acts, plainly: parts of them, those of one guest, those with what is forgotten behind each, those that go on.
-/
import Derived.Test.YtdnaiifibpbobaaTidy0
namespace Go.Proofs.Ytdnaiifibpbobaa
open Go.RowKit

theorem nextA_own (l : List A5) (g : Int) : nextA (l.filter ownA) g = nextA l g := by
  induction l with
  | nil => rfl
  | cons a l ih =>
    cases ho : ownA a
    · rw [List.filter_cons_of_neg (by rw [ho]; decide), ih]
      simp [nextA, ho]
    · rw [List.filter_cons_of_pos ho]
      simp only [nextA, ih]
theorem tidyA_own (l : List A5) : tidyA (l.filter ownA) = tidyA l := by
  induction l with
  | nil => rfl
  | cons a l ih =>
    cases ho : ownA a
    · rw [List.filter_cons_of_neg (by rw [ho]; decide), ih]
      have ht : toTab a = false := by
        cases h : toTab a
        · rfl
        · rw [toTab_own h] at ho; cases ho
      simp [tidyA, ht]
    · rw [List.filter_cons_of_pos ho]
      simp only [tidyA, ih, nextA_own]
theorem nextA_just (l : List A5) (g : Int) : nextA (l.filter fun a => a.2.1 == g) g = nextA l g := by
  induction l with
  | nil => rfl
  | cons a l ih =>
    cases ho : a.2.1 == g
    · rw [List.filter_cons_of_neg (by simpa using ho), ih]
      simp [nextA, ho]
    · rw [List.filter_cons_of_pos (p := fun a : A5 => a.2.1 == g) ho]
      simp only [nextA, ih]
theorem tidyA_just (l : List A5) (g : Int) (h : tidyA l = true) : tidyA (l.filter fun a => a.2.1 == g) = true := by
  induction l with
  | nil => rfl
  | cons a l ih =>
    have h1 : (toTab a && !nextA l a.2.1) = false := by
      cases hx : toTab a && !nextA l a.2.1
      · rfl
      · rw [tidyA, hx] at h; cases h
    rw [tidyA, h1, cond_false] at h
    cases ho : a.2.1 == g
    · rw [List.filter_cons_of_neg (by simpa using ho)]
      exact ih h
    · rw [List.filter_cons_of_pos (p := fun a : A5 => a.2.1 == g) ho, tidyA]
      have hg : a.2.1 = g := by simpa using ho
      rw [show nextA (l.filter fun a => a.2.1 == g) a.2.1 = nextA l a.2.1 by rw [hg]; exact nextA_just l g, h1, cond_false]
      exact ih h
/-- Each act, and behind it what is forgotten. -/
def tidied (l : List A5) : List A5 := l.flatMap fun a => [a, (5, a.2.1, 0, 0, 0)]
theorem tidied_snoc (l : List A5) (a : A5) : tidied (l ++ [a]) = tidied l ++ [a, (5, a.2.1, 0, 0, 0)] := by simp [tidied]
theorem tidied_len (l : List A5) : (tidied l).length = l.length * 2 := by
  induction l with
  | nil => rfl
  | cons a l ih =>
    rw [show tidied (a :: l) = [a, (5, a.2.1, 0, 0, 0)] ++ tidied l from rfl, List.length_append, ih]
    simp only [List.length_cons, List.length_nil]
    omega
theorem tidyA_tidied (l : List A5) : tidyA (tidied l) = true := by
  induction l with
  | nil => rfl
  | cons a l ih =>
    rw [show tidied (a :: l) = a :: (5, a.2.1, 0, 0, 0) :: tidied l from rfl, tidyA, tidyA, nextA]
    have h1 : (a.2.1 == a.2.1 && ownA (5, a.2.1, 0, 0, 0)) = true := by simp [ownA]
    have h2 : toTab (5, a.2.1, 0, 0, 0) = false := by simp [toTab]
    simp [h2, ih, ownA]
theorem nextA_take (l : List A5) (c : Nat) (g : Int) (h : nextA l g = true) : nextA (l.take c) g = true := by
  induction l generalizing c with
  | nil => rw [List.take_nil]; rfl
  | cons a l ih =>
    cases c with
    | zero => rfl
    | succ c =>
      rw [List.take_succ_cons, nextA]
      rw [nextA] at h
      cases hx : a.2.1 == g && ownA a
      · rw [hx, cond_false] at h
        rw [cond_false]
        exact ih c h
      · rw [hx, cond_true] at h
        rw [cond_true]
        exact h
theorem tidyA_cons {a : A5} {l : List A5} (h : tidyA (a :: l) = true) : (toTab a = true → nextA l a.2.1 = true) ∧ tidyA l = true := by
  cases hx : toTab a && !nextA l a.2.1
  · rw [tidyA, hx, cond_false] at h
    exact ⟨fun ht => by rw [ht] at hx; simpa using hx, h⟩
  · rw [tidyA, hx] at h; cases h
theorem tidyA_mk {a : A5} {l : List A5} (h1 : toTab a = true → nextA l a.2.1 = true) (h2 : tidyA l = true) : tidyA (a :: l) = true := by
  rw [tidyA]
  cases ht : toTab a
  · simpa using h2
  · simp [h1 ht, h2]
theorem tidyA_take (l : List A5) (c : Nat) (h : tidyA l = true) : tidyA (l.take c) = true := by
  induction l generalizing c with
  | nil => rw [List.take_nil]; rfl
  | cons a l ih =>
    cases c with
    | zero => rfl
    | succ c =>
      obtain ⟨h1, h2⟩ := tidyA_cons h
      rw [List.take_succ_cons]
      exact tidyA_mk (fun ht => nextA_take l c _ (h1 ht)) (ih c h2)
theorem tidyA_drop (l : List A5) (c : Nat) (h : tidyA l = true) : tidyA (l.drop c) = true := by
  induction l generalizing c with
  | nil => rw [List.drop_nil]; rfl
  | cons a l ih =>
    cases c with
    | zero => exact h
    | succ c => exact ih c (tidyA_cons h).2
/-- What is forgotten for both guests. -/
def both5 : List A5 := [(5, 0, 0, 0, 0), (5, 1, 0, 0, 0)]
theorem nextA_none (m : List A5) (g g' : Int) (hm : ∀ a ∈ m, a.2.1 = g) (h : g' ≠ g) : nextA m g' = true := by
  induction m with
  | nil => rfl
  | cons a m ih =>
    have : (a.2.1 == g') = false := by
      rw [hm a (List.mem_cons_self ..)]
      simpa using fun e => h e.symm
    rw [nextA, this, Bool.false_and, cond_false]
    exact ih fun b hb => hm b (List.mem_cons_of_mem _ hb)
theorem nextA_both (l m : List A5) (g g' : Int) (hg : g = 0 ∨ g = 1) (hm : ∀ a ∈ m, a.2.1 = g) : nextA (l ++ both5 ++ m) g' = nextA (l ++ both5) g' := by
  induction l with
  | nil =>
    by_cases h0 : g' = 0
    · subst h0; rfl
    · by_cases h1 : g' = 1
      · subst h1; rfl
      · have e0 : ((0 : Int) == g') = false := by simpa using fun e => h0 e.symm
        have e1 : ((1 : Int) == g') = false := by simpa using fun e => h1 e.symm
        simp only [both5, List.nil_append, List.cons_append, nextA, e0, e1, Bool.false_and, cond_false]
        exact nextA_none m g g' hm (by omega)
  | cons a l ih =>
    simp only [List.cons_append, nextA]
    rw [ih]
theorem tidyA_both (l m : List A5) (g : Int) (hg : g = 0 ∨ g = 1) (hm : ∀ a ∈ m, a.2.1 = g) : tidyA (l ++ both5 ++ m) = (tidyA (l ++ both5) && tidyA m) := by
  induction l with
  | nil => simp [both5, tidyA, toTab]
  | cons a l ih =>
    simp only [List.cons_append, tidyA]
    rw [ih, nextA_both l m g a.2.1 hg hm]
    cases toTab a && !nextA (l ++ both5) a.2.1 <;> simp
theorem tidyA_bad (g p : Int) (hp : p < 2) : tidyA [(2, g, p, 0, 5), (3, g, 0, 0, 0)] = false := by simp [tidyA, toTab, nextA, ownA, hp]
theorem tidyA_good (g p : Int) : tidyA [(2, g, p, 0, 5), (5, g, 0, 0, 0), (3, g, 0, 0, 0)] = true := by simp [tidyA, toTab, nextA, ownA]
end Go.Proofs.Ytdnaiifibpbobaa
