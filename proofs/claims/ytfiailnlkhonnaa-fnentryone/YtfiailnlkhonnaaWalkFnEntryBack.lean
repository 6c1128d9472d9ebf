/-
  The walk of the law FnEntryBack.
-/
import Derived.Test.YtfiailnlkhonnaaTab
namespace Go.Proofs.Ytfiailnlkhonnaa
open Go.RowKit

/-- The word of an entry. -/
def numE (h : Bool) (p : Int) (b : Bool) : Int := bif h then (bif b then 1 + 2 * p + 1 else 1 + 2 * p) else 0

/-- What an ok entry is: nothing; one of a page of the table; one that a guest may give, which its word tells. -/
theorem ok_cases (h : Bool) (p : Int) (b : Bool) (hO : okE (h, p, b) = true) :
    (h = false ∧ p = 0 ∧ b = false ∧ inW (numE h p b) = false ∧ pgW (numE h p b) = 0 ∧ wrW (numE h p b) = false) ∨
    (h = true ∧ p < 2 ∧ inW (numE h p b) = false ∧ pgW (numE h p b) = 0 ∧ wrW (numE h p b) = false) ∨
    (h = true ∧ ¬ p < 2 ∧ inW (numE h p b) = true ∧ pgW (numE h p b) = p ∧ wrW (numE h p b) = b) := by
  cases h
  · have hh : p = 0 ∧ b = false := by simpa [okE] using hO
    obtain ⟨rfl, rfl⟩ := hh
    exact Or.inl ⟨rfl, rfl, rfl, rfl, rfl, rfl⟩
  · have hh : 0 ≤ p ∧ p ≤ 5 := by simpa [okE] using hO
    by_cases h2 : p < 2
    · have hI : inW (numE true p b) = false := inW_f (by cases b <;> simp only [numE, cond_true, cond_false] <;> omega)
      exact Or.inr (Or.inl ⟨rfl, h2, hI, by simp [pgW, hI], by simp [wrW, hI]⟩)
    · have hI : inW (numE true p b) = true := inW_t (by cases b <;> simp only [numE, cond_true, cond_false] <;> omega) (by cases b <;> simp only [numE, cond_true, cond_false] <;> omega)
      refine Or.inr (Or.inr ⟨rfl, h2, hI, ?_, ?_⟩)
      · simp only [pgW, hI, cond_true]
        cases b <;> simp only [numE, cond_true, cond_false] <;> omega
      · simp only [wrW, hI, Bool.true_and]
        cases b
        · simp only [numE, cond_true, cond_false, beq_eq_false_iff_ne]; omega
        · simp only [numE, cond_true, beq_iff_eq]; omega

set_option maxHeartbeats 1000000 in
theorem walk_FnEntryBack (a0 : Option Addr) (len0 cap0 : Nat) (z0 : List Int) (w : World) (w0 : IsRow .u8 w a0 len0 cap0 z0) :
    Calls Try.prog 3 #[.slice a0 len0 cap0] w fun e w' => e = .returned (.bool true) ∧ Below w.heap.size w w' := by
  by_cases hbig : (1048576 : Int) < (len0 : Int)
  · go_enter Try.func3, Try.ntmps3
    go_wp2
    go_ret
    exact ⟨rfl, Below.refl _ _⟩
  · go_enter Try.func3, Try.ntmps3
    go_wp2_with (go_at_call 7; refine (drawEntryNum a0 len0 cap0 z0 _ w0).mono ?_; rintro e w1 ⟨h, p, b, rfl, hp0, hp1, hb1⟩)
    have hM : ∀ w, Calls Try.prog 8 #[.agg #[.bool h, .int .i64 p, .bool b]] w fun e w' => e = .returned (.int .i64 (numE h p b)) ∧ Below w.heap.size w w' := fun w => implEntryNum h p b w (by omega) (by omega)
    have hS : ∀ w, Calls Try.prog 9 #[.agg #[.bool h, .int .i64 p, .bool b]] w fun e w' => e = .returned (.int .i64 (numE h p b)) ∧ Below w.heap.size w w' := fun w => specEntryNum h p b w (by omega) (by omega)
    have s1 := hb1.size
    refine (hM _).mono ?_
    rintro e w2 ⟨rfl, hb2⟩
    obtain ⟨a0, a1, a2⟩ := keep3 hb2 w1.heap.size (by simp)
    have s2 : w1.heap.size < w2.heap.size := lt_size hb2 (by simp)
    go_wp2_with (fail)
    refine (hS _).mono ?_
    rintro e w3 ⟨rfl, hb3⟩
    obtain ⟨b0, b1, b2⟩ := keep3 hb3 w1.heap.size (by simpa using s2)
    have s3 : w1.heap.size < w3.heap.size := lt_size hb3 (by simpa using s2)
    go_wp2_with (fail)
    refine (specTab6 h p b h p b _ w3).mono ?_
    rintro e w4 ⟨rfl, hb4⟩
    obtain ⟨c0, c1, c2⟩ := keep3 hb4 w1.heap.size (by omega)
    have s4 : w1.heap.size < w4.heap.size := by have := hb4.size; simp at this; omega
    rw [Bool.and_self]
    cases hO : okE (h, p, b)
    · go_wp2_with (fail)
      refine (hS _).mono ?_
      rintro e w5 ⟨rfl, hb5⟩
      have s5 := hb5.size
      go_wp2
      go_ret
      refine ⟨rfl, ?_⟩
      (repeat' (with_reducible (first | exact Below.refl _ _ | apply Below.setCell | apply Below.alloc | apply below_drewN | apply Below.drew | refine Below.trans ?_ (Below.mono (by assumption) ?_)))) <;> (first | exact Nat.le_refl _ | (simp; done) | (simp; omega) | (simp at *; omega))
    · have hX := fun w => implEntryOf (numE h p b) w
      unfold ent at hX
      rcases ok_cases h p b hO with ⟨rfl, rfl, rfl, e1, e2, e3⟩ | ⟨rfl, hp, e1, e2, e3⟩ | ⟨rfl, hp, e1, e2, e3⟩
      all_goals
        rw [e1, e2, e3] at hX
        clear e1 e2 e3
        go_wp2_with (fail)
        refine (hX _).mono ?_
        rintro e w5 ⟨rfl, hb5⟩
        obtain ⟨d0, d1, d2⟩ := keep3 hb5 w1.heap.size (by simpa using s4)
        have s5 : w1.heap.size < w5.heap.size := lt_size hb5 (by simpa using s4)
        go_wp2
        go_ret
        refine ⟨rfl, ?_⟩
        (repeat' (with_reducible (first | exact Below.refl _ _ | apply Below.setCell | apply Below.alloc | apply below_drewN | apply Below.drew | refine Below.trans ?_ (Below.mono (by assumption) ?_)))) <;> (first | exact Nat.le_refl _ | (simp; done) | (simp; omega) | (simp at *; omega))
end Go.Proofs.Ytfiailnlkhonnaa
