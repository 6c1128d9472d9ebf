/-
  The walk of the law FnExactEntryOf: whatever the word, both functions give the same entry.
-/
import Derived.Test.YtfiailnlkhonnawEntryOf
namespace Go.Proofs.Ytfiailnlkhonnaw
open Go.RowKit

set_option maxHeartbeats 400000 in
theorem eqEntry_same (h : Bool) (p : Int) (b : Bool) (w : World) :
    Calls Try.prog 10 #[.agg #[.bool h, .int .i64 p, .bool b], .agg #[.bool h, .int .i64 p, .bool b]] w fun e w' => e = .returned (.bool true) ∧ Below w.heap.size w w' := by
  go_enter Try.func10, Try.ntmps10
  go_wp2
  all_goals
    go_ret
    refine ⟨rfl, ?_⟩
    (repeat' (with_reducible (first | exact Below.refl _ _ | apply Below.setCell | apply Below.alloc | apply below_drewN | apply Below.drew | refine Below.trans ?_ (Below.mono (by assumption) ?_)))) <;> (first | exact Nat.le_refl _ | (simp; done) | (simp; omega) | (simp at *; omega))

set_option maxHeartbeats 1000000 in
theorem walk_FnExactEntryOf (n : Int) (w : World) (wf : (Lit.int .i64 n).wf = true) :
    Calls Try.prog 3 #[.int .i64 n] w fun e w' => e = .returned (.bool true) ∧ Below w.heap.size w w' := by
  have bd := bounds_i64 wf
  have hI := fun w => implEntryOf n w
  have hS := fun w => specEntryOf n w (by omega) (by omega)
  unfold ent at hI hS
  go_enter Try.func3, Try.ntmps3
  go_wp2_with (fail)
  refine (hS _).mono ?_
  rintro e w1 ⟨rfl, hb1⟩
  have s1 := hb1.size
  go_wp2_with (fail)
  refine (hI _).mono ?_
  rintro e w2 ⟨rfl, hb2⟩
  obtain ⟨a0, a1, a2⟩ := keep3 hb2 w1.heap.size (by simp)
  have s2 : w1.heap.size < w2.heap.size := lt_size hb2 (by simp)
  go_wp2_with (fail)
  refine (eqEntry_same _ _ _ _).mono ?_
  rintro e w3 ⟨rfl, hb3⟩
  have s3 := hb3.size
  go_wp2
  go_ret
  refine ⟨rfl, ?_⟩
  (repeat' (with_reducible (first | exact Below.refl _ _ | apply Below.setCell | apply Below.alloc | apply below_drewN | apply Below.drew | refine Below.trans ?_ (Below.mono (by assumption) ?_)))) <;> (first | exact Nat.le_refl _ | (simp; done) | (simp; omega) | (simp at *; omega))
end Go.Proofs.Ytfiailnlkhonnaw
