/-
  The walk of the law FnExactEntryNum: whatever the entry, both functions give the same word.
-/
import Derived.Test.YtfiailnlkhonnavBase
namespace Go.Proofs.Ytfiailnlkhonnav
open Go.RowKit

theorem method_gapNum (w : World) : Sem.run Try.prog (method 214 74 (.agg #[]) "loop.example/casket/impl.num") w = .ok (77, .agg #[]) w := by kernel_rfl
theorem method_leadNum (p : Int) (b : Bool) (w : World) : Sem.run Try.prog (method 214 76 (.agg #[.int .i64 p, .bool b]) "loop.example/casket/impl.num") w = .ok (80, .agg #[.int .i64 p, .bool b]) w := by kernel_rfl

set_option maxHeartbeats 400000 in
theorem toEntry_any (h : Bool) (p : Int) (b : Bool) (w : World) :
    Calls Try.prog 13 #[.agg #[.bool h, .int .i64 p, .bool b]] w fun e w' => e = .returned (.agg #[.bool h, .int .i64 p, .bool b]) ∧ ∃ o1 o2 o3, w' = ((w.alloc o1).alloc o2).alloc o3 := by
  go_enter Try.func13, Try.ntmps13
  go_wp2
  refine bodyPost_ret (v := .agg #[.bool h, .int .i64 p, .bool b]) ?res rfl ⟨rfl, _, _, _, rfl⟩
  case res => simp [results, Try.results13, go_sem]

set_option maxHeartbeats 1000000 in
theorem walk_FnExactEntryNum (h : Bool) (p : Int) (b : Bool) (w : World) :
    Calls Try.prog 4 #[.agg #[.bool h, .int .i64 p, .bool b]] w fun e w' => e = .returned (.bool true) ∧ Below w.heap.size w w' := by
  have m1 := method_gapNum
  have m2 := method_leadNum
  cases h <;> cases b
  all_goals
    go_enter Try.func4, Try.ntmps4
    go_wp2_with (first | (go_at_call 13; refine (toEntry_any _ _ _ _).mono ?_; rintro e w' ⟨rfl, o1, o2, o3, rfl⟩) | go_in)
    go_ret
    refine ⟨rfl, ?_⟩
    (repeat' (with_reducible (first | exact Below.refl _ _ | apply Below.setCell | apply Below.alloc | apply below_drewN | apply Below.drew | refine Below.trans ?_ (Below.mono (by assumption) ?_)))) <;> (first | exact Nat.le_refl _ | (simp; done) | (simp; omega) | (simp at *; omega))
end Go.Proofs.Ytfiailnlkhonnav
