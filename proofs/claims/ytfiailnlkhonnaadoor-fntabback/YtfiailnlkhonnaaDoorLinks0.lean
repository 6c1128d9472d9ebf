/-
  An entry as the program tells its kinds apart.
-/
import Derived.Test.YtfiailnlkhonnaaDoorEnts0
namespace Go.Proofs.YtfiailnlkhonnaaDoor
open Go.RowKit

/-- An entry as the program tells its kinds apart. -/
def linkV (e : E3) : Value := bif e.1 then .iface 61 (.agg #[.int .i64 e.2.1, .bool e.2.2]) else .iface 59 (.agg #[])

set_option maxHeartbeats 400000 in
theorem linkOf_any (h : Bool) (p : Int) (b : Bool) (w : World) :
    Calls Tryd.prog 15 #[.agg #[.bool h, .int .i64 p, .bool b]] w fun e w' => e = .returned (linkV (h, p, b)) ∧ ∃ o, w' = w.alloc o := by
  cases h
  all_goals
    go_enter Tryd.func15, Tryd.ntmps15
    go_wp2
    go_ret
    exact ⟨rfl, _, rfl⟩
end Go.Proofs.YtfiailnlkhonnaaDoor
