/-
  What the law of HostCarry wants of both sides.
-/
import Derived.Test.YtbhenppclgolpaaKSpecCarry0
import Derived.Test.YtbhenppclgolpaaKImplCarry0
import Derived.Test.YtbhenppclgolpaaKPC
set_option linter.unusedSimpArgs false
namespace Go.Proofs.Ytbhenppclgolpaa
open Go.RowKit
theorem specCarryIG (lo hi : Nat) (af ag : Option Addr) (lf cf n cg : Nat) (h : Hst) (w : World) (hH : HostIn w lo hi (.slice af lf cf) (.slice ag n cg) h) (hlf : h.frames.length = lf) (hn : h.guests.length = n) (hh : hi ≤ w.heap.size) (hS : SmallH h) :
    Calls Try.prog 37 #[.agg #[.slice af lf cf, .slice ag n cg, .int .i64 h.hand]] w fun e w' => GivesI w w' e (carH h) :=
  (specHostCarryG lo hi af ag lf cf n cg h w hH hlf hn hh hS).mono fun _ _ k => k.toI
theorem shaped_HostCarry {h : Hst} : Shaped (carH h) := by
  rw [carH]
  cases hb : okHost h
  · exact shaped_no
  · exact shaped_ok (okHost_mk (car_ok (okHost_of hb)).1)
end Go.Proofs.Ytbhenppclgolpaa
