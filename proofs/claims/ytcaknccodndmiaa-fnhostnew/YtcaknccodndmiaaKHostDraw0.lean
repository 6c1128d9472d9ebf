/-
  What DrawHostNew draws.
-/
import Derived.Test.YtcaknccodndmiaaKMemDraw1
namespace Go.Proofs.Ytcaknccodndmiaa
open Go.RowKit


set_option maxHeartbeats 1000000 in
theorem drawHostNew (a : Option Addr) (len cap : Nat) (zs : List Int) (w : World) (h : IsRow .u8 w a len cap zs) :
    Calls Try.prog 14 #[.slice a len cap] w fun e w' => ∃ n : Int, e = .returned (.int .i64 n) ∧ -1 ≤ n ∧ n ≤ 3 ∧ Below w.heap.size w w' := by
  go_enter Try.func14, Try.ntmps14
  go_wp2_with (fail)
  refine (open_any a len cap zs _ h).mono ?_
  rintro e w1 ⟨rfl, len', hl', rfl⟩
  have hr := rd_new h hl' 0 117
  have B0 : Below w.heap.size w (w.alloc (.cells #[.slice a len' cap, .int .i64 ((0 : Nat) : Int)] 117)) := (Below.refl _ _).alloc (Nat.le_refl _) _
  go_wp2_with (fail)
  refine (pickA w.heap.size 0 5 _ hr (by omega) (by omega) (by omega)).mono ?_
  rintro e w2 ⟨v, rfl, hv, _, ha⟩
  have B2 := B0.trans (ha.below (Nat.le_refl _) (by simp))
  clear ha
  go_wp2
  go_ret
  exact ⟨_, rfl, by omega, by omega, B2⟩

end Go.Proofs.Ytcaknccodndmiaa
