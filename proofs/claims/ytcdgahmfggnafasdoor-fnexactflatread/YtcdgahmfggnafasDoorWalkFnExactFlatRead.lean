/-
  The walk of the law FnExactFlatRead: whatever the memory and the place, both functions give the same, and the memory is left as it was.
-/
import Derived.Test.YtcdgahmfggnafasDoorFlatSpec1
import Derived.Test.YtcdgahmfggnafasDoorWalkFnExactMemOk
namespace Go.Proofs.YtcdgahmfggnafasDoor
open Go.RowKit

set_option maxHeartbeats 2000000 in
theorem walk_FnExactFlatRead (a : Option Addr) (len cap : Nat) (ms : List (List Int)) (p o : Int) (w : World) (hg : ErrT w) (hA : ArgMem w a len ms) (_wf1 : (Lit.int .i64 p).wf = true) (_wf2 : (Lit.int .i64 o).wf = true) :
    Calls Tryd.prog 3 #[.slice a len cap, .int .i64 p, .int .i64 o] w fun e w' => e = .returned (.bool true) ∧ Below w.heap.size w w' := by
  obtain ⟨hM, hm, hL⟩ := hA
  go_enter Tryd.func3, Tryd.ntmps3
  go_wp2_with (fail)
  refine (szIntSS_any 0 w.heap.size a len cap ms _ hM hm hL).mono ?_
  rintro e w1 ⟨rfl, rfl | ⟨n, rfl, hs⟩⟩
  · go_wp2
    go_ret
    exact ⟨rfl, Below.refl _ _⟩
  · obtain ⟨hn, ht, hL⟩ := sz_facts hM.1 hs
    go_wp2_with (fail)
    refine (toIntSS_any 0 _ a len cap ms _ hM (Nat.le_refl _) hn hL).mono ?_
    rintro e w2 ⟨rfl, M2, B2⟩
    go_wp2_with (fail)
    refine (specFlatRead _ _ _ len len ms p o _ M2.mem hn hL).mono ?_
    rintro e w3 ⟨rfl, rfl⟩
    have B03 := B2
    go_wp2_with (fail)
    refine (toIntSS_any 0 w1.heap.size a len cap ms _ (hM.later B03) B03.size hn hL).mono ?_
    rintro e w4 ⟨rfl, M4, B4⟩
    have B04 := B03.trans (B4.mono B03.size)
    go_wp2_with (fail)
    refine (implFlatRead _ _ _ len len ms p o _ (hg.on B04) M4.mem (Nat.le_refl _) hn).mono ?_
    rintro e w5 ⟨rfl, B5⟩
    have B05 := B04.trans (B5.mono B04.size)
    have M5 := M4.mem.same (below_sameIn B5 (Nat.le_refl _))
    go_wp2_with (fail)
    refine (toIntSS_any 0 w1.heap.size a len cap ms _ (hM.later B05) B05.size hn hL).mono ?_
    rintro e w6 ⟨rfl, M6, B6⟩
    have B06 := B05.trans (B6.mono B05.size)
    have M5 := M5.same (below_sameIn B6 B5.size)
    go_wp2_with (fail)
    refine (eqIntSS_same _ _ _ _ _ _ len len len ms _ M5 M6.mem (Nat.le_trans B5.size B6.size) (Nat.le_refl _) hn hL).mono ?_
    rintro e w7 ⟨rfl, B7⟩
    go_wp2
    go_ret
    exact ⟨rfl, B06.trans (B7.mono B06.size)⟩
end Go.Proofs.YtcdgahmfggnafasDoor
