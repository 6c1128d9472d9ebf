/-
  The walk of the law FnExactMemNew: whatever the number, both functions give the same, and the answer lies in memory of its own.
-/
import Derived.Test.YtofiajllhffjcayWalkFnExactMemOk
namespace Go.Proofs.Ytofiajllhffjcay
open Go.RowKit

theorem tot_four {ms : List (List Int)} (h : ∀ i, i < ms.length → (ms.getD i []).length = 4) (k : Nat) (hk : k ≤ ms.length) : tot ms k = 4 * k := by
  induction k with
  | zero => simp [tot]
  | succ k ih => rw [tot_step hk, ih (by omega), h k hk]; omega

set_option maxHeartbeats 2000000 in
theorem walk_FnExactMemNew (n : Int) (w : World) (_wf : (Lit.int .i64 n).wf = true) :
    Calls Try.prog 3 #[.int .i64 n] w fun e w' => e = .returned (.bool true) ∧ Below w.heap.size w w' := by
  have hl := newM_len n
  have h4 := newM_four n
  have hn : (newM n).length ≤ 1048576 := by omega
  have hL : ∀ i, i < (newM n).length → ((newM n).getD i []).length ≤ 1048576 := fun i hi => by rw [h4 i hi]; omega
  have ht : tot (newM n) (newM n).length ≤ 4194304 := by rw [tot_four h4 _ (Nat.le_refl _)]; omega
  have hS := specMemNew n
  have hI := implMemNew n
  have hlen : (newM n).length = (newM n).length := rfl
  generalize newM n = ms at hS hI hl h4 hn hL ht hlen
  generalize hlm : ms.length = len at hS hI hn hL ht
  clear hl h4 hlen
  go_enter Try.func3, Try.ntmps3
  go_wp2_with (fail)
  refine (hS _).mono ?_
  rintro e w1 ⟨aw, cw, rfl, Mw, B1⟩
  have Mw := Mw.mem
  go_wp2_with (fail)
  refine (hI _).mono ?_
  rintro e w2 ⟨ag, cg, rfl, Mg, B2⟩
  have B02 := B1.trans (B2.mono B1.size)
  have Mw := Mw.same (below_sameIn B2 (Nat.le_refl _))
  go_wp2_with (fail)
  refine (eqIntSS_same _ _ _ _ _ _ len _ _ ms _ Mg.mem Mw (Nat.le_refl _) B2.size hn hL).mono ?_
  rintro e w3 ⟨rfl, B3⟩
  have B03 := B02.trans (B3.mono B02.size)
  have Mw := Mw.same (below_sameIn B3 B2.size)
  have Mg := Mg.same (below_sameIn B3 (Nat.le_refl _))
  go_wp2_with (fail)
  refine (markIntSS_any _ _ _ len _ 1 ms _ Mg hn ht (by omega)).mono ?_
  rintro e w4 ⟨rfl, Mk, A4⟩
  have B04 := B03.trans (A4.below B1.size)
  have Mw := Mw.same (A4.same (Or.inl (Nat.le_refl _)))
  have Mk := Mk.mem
  have s4 : w2.heap.size ≤ w4.heap.size := by rw [A4.size]; exact B3.size
  have hneg : ¬ ((1 + tot ms len : Nat) : Int) < 0 := by omega
  clear A4 Mg
  go_wp2_with (fail)
  refine (heldIntSS_any _ _ _ len _ 1 ms _ hlm Mk hn ht (by omega)).mono ?_
  rintro e w5 ⟨rfl, rfl⟩
  go_wp2_with (fail)
  refine (hI _).mono ?_
  rintro e w6 ⟨ah, ch, rfl, Mh, B6⟩
  have B06 := B04.trans (B6.mono B04.size)
  have Mw := Mw.same (below_sameIn B6 (Nat.le_trans B2.size s4))
  have Mk := Mk.same (below_sameIn B6 s4)
  go_wp2_with (fail)
  refine (eqIntSS_same _ _ _ _ _ _ len _ _ ms _ Mh.mem Mw (Nat.le_refl _) (Nat.le_trans (Nat.le_trans B2.size s4) B6.size) hn hL).mono ?_
  rintro e w7 ⟨rfl, B7⟩
  have B07 := B06.trans (B7.mono B06.size)
  have Mk := Mk.same (below_sameIn B7 (Nat.le_trans s4 B6.size))
  go_wp2_with (fail)
  refine (heldIntSS_any _ _ _ len _ 1 ms _ hlm Mk hn ht (by omega)).mono ?_
  rintro e w8 ⟨rfl, rfl⟩
  go_wp2
  go_ret
  exact ⟨rfl, B07⟩
end Go.Proofs.Ytofiajllhffjcay
