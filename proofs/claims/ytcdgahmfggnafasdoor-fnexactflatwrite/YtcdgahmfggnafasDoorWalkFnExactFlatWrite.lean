/-
  The walk of the law FnExactFlatWrite: whatever the memory, the place and the word, both functions give the same; the memory is left as it was, and the answer lies in memory of its own.
-/
import Derived.Test.YtcdgahmfggnafasDoorFlatSpec1
import Derived.Test.YtcdgahmfggnafasDoorFlatTot0
namespace Go.Proofs.YtcdgahmfggnafasDoor
open Go.RowKit

set_option maxHeartbeats 4000000 in
theorem walk_FnExactFlatWrite (a : Option Addr) (len cap : Nat) (ms : List (List Int)) (p o z : Int) (w : World) (hg : ErrT w) (hA : ArgMem w a len ms) (_wf1 : (Lit.int .i64 p).wf = true) (_wf2 : (Lit.int .i64 o).wf = true) (_wf3 : (Lit.int .i64 z).wf = true) :
    Calls Tryd.prog 4 #[.slice a len cap, .int .i64 p, .int .i64 o, .int .i64 z] w fun e w' => e = .returned (.bool true) ∧ Below w.heap.size w w' := by
  obtain ⟨hM, hm, hL⟩ := hA
  go_enter Tryd.func4, Tryd.ntmps4
  go_wp2_with (fail)
  refine (szIntSS_any 0 w.heap.size a len cap ms _ hM hm hL).mono ?_
  rintro e w1 ⟨rfl, rfl | ⟨n, rfl, hs⟩⟩
  · go_wp2
    go_ret
    exact ⟨rfl, Below.refl _ _⟩
  obtain ⟨hn, ht, hL⟩ := sz_facts hM.1 hs
  have hlm := hM.1
  have hl := wrM_len ms p o z
  have h4 := wrM_lens ms p o z
  have hS := fun lo hi a cap w h hh => specFlatWrite lo hi a len cap ms p o z w h hh hn hL
  have hI := fun lo hi a cap w hg h hh => implFlatWrite lo hi a len cap ms p o z w hg h hh hn hL
  generalize wrM ms p o z = ns at hl h4 hS hI
  generalize wrG ms p o z = ok at hS hI
  have hln : ns.length = len := hl.trans hlm
  have hL' : ∀ i, i < len → (ns.getD i []).length ≤ 1048576 := fun i hi => by rw [h4 i]; exact hL i hi
  have ht' : tot ns len ≤ 4194304 := by rw [tot_lens hl h4 len (by omega)]; omega
  clear hl h4
  go_wp2_with (fail)
  refine (toIntSS_any 0 _ a len cap ms _ hM (Nat.le_refl _) hn hL).mono ?_
  rintro e w2 ⟨rfl, M2, B2⟩
  go_wp2_with (fail)
  refine (hS _ _ _ len _ M2.mem (Nat.le_refl _)).mono ?_
  rintro e w3 ⟨aw, cw, rfl, Mw, B3⟩
  have B03 := B2.trans (B3.mono B2.size)
  have Mw := Mw.mem
  clear M2 B3 B2
  go_wp2_with (fail)
  refine (toIntSS_any 0 w1.heap.size a len cap ms _ (hM.later B03) B03.size hn hL).mono ?_
  rintro e w4 ⟨rfl, X, B4⟩
  have B04 := B03.trans (B4.mono B03.size)
  have Mw := Mw.same (below_sameIn B4 (Nat.le_refl _))
  go_wp2_with (fail)
  refine (hI _ _ _ len _ (hg.on B04) X.mem (Nat.le_refl _)).mono ?_
  rintro e w5 ⟨rfl, Mg, B5⟩
  have B05 := B04.trans (B5.mono B04.size)
  have Mw := Mw.same (below_sameIn B5 B4.size)
  have X := X.same (below_sameIn B5 (Nat.le_refl _))
  have s34 := B4.size
  have s45 := B5.size
  clear B4 B5
  go_wp2_with (fail)
  refine (eqIntSS_same _ _ _ _ _ _ len _ _ ns _ Mg.mem Mw (Nat.le_refl _) (by omega) hn hL').mono ?_
  rintro e w6 ⟨rfl, B6⟩
  have B06 := B05.trans (B6.mono B05.size)
  have Mw := Mw.same (below_sameIn B6 (by omega))
  have X := X.same (below_sameIn B6 (by omega))
  have Mg := Mg.same (below_sameIn B6 (by omega))
  have s56 := B6.size
  clear B6
  go_wp2_with (fail)
  refine (toIntSS_any 0 w1.heap.size a len cap ms _ (hM.later B06) B06.size hn hL).mono ?_
  rintro e w7 ⟨rfl, Y, B7⟩
  have B07 := B06.trans (B7.mono B06.size)
  have Mw := Mw.same (below_sameIn B7 (by omega))
  have X := X.same (below_sameIn B7 (by omega))
  have Mg := Mg.same (below_sameIn B7 (by omega))
  have s67 := B7.size
  clear B7
  go_wp2_with (fail)
  refine (eqIntSS_same _ _ _ _ _ _ len _ _ ms _ X.mem Y.mem (by omega) (Nat.le_refl _) hn hL).mono ?_
  rintro e w8 ⟨rfl, B8⟩
  have B08 := B07.trans (B8.mono B07.size)
  have Mw := Mw.same (below_sameIn B8 (by omega))
  have X := X.same (below_sameIn B8 (by omega))
  have Mg := Mg.same (below_sameIn B8 (by omega))
  have s78 := B8.size
  clear B8 Y
  go_wp2_with (fail)
  refine (markIntSS_any _ _ _ len _ 1 ms _ X hn (by omega) (by omega)).mono ?_
  rintro e w9 ⟨rfl, _, A9⟩
  have B09 := B08.trans (A9.below B03.size)
  have Mw := Mw.same (A9.same (Or.inl (Nat.le_refl _)))
  have Mg := Mg.same (A9.same (Or.inr (Nat.le_refl _)))
  have s89 := Nat.le_of_eq A9.size.symm
  have hneg : ¬ ((1 + tot ms len : Nat) : Int) < 0 := by omega
  clear A9 X
  go_wp2_with (fail)
  refine (eqIntSS_same _ _ _ _ _ _ len _ _ ns _ Mg.mem Mw (by omega) (by omega) hn hL').mono ?_
  rintro e w10 ⟨rfl, B10⟩
  have B010 := B09.trans (B10.mono B09.size)
  have Mw := Mw.same (below_sameIn B10 (by omega))
  have Mg := Mg.same (below_sameIn B10 (by omega))
  have s910 := B10.size
  clear B10
  go_wp2_with (fail)
  refine (markIntSS_any _ _ _ len _ 1 ns _ Mg hn ht' (by omega)).mono ?_
  rintro e w11 ⟨rfl, Mk, A11⟩
  have B011 := B010.trans (A11.below B04.size)
  have Mw := Mw.same (A11.same (Or.inl (by omega)))
  have Mk := Mk.mem
  have s1011 := Nat.le_of_eq A11.size.symm
  have hneg2 : ¬ ((1 + tot ns len : Nat) : Int) < 0 := by omega
  clear A11 Mg
  go_wp2_with (fail)
  refine (heldIntSS_any _ _ _ len _ 1 ns _ hln Mk hn ht' (by omega)).mono ?_
  rintro e w12 ⟨rfl, rfl⟩
  go_wp2_with (fail)
  refine (toIntSS_any 0 w1.heap.size a len cap ms _ (hM.later B011) B011.size hn hL).mono ?_
  rintro e w13 ⟨rfl, Y, B13⟩
  have B013 := B011.trans (B13.mono B011.size)
  have Mw := Mw.same (below_sameIn B13 (by omega))
  have Mk := Mk.same (below_sameIn B13 (by omega))
  have s13 := B13.size
  clear B13
  go_wp2_with (fail)
  refine (hI _ _ _ len _ (hg.on B013) Y.mem (Nat.le_refl _)).mono ?_
  rintro e w14 ⟨rfl, Mh, B14⟩
  have B014 := B013.trans (B14.mono B013.size)
  have Mw := Mw.same (below_sameIn B14 (by omega))
  have Mk := Mk.same (below_sameIn B14 (by omega))
  have s14 := B14.size
  clear B14 Y
  go_wp2_with (fail)
  refine (eqIntSS_same _ _ _ _ _ _ len _ _ ns _ Mh.mem Mw (Nat.le_refl _) (by omega) hn hL').mono ?_
  rintro e w15 ⟨rfl, B15⟩
  have B015 := B014.trans (B15.mono B014.size)
  have Mk := Mk.same (below_sameIn B15 (by omega))
  clear B15
  go_wp2_with (fail)
  refine (heldIntSS_any _ _ _ len _ 1 ns _ hln Mk hn ht' (by omega)).mono ?_
  rintro e w16 ⟨rfl, rfl⟩
  go_wp2
  go_ret
  exact ⟨rfl, B015⟩
end Go.Proofs.YtcdgahmfggnafasDoor
