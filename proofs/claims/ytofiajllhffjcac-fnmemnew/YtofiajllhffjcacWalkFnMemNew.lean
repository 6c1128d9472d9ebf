/-
  The walk of the law FnMemNew.
-/
import Derived.Test.YtofiajllhffjcacMemDraw2
import Derived.Test.YtofiajllhffjcacLkMem0
namespace Go.Proofs.Ytofiajllhffjcac
open Go.RowKit

theorem okM_zero (n : Nat) : okM (zeroM n) = true := by
  unfold okM zeroM
  rw [List.all_eq_true]
  intro x hx
  rw [List.eq_of_mem_replicate hx]
  rfl
theorem atM_zero {n i j : Nat} (hi : i < n) (hj : j < 4) : atM (zeroM n) i j = 0 := by
  unfold atM
  rw [zeroM_get hi]
  match j, hj with
  | 0, _ => rfl
  | 1, _ => rfl
  | 2, _ => rfl
  | 3, _ => rfl

set_option maxHeartbeats 1000000 in
theorem walk_FnMemNew (a0 : Option Addr) (len0 cap0 : Nat) (z0 : List Int) (w : World) (w0 : IsRow .u8 w a0 len0 cap0 z0) :
    Calls Try.prog 4 #[.slice a0 len0 cap0] w fun e w' => e = .returned (.bool true) ∧ Below w.heap.size w w' := by
  by_cases hbig : (1048576 : Int) < (len0 : Int)
  · go_enter Try.func4, Try.ntmps4
    go_wp2
    go_ret
    exact ⟨rfl, Below.refl _ _⟩
  go_enter Try.func4, Try.ntmps4
  go_wp2_with (fail)
  refine (drawMemNew a0 len0 cap0 z0 _ w0).mono ?_
  rintro e v1 ⟨n, rfl, hn0, hn1, B1⟩
  go_wp2_with (fail)
  refine (implMemNew n _).mono ?_
  rintro e v2 ⟨ag, cg, rfl, Mg, B2⟩
  have B02 := B1.trans (B2.mono B1.size)
  have Mg := Mg.mem
  have hl := newM_len n
  have hL : ∀ i, i < (newM n).length → ((newM n).getD i []).length ≤ 1048576 := fun i hi => by rw [newM_four n i hi]; omega
  go_wp2_with (fail)
  refine (specMemNew n _).mono ?_
  rintro e v3 ⟨aw, cw, rfl, Mw, B3⟩
  have B03 := B02.trans (B3.mono B02.size)
  have Mw := Mw.mem
  have s3 : v2.heap.size ≤ v3.heap.size := B3.size
  have Mg3 := Mg.same (below_sameIn B3 (Nat.le_refl _))
  go_wp2_with (fail)
  refine (lkMem_same _ _ _ _ _ _ (newM n).length _ _ (newM n) _ Mg3 Mw s3 (Nat.le_refl _) (by omega) hL).mono ?_
  rintro e v4 ⟨rfl, B4⟩
  have B04 := B03.trans (B4.mono B03.size)
  have s4 : v2.heap.size ≤ v4.heap.size := Nat.le_trans s3 B4.size
  have Mg4 := Mg3.same (below_sameIn B4 s3)
  clear B1 B2 B3 B4 B02 B03 Mg Mg3 Mw
  by_cases hin : 0 ≤ n ∧ n ≤ 6
  · obtain ⟨m, rfl⟩ := Int.eq_ofNat_of_zero_le hin.1
    have hnew : newM (m : Int) = zeroM m := by rw [newM, if_pos hin]; rfl
    rw [hnew] at Mg4 ⊢
    rw [show (zeroM m).length = m by simp [zeroM]] at Mg4 ⊢
    have hm0 : ¬ (m : Int) < 0 := by omega
    have hm6 : ¬ (6 : Int) < (m : Int) := by omega
    have hmn : m ≤ 1048576 := by omega
    have hAt : ∀ (W : World) (i j : Nat), Below v4.heap.size v4 W → i < m → j < 4 → Calls Try.prog 17 #[.slice ag m cg, .int .i64 i, .int .i64 j] W fun e w' => e = .returned (.tuple #[.int .i64 0, .bool true]) ∧ Below W.heap.size W w' := fun W i j hB hi hj => by
      have hA : atB (zeroM m) i j = true := by
        rw [atB, okM_zero, show (zeroM m).length = m by simp [zeroM]]
        simp [placeB]
        omega
      have := implMemAt _ _ ag m cg (zeroM m) i j W (Mg4.same (below_sameIn hB s4)) (Nat.le_trans s4 hB.size) hmn
      rw [hA, show atZ (zeroM m) i j = 0 by simp only [atZ, hA, cond_true, Int.toNat_natCast]; exact atM_zero hi hj] at this
      exact this
    have hOk : ∀ W : World, Below v4.heap.size v4 W → Calls Try.prog 18 #[.slice ag m cg] W fun e w' => e = .returned (.bool true) ∧ Below W.heap.size W w' := fun W hB => by
      have := implMemOk _ _ ag m cg (zeroM m) W (Mg4.same (below_sameIn hB s4)) (Nat.le_trans s4 hB.size) hmn
      rwa [okM_zero] at this
    clear hnew hin hl hL Mg4 Mg
    go_wp2
    go_loopw [5, 6, 7, 8] (fun i _ _ _ wr => ∃ k : Nat, k ≤ m ∧ i = .int .i64 k ∧ Below v4.heap.size v4 wr) (fun i _ _ _ _ => m - (intOf i).toNat)
    case atStart => exact ⟨0, Nat.zero_le _, rfl, Below.refl _ _⟩
    case round =>
      obtain ⟨k, hk, rfl, hB⟩ := hrel
      by_cases hkl : k < m
      · have hki : (k : Int) < (m : Int) := by omega
        go_wp2
        go_loopw [6, 7, 8] (fun j _ _ wr => ∃ q : Nat, q ≤ 4 ∧ j = .int .i64 q ∧ Below v4.heap.size v4 wr) (fun j _ _ _ => 4 - (intOf j).toNat)
        case atStart => exact ⟨0, Nat.zero_le _, rfl, hB⟩
        case round =>
          clear hB
          obtain ⟨q, hq, rfl, hB⟩ := hrel
          by_cases hql : q < 4
          · have hqi : (q : Int) < 4 := by omega
            go_wp2_with (fail)
            refine (hAt _ k q hB hkl hql).mono ?_
            rintro e w5 ⟨rfl, B5⟩
            have hB5 := hB.trans (B5.mono hB.size)
            clear B5
            go_wp2
            go_roundw
            case rel => exact ⟨q + 1, by omega, by go_num, hB5⟩
            case measure => simp [intOf]; omega
          · go_wp2
            go_roundw
            case rel => exact ⟨k + 1, by omega, by go_num, hB⟩
            case measure => simp [intOf]; omega
      · go_wp2_with (fail)
        refine (hOk _ hB).mono ?_
        rintro e w5 ⟨rfl, B5⟩
        go_wp2
        go_ret
        exact ⟨rfl, B04.trans ((hB.trans (B5.mono hB.size)).mono B04.size)⟩
  · have hout : n < 0 ∨ (¬ n < 0 ∧ 6 < n) := by omega
    rcases hout with h0 | ⟨h0, h6⟩
    · go_wp2_with (fail)
      refine (specMemNew n _).mono ?_
      rintro e v5 ⟨aw', cw', rfl, Mw', B5⟩
      have B05 := B04.trans (B5.mono B04.size)
      go_wp2_with (fail)
      refine (lkMem_same _ _ _ _ _ _ (newM n).length _ _ (newM n) _ (Mg4.same (below_sameIn B5 s4)) Mw'.mem (Nat.le_trans s4 B5.size) (Nat.le_refl _) (by omega) hL).mono ?_
      rintro e v6 ⟨rfl, B6⟩
      go_wp2
      go_ret
      exact ⟨rfl, B05.trans (B6.mono B05.size)⟩
    · go_wp2_with (fail)
      refine (specMemNew n _).mono ?_
      rintro e v5 ⟨aw', cw', rfl, Mw', B5⟩
      have B05 := B04.trans (B5.mono B04.size)
      go_wp2_with (fail)
      refine (lkMem_same _ _ _ _ _ _ (newM n).length _ _ (newM n) _ (Mg4.same (below_sameIn B5 s4)) Mw'.mem (Nat.le_trans s4 B5.size) (Nat.le_refl _) (by omega) hL).mono ?_
      rintro e v6 ⟨rfl, B6⟩
      go_wp2
      go_ret
      exact ⟨rfl, B05.trans (B6.mono B05.size)⟩
end Go.Proofs.Ytofiajllhffjcac
