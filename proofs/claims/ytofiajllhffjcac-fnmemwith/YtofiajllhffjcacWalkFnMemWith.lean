/-
  The walk of the law FnMemWith.
-/
import Derived.Test.YtofiajllhffjcacWalkFnMemTwice
namespace Go.Proofs.Ytofiajllhffjcac
open Go.RowKit

set_option maxHeartbeats 2000000 in
theorem walk_FnMemWith (a0 : Option Addr) (len0 cap0 : Nat) (z0 : List Int) (w : World) (w0 : IsRow .u8 w a0 len0 cap0 z0) :
    Calls Try.prog 5 #[.slice a0 len0 cap0] w fun e w' => e = .returned (.bool true) ∧ Below w.heap.size w w' := by
  by_cases hbig : (1048576 : Int) < (len0 : Int)
  · go_enter Try.func5, Try.ntmps5
    go_wp2
    go_ret
    exact ⟨rfl, Below.refl _ _⟩
  go_enter Try.func5, Try.ntmps5
  go_wp2_with (fail)
  refine (drawMemWith a0 len0 cap0 z0 _ w0).mono ?_
  rintro e v2 ⟨a, n, c, ms, P, O, z, rfl, ⟨hM2, hn6, h4⟩, _, _, _, B02⟩
  have hn : n ≤ 1048576 := by omega
  have hL : ∀ i, i < n → (ms.getD i []).length ≤ 1048576 := fun i hi => by have := h4 i hi; omega
  have hlm := hM2.1
  have hwl := withM_len ms P O z
  have hw4 := withM_four ms P O z
  go_wp2_with (fail)
  refine (specMemWith _ _ a n c ms P O z _ hM2 (Nat.le_refl _) hn hL).mono ?_
  rintro e v3 ⟨aw, cw, rfl, Mw, B3⟩
  have B03 := B02.trans (B3.mono B02.size)
  have s3 : v2.heap.size ≤ v3.heap.size := B3.size
  have hM3 := hM2.same (below_sameIn B3 (Nat.le_refl _))
  have Mw := Mw.mem
  go_wp2_with (fail)
  refine (implMemWith _ _ a n c ms P O z _ hM3 s3 hn).mono ?_
  rintro e v4 ⟨ax, cx, rfl, Mx, B4⟩
  have B04 := B03.trans (B4.mono B03.size)
  have hM4 := hM3.same (below_sameIn B4 s3)
  have Mw4 := Mw.same (below_sameIn B4 (Nat.le_refl _))
  have s4 : v2.heap.size ≤ v4.heap.size := Nat.le_trans s3 B4.size
  have Mx := Mx.mem
  have t4 : v3.heap.size ≤ v4.heap.size := B4.size
  go_wp2_with (fail)
  refine (lkMem_same _ _ _ _ _ _ (withM ms P O z).length _ _ (withM ms P O z) _ Mx Mw4 (Nat.le_refl _) t4 (by omega) (fun i hi => by rw [hw4 i hi]; omega)).mono ?_
  rintro e v5 ⟨rfl, B5⟩
  have B05 := B04.trans (B5.mono B04.size)
  have t5 : v4.heap.size ≤ v5.heap.size := B5.size
  have Mw5 := Mw4.same (below_sameIn B5 t4)
  have Mx5 := Mx.same (below_sameIn B5 (Nat.le_refl _))
  have hM5 := hM4.same (below_sameIn B5 s4)
  clear B3 B4 B5 B02 B03 B04 hM2 hM3 hM4 Mw Mw4 Mx
  cases hw : withB ms P O z
  · go_wp2_with (fail)
    refine (lkMem_same _ _ _ _ _ _ (withM ms P O z).length _ _ (withM ms P O z) _ Mx5 Mw5 (by omega) (by omega) (by omega) (fun i hi => by rw [hw4 i hi]; omega)).mono ?_
    rintro e v6 ⟨rfl, B6⟩
    go_wp2
    go_ret
    exact ⟨rfl, B05.trans (B6.mono B05.size)⟩
  · obtain ⟨P', O', e1, e2, hP, hO⟩ := withB_nat hw
    obtain rfl : P = P' := by omega
    obtain rfl : O = O' := by omega
    rw [show withM ms P O z = putM ms P O z by rw [withM, hw]; rfl] at Mx5
    rw [putM_len, hlm] at Mx5
    rw [show (withM ms P O z).length = n by rw [withM, hw]; exact (putM_len _ _ _ _).trans hlm]
    have hok := withB_ok hw
    have hokx : okM (putM ms P O z) = true := okM_put hok (by omega) (by simp only [withB, Bool.and_eq_true] at hw; exact hw.2)
    have h4P : (ms.getD P []).length = 4 := (okM_get hok (by omega)).1
    clear Mw5 hwl hw4 e1 e2
    have t25 : v2.heap.size ≤ v5.heap.size := Nat.le_trans s4 t5
    have hAt : ∀ (W : World) (i j : Nat), Below v5.heap.size v5 W → i < n → j < 4 → Calls Try.prog 17 #[.slice a n c, .int .i64 i, .int .i64 j] W fun e w' => e = .returned (.tuple #[.int .i64 (atM ms i j), .bool true]) ∧ Below W.heap.size W w' := fun W i j hB hi hj => by
      have hA : atB ms i j = true := by
        rw [atB, hok, hlm]
        simp [placeB]
        omega
      have := implMemAt _ _ a n c ms i j W (hM5.same (below_sameIn hB t25)) (Nat.le_trans t25 hB.size) hn
      rw [hA, show atZ ms i j = atM ms i j by simp only [atZ, hA, cond_true, Int.toNat_natCast]] at this
      exact this
    have hAx : ∀ (W : World) (i j : Nat), Below v5.heap.size v5 W → i < n → j < 4 → Calls Try.prog 17 #[.slice ax n cx, .int .i64 i, .int .i64 j] W fun e w' => e = .returned (.tuple #[.int .i64 (atM (putM ms P O z) i j), .bool true]) ∧ Below W.heap.size W w' := fun W i j hB hi hj => by
      have hA : atB (putM ms P O z) i j = true := by
        rw [atB, hokx, putM_len, hlm]
        simp [placeB]
        omega
      have := implMemAt _ _ ax n cx (putM ms P O z) i j W (Mx5.same (below_sameIn hB t5)) (Nat.le_trans t5 hB.size) hn
      rw [hA, show atZ (putM ms P O z) i j = atM (putM ms P O z) i j by simp only [atZ, hA, cond_true, Int.toNat_natCast]] at this
      exact this
    have hOk : ∀ W : World, Below v5.heap.size v5 W → Calls Try.prog 18 #[.slice ax n cx] W fun e w' => e = .returned (.bool true) ∧ Below W.heap.size W w' := fun W hB => by
      have := implMemOk _ _ ax n cx (putM ms P O z) W (Mx5.same (below_sameIn hB t5)) (Nat.le_trans t5 hB.size) hn
      rwa [hokx] at this
    have hput : ∀ i j, atM (putM ms P O z) i j = if i = P ∧ j = O then (z : Int) else atM ms i j := fun i j => atM_put (z : Int) (by omega) h4P hO i j
    clear hok hokx h4P Mx5 hM5
    go_wp2
    go_loopw [11, 12, 13, 14, 15, 16] (fun i _ _ _ _ _ wr => ∃ k : Nat, k ≤ n ∧ i = .int .i64 k ∧ Below v5.heap.size v5 wr) (fun i _ _ _ _ _ _ => n - (intOf i).toNat)
    case atStart => exact ⟨0, Nat.zero_le _, rfl, Below.refl _ _⟩
    case round =>
      obtain ⟨k, hk, rfl, hB⟩ := hrel
      by_cases hkl : k < n
      · have hki : (k : Int) < (n : Int) := by omega
        go_wp2
        go_loopw [12, 13, 14, 15, 16] (fun j _ _ _ _ wr => ∃ q : Nat, q ≤ 4 ∧ j = .int .i64 q ∧ Below v5.heap.size v5 wr) (fun j _ _ _ _ _ => 4 - (intOf j).toNat)
        case atStart => exact ⟨0, Nat.zero_le _, rfl, hB⟩
        case round =>
          clear hB
          obtain ⟨q, hq, rfl, hB⟩ := hrel
          by_cases hql : q < 4
          · have hqi : (q : Int) < 4 := by omega
            have hpq := hput k q
            by_cases hkP : k = P
            · by_cases hqO : q = O
              · subst hkP hqO
                rw [if_pos ⟨rfl, rfl⟩] at hpq
                clear hput
                go_wp2_with (fail)
                refine (hAt _ k q hB hkl hql).mono ?_
                rintro e w6 ⟨rfl, B6⟩
                have hB6 := hB.trans (B6.mono hB.size)
                clear B6 hB
                go_wp2_with (fail)
                refine (hAx _ k q hB6 hkl hql).mono ?_
                rintro e w7 ⟨rfl, B7⟩
                have hB7 := hB6.trans (B7.mono hB6.size)
                clear B7 hB6
                rw [hpq]
                go_wp2
                go_roundw
                case rel => exact ⟨q + 1, by omega, by go_num, hB7⟩
                case measure => simp [intOf]; omega
              · rw [if_neg (fun h => hqO h.2)] at hpq
                have hqOi : ((q : Int) == (O : Int)) = false := by simp; omega
                subst hkP
                clear hput
                go_wp2_with (fail)
                refine (hAt _ k q hB hkl hql).mono ?_
                rintro e w6 ⟨rfl, B6⟩
                have hB6 := hB.trans (B6.mono hB.size)
                clear B6 hB
                go_wp2_with (fail)
                refine (hAx _ k q hB6 hkl hql).mono ?_
                rintro e w7 ⟨rfl, B7⟩
                have hB7 := hB6.trans (B7.mono hB6.size)
                clear B7 hB6
                rw [hpq]
                go_wp2
                go_roundw
                case rel => exact ⟨q + 1, by omega, by go_num, hB7⟩
                case measure => simp [intOf]; omega
            · rw [if_neg (fun h => hkP h.1)] at hpq
              have hkPi : ((k : Int) == (P : Int)) = false := by simp; omega
              clear hput
              go_wp2_with (fail)
              refine (hAt _ k q hB hkl hql).mono ?_
              rintro e w6 ⟨rfl, B6⟩
              have hB6 := hB.trans (B6.mono hB.size)
              clear B6 hB
              go_wp2_with (fail)
              refine (hAx _ k q hB6 hkl hql).mono ?_
              rintro e w7 ⟨rfl, B7⟩
              have hB7 := hB6.trans (B7.mono hB6.size)
              clear B7 hB6
              rw [hpq]
              go_wp2
              go_roundw
              case rel => exact ⟨q + 1, by omega, by go_num, hB7⟩
              case measure => simp [intOf]; omega
          · go_wp2
            go_roundw
            case rel => exact ⟨k + 1, by omega, by go_num, hB⟩
            case measure => simp [intOf]; omega
      · go_wp2_with (fail)
        refine (hOk _ hB).mono ?_
        rintro e w6 ⟨rfl, B6⟩
        go_wp2
        go_ret
        exact ⟨rfl, B05.trans ((hB.trans (B6.mono hB.size)).mono B05.size)⟩
end Go.Proofs.Ytofiajllhffjcac
