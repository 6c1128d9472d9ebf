/-
  The walk of the law FnFlatDenied.
-/
import Derived.Test.YtcdgahmfggnafaeDoorFlatDraw0
namespace Go.Proofs.YtcdgahmfggnafaeDoor
open Go.RowKit

set_option maxHeartbeats 4000000 in
theorem walk_FnFlatDenied (a0 : Option Addr) (len0 cap0 : Nat) (z0 : List Int) (w : World) (hg : ErrT w) (w0 : IsRow .u8 w a0 len0 cap0 z0) :
    Calls Tryd.prog 3 #[.slice a0 len0 cap0] w fun e w' => e = .returned (.bool true) ∧ Below w.heap.size w w' := by
  by_cases hbig : (1048576 : Int) < (len0 : Int)
  · go_enter Tryd.func3, Tryd.ntmps3
    go_wp2
    go_ret
    exact ⟨rfl, Below.refl _ _⟩
  go_enter Tryd.func3, Tryd.ntmps3
  go_wp2_with (fail)
  refine (drawFlatWriteIn a0 len0 cap0 z0 _ w0).mono ?_
  rintro e v1 ⟨a, n, c, ms, P, O, z, rfl, ⟨hM, hn6, h4⟩, _, _, hz200, B1⟩
  have hn : n ≤ 1048576 := by omega
  have hL : ∀ i, i < n → (ms.getD i []).length ≤ 1048576 := fun i hi => by have := h4 i hi; omega
  have hlm := hM.1
  have hWL : ∀ i, i < n → ((wiM ms P O z).getD i []).length ≤ 1048576 := fun i hi => by rw [wiM_lens]; exact hL i hi
  go_wp2_with (fail)
  refine (specFlatWriteIn _ _ a n c ms P O z _ hM (Nat.le_refl _) hn hL).mono ?_
  rintro e v3 ⟨aw, cw, rfl, Mw, B3⟩
  have B03 := B1.trans (B3.mono B1.size)
  have hM3 := hM.same (below_sameIn B3 (Nat.le_refl _))
  have s3 : v1.heap.size ≤ v3.heap.size := B3.size
  have Mw := Mw.mem
  go_wp2_with (fail)
  refine (implFlatWriteIn _ _ a n c ms P O z _ (hg.on B03) hM3 s3 hn hL).mono ?_
  rintro e v4 ⟨tx, rfl, Mx, B4⟩
  have B04 := B03.trans (B4.mono B03.size)
  have hM4 := hM3.same (below_sameIn B4 s3)
  have Mw4 := Mw.same (below_sameIn B4 (Nat.le_refl _))
  have Mx := Mx.mem
  have t4 : v3.heap.size ≤ v4.heap.size := B4.size
  go_wp2_with (fail)
  refine (lkMem_same _ _ _ _ _ _ n _ _ (wiM ms P O z) _ Mx Mw4 (Nat.le_refl _) t4 hn hWL).mono ?_
  rintro e v5 ⟨rfl, B5⟩
  have B05 := B04.trans (B5.mono B04.size)
  have t5 : v4.heap.size ≤ v5.heap.size := B5.size
  have Mw5 := Mw4.same (below_sameIn B5 t4)
  have Mx5 := Mx.same (below_sameIn B5 (Nat.le_refl _))
  have hM5 := hM4.same (below_sameIn B5 (by omega))
  clear B1 B3 B4 B5 B03 B04 hM hM3 hM4 Mw Mw4 Mx
  by_cases hbad : wiG ms P O z = -3
  · rw [hbad]
    go_wp2_with (fail)
    refine (lkMem_same _ _ _ _ _ _ n _ _ (wiM ms P O z) _ Mx5 Mw5 (by omega) (by omega) hn hWL).mono ?_
    rintro e v6 ⟨rfl, B6⟩
    go_wp2
    go_ret
    exact ⟨rfl, B05.trans (B6.mono B05.size)⟩
  obtain ⟨ht, hP, hO, hz⟩ := wiG_not hbad
  obtain ⟨ho, h6⟩ := tabB_ok ht
  obtain rfl : n = 6 := by omega
  obtain ⟨eh, ep, ew, hen⟩ : ∃ eh ep ew, entOf ms P = (eh, ep, ew) := ⟨_, _, _, rfl⟩
  have hE : Hid (atE (tabM ms) P = (eh, ep, ew)) := (atE_ent hP).trans hen
  have hwg : wiG ms P O z = bif (entOf ms P).1 then (bif (entOf ms P).2.2 then atM ms (entOf ms P).2.1.toNat O else -2) else -1 := by rw [wiG, goodW_of ht hP hO hz]; rfl
  rw [hen] at hwg
  have key : ∀ x : Int, x = wiG ms P O z → ((x == -3) = false) ∧ ((x == -1) = !eh) ∧ ((x == -2) = (eh && !ew)) := by
    intro x hx
    rw [hwg] at hx
    cases eh
    · subst hx; exact ⟨rfl, rfl, rfl⟩
    · cases ew
      · subst hx; exact ⟨rfl, rfl, rfl⟩
      · have hb := entOf_bd (ms := ms) (p := P) (by rw [hen])
        rw [hen] at hb
        have h0 := (atM_bd (P := ep.toNat) (O := O) ho (by simp only at hb; omega) hO).1
        simp only [cond_true] at hx
        subst hx
        refine ⟨by simp; omega, by simp; omega, by simp; omega⟩
  obtain ⟨x, hx⟩ : ∃ x, x = wiG ms P O z := ⟨_, rfl⟩
  obtain ⟨hx3, hx1, hx2⟩ := key x hx
  rw [← hx]
  clear Mx5 Mw5 hWL hbad hen hwg key hx
  go_wp2_with (fail)
  refine (implMemTab_yes _ _ a c ms _ hM5 (by omega) ho).mono ?_
  rintro e v6 ⟨T, rfl, hT1, hT2, hEn, hR, B6⟩
  have B06 := B05.trans (B6.mono B05.size)
  have s6 := B6.size
  clear hR B6 B05 hM5
  go_wp2_with (fail)
  refine (implTabAt T 0 6 6 (tabM ms) P _ (tabM_len _) hT2 hEn).mono ?_
  rintro e v7 ⟨rfl, B7⟩
  have B07 := B06.trans (B7.mono B06.size)
  have s7 := B7.size
  have s07 := B07.size
  clear B7 B06 hEn
  rw [hE.out]
  unfold entV
  cases eh
  all_goals
    cases ew
    all_goals
      simp only [Bool.not_true, Bool.not_false, Bool.and_true, Bool.and_false] at hx1 hx2
      go_wp2
      go_ret
      refine ⟨rfl, ?_⟩
      (repeat' (with_reducible (first | exact Below.refl _ _ | apply Below.setCell | apply Below.alloc | apply below_drewN | apply Below.drew | refine Below.trans ?_ (Below.mono (by assumption) ?_)))) <;> (first | exact Nat.le_refl _ | (simp; done) | (simp; omega) | (simp at *; omega))
end Go.Proofs.YtcdgahmfggnafaeDoor
