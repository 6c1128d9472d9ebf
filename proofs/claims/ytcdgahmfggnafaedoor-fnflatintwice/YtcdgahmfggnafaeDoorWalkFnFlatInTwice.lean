/-
  The walk of the law FnFlatInTwice.
-/
import Derived.Test.YtcdgahmfggnafaeDoorFlatDraw0
namespace Go.Proofs.YtcdgahmfggnafaeDoor
open Go.RowKit

set_option maxHeartbeats 4000000 in
theorem walk_FnFlatInTwice (a0 : Option Addr) (len0 cap0 : Nat) (z0 : List Int) (a1 : Option Addr) (len1 cap1 : Nat) (z1 : List Int) (w : World) (hg : ErrT w) (w0 : IsRow .u8 w a0 len0 cap0 z0) (_w1 : IsRow .u8 w a1 len1 cap1 z1) :
    Calls Tryd.prog 8 #[.slice a0 len0 cap0, .slice a1 len1 cap1] w fun e w' => e = .returned (.bool true) ∧ Below w.heap.size w w' := by
  by_cases hbig : (1048576 : Int) < (len0 : Int)
  · go_enter Tryd.func8, Tryd.ntmps8
    go_wp2
    go_ret
    exact ⟨rfl, Below.refl _ _⟩
  by_cases hbig' : (1048576 : Int) < (len1 : Int)
  · go_enter Tryd.func8, Tryd.ntmps8
    go_wp2
    go_ret
    exact ⟨rfl, Below.refl _ _⟩
  go_enter Tryd.func8, Tryd.ntmps8
  go_wp2_with (fail)
  refine (drawFlatWriteIn a0 len0 cap0 z0 _ w0).mono ?_
  rintro e v1 ⟨a, n, c, ms, P, O, z, rfl, ⟨hM, hn6, h4⟩, _, _, hz200, B1⟩
  have hn : n ≤ 1048576 := by omega
  have hL : ∀ i, i < n → (ms.getD i []).length ≤ 1048576 := fun i hi => by have := h4 i hi; omega
  have hlm := hM.1
  have hWL : ∀ i, i < n → ((wiM ms P O z).getD i []).length ≤ 1048576 := fun i hi => by rw [wiM_lens]; exact hL i hi
  go_wp2_with (fail)
  refine (specFlatWriteIn _ _ a n c ms P O z _ hM (Nat.le_refl _) hn hL).mono ?_
  rintro e v3 ⟨aw, cw, rfl, Mw, B3⟩
  have B03 := B1.trans (B3.mono B1.size)
  have hM3 := hM.same (below_sameIn B3 (Nat.le_refl _))
  have s3 : v1.heap.size ≤ v3.heap.size := B3.size
  have Mw := Mw.mem
  go_wp2_with (fail)
  refine (implFlatWriteIn _ _ a n c ms P O z _ (hg.on B03) hM3 s3 hn hL).mono ?_
  rintro e v4 ⟨tx, rfl, Mx, B4⟩
  have B04 := B03.trans (B4.mono B03.size)
  have hM4 := hM3.same (below_sameIn B4 s3)
  have Mw4 := Mw.same (below_sameIn B4 (Nat.le_refl _))
  have Mx := Mx.mem
  have t4 : v3.heap.size ≤ v4.heap.size := B4.size
  go_wp2_with (fail)
  refine (lkMem_same _ _ _ _ _ _ n _ _ (wiM ms P O z) _ Mx Mw4 (Nat.le_refl _) t4 hn hWL).mono ?_
  rintro e v5 ⟨rfl, B5⟩
  have B05 := B04.trans (B5.mono B04.size)
  have t5 : v4.heap.size ≤ v5.heap.size := B5.size
  have Mw5 := Mw4.same (below_sameIn B5 t4)
  have Mx5 := Mx.same (below_sameIn B5 (Nat.le_refl _))
  have hM5 := hM4.same (below_sameIn B5 (by omega))
  clear B1 B3 B4 B5 B03 B04 hM hM3 hM4 Mw Mw4 Mx
  by_cases hpos : 0 ≤ wiG ms P O z
  · obtain ⟨ht, hP, hO, hz, Q, he, hQ2, hQ6⟩ := wiG_pos hpos
    obtain ⟨e1, e2⟩ := wiG_good ht hP hO hz he
    rw [e2] at Mx5
    rw [e1] at hpos
    obtain ⟨ho, h6⟩ := tabB_ok ht
    obtain rfl : n = 6 := by omega
    rw [e1]
    obtain ⟨kk, hkk6, hkk⟩ : ∃ kk : Nat, kk < 64 ∧ (len1 : Int) % 64 = (kk : Int) := ⟨len1 % 64, Nat.mod_lt _ (by omega), by omega⟩
    have hkz : okZ (kk : Int) = true := by simp [okZ]; omega
    have hnn : ¬ atM ms Q O < 0 := by omega
    have htx := tabB_put (O := O) ht hQ6 hz
    have hex : entOf (putM ms Q O z) P = (true, (Q : Int), true) := (entOf_low ht hQ6 hQ2 hO hP).trans he
    obtain ⟨f1, f2⟩ := wiG_good (z := kk) htx hP hO hkz hex
    rw [atM_at z ht hQ6 hO, if_pos ⟨rfl, rfl⟩] at f1
    rw [show putM (putM ms Q O z) Q O kk = putM ms Q O kk by rw [putM, putM_at O z (by omega), List.set_set, putM, List.set_set, putM]] at f2
    obtain ⟨g1, g2⟩ := wiG_good (z := kk) ht hP hO hkz he
    clear Mw5 hWL
    go_wp2_with (fail)
    refine (implFlatWriteIn _ _ _ 6 6 (putM ms Q O z) P O kk _ (hg.on B05) Mx5 t5 (by omega) (fun i hi => by rw [putM_lens z (by omega)]; exact hL i hi)).mono ?_
    rintro e v6 ⟨ty, rfl, My, B6⟩
    rw [f1]
    rw [f2] at My
    have B06 := B05.trans (B6.mono B05.size)
    have hM6 := hM5.same (below_sameIn B6 (by omega))
    have My := My.mem
    have t6 := B6.size
    clear B6 B05 hM5 Mx5
    go_wp2_with (fail)
    refine (implFlatWriteIn _ _ a 6 c ms P O kk _ (hg.on B06) hM6 (by omega) (by omega) hL).mono ?_
    rintro e v7 ⟨tz, rfl, Mz, B7⟩
    rw [g1]
    rw [g2] at Mz
    have B07 := B06.trans (B7.mono B06.size)
    have My7 := My.same (below_sameIn B7 (Nat.le_refl _))
    have t7 := B7.size
    clear B7 B06 hM6 My
    go_wp2_with (fail)
    refine (lkMem_same _ _ _ _ _ _ 6 _ _ (putM ms Q O kk) _ My7 Mz.mem t7 (Nat.le_refl _) (by omega) (fun i hi => by rw [putM_lens _ (by omega)]; exact hL i hi)).mono ?_
    rintro e v8 ⟨rfl, B8⟩
    go_wp2
    go_ret
    exact ⟨rfl, B07.trans (B8.mono B07.size)⟩
  · have hneg : wiG ms P O z < 0 := by omega
    go_wp2_with (fail)
    refine (lkMem_same _ _ _ _ _ _ n _ _ (wiM ms P O z) _ Mx5 Mw5 (by omega) (by omega) hn hWL).mono ?_
    rintro e v6 ⟨rfl, B6⟩
    go_wp2
    go_ret
    exact ⟨rfl, B05.trans (B6.mono B05.size)⟩
end Go.Proofs.YtcdgahmfggnafaeDoor
