/-
  The walk of the law FnFlatBad.
-/
import Derived.Test.YtcdgahmfggnafaeDoorFlatDraw0
namespace Go.Proofs.YtcdgahmfggnafaeDoor
open Go.RowKit

set_option maxHeartbeats 4000000 in
theorem walk_FnFlatBad (a0 : Option Addr) (len0 cap0 : Nat) (z0 : List Int) (w : World) (hg : ErrT w) (w0 : IsRow .u8 w a0 len0 cap0 z0) :
    Calls Tryd.prog 6 #[.slice a0 len0 cap0] w fun e w' => e = .returned (.bool true) ∧ Below w.heap.size w w' := by
  by_cases hbig : (1048576 : Int) < (len0 : Int)
  · go_enter Tryd.func6, Tryd.ntmps6
    go_wp2
    go_ret
    exact ⟨rfl, Below.refl _ _⟩
  go_enter Tryd.func6, Tryd.ntmps6
  go_wp2_with (fail)
  refine (drawFlatWrite a0 len0 cap0 z0 _ w0).mono ?_
  rintro e v1 ⟨a, n, c, ms, P, O, z, rfl, ⟨hM, hn6, h4⟩, _, _, _, B1⟩
  have hn : n ≤ 1048576 := by omega
  have hL : ∀ i, i < n → (ms.getD i []).length ≤ 1048576 := fun i hi => by have := h4 i hi; omega
  have hlm := hM.1
  have hWL : ∀ i, i < n → ((wrM ms P O z).getD i []).length ≤ 1048576 := fun i hi => by rw [wrM_lens]; exact hL i hi
  go_wp2_with (fail)
  refine (specFlatWrite _ _ a n c ms P O z _ hM (Nat.le_refl _) hn hL).mono ?_
  rintro e v3 ⟨aw, cw, rfl, Mw, B3⟩
  have B03 := B1.trans (B3.mono B1.size)
  have hM3 := hM.same (below_sameIn B3 (Nat.le_refl _))
  have s3 : v1.heap.size ≤ v3.heap.size := B3.size
  have Mw := Mw.mem
  go_wp2_with (fail)
  refine (implFlatWrite _ _ a n c ms P O z _ (hg.on B03) hM3 s3 hn hL).mono ?_
  rintro e v4 ⟨rfl, Mx, B4⟩
  have B04 := B03.trans (B4.mono B03.size)
  have hM4 := hM3.same (below_sameIn B4 s3)
  have Mw4 := Mw.same (below_sameIn B4 (Nat.le_refl _))
  have Mx := Mx.mem
  have t4 : v3.heap.size ≤ v4.heap.size := B4.size
  go_wp2_with (fail)
  refine (lkMem_same _ _ _ _ _ _ n _ _ (wrM ms P O z) _ Mx Mw4 (Nat.le_refl _) t4 hn hWL).mono ?_
  rintro e v5 ⟨rfl, B5⟩
  have B05 := B04.trans (B5.mono B04.size)
  have t5 : v4.heap.size ≤ v5.heap.size := B5.size
  have Mw5 := Mw4.same (below_sameIn B5 t4)
  have Mx5 := Mx.same (below_sameIn B5 (Nat.le_refl _))
  have hM5 := hM4.same (below_sameIn B5 (by omega))
  clear B1 B3 B4 B5 B03 B04 hM hM3 hM4 Mw Mw4 Mx
  go_wp2_with (fail)
  refine (specMemOk _ _ a n c ms _ hM5 hn hL).mono ?_
  rintro e v6 ⟨rfl, rfl⟩
  cases ho : okM ms
  · go_wp2_with (fail)
    refine (lkMem_same _ _ _ _ _ _ n _ _ (wrM ms P O z) _ Mx5 Mw5 (by omega) (by omega) hn hWL).mono ?_
    rintro e v7 ⟨rfl, B7⟩
    go_wp2
    go_ret
    exact ⟨rfl, B05.trans (B7.mono B05.size)⟩
  by_cases h6 : n = 6
  · subst h6
    clear Mx5 Mw5 hWL
    have hw1 : wrG ms 6 0 1 = -3 ∧ wrM ms 6 0 1 = ms := by
      have : goodW ms 6 0 1 = false := by simp [goodW, goodR, placeB]
      rw [wrG, wrM, this]; exact ⟨rfl, rfl⟩
    have hw2 : wiG ms 0 4 1 = -3 ∧ wiM ms 0 4 1 = ms := by
      have : goodW ms 0 4 1 = false := by simp [goodW, goodR, placeB]
      rw [wiG, wiM, wiB, this]; exact ⟨rfl, rfl⟩
    have hw3 : wiG ms 0 0 64 = -3 ∧ wiM ms 0 0 64 = ms := by
      have : goodW ms 0 0 64 = false := by simp [goodW, okZ]
      rw [wiG, wiM, wiB, this]; exact ⟨rfl, rfl⟩
    have hr1 : rdG ms (-1) 0 = -3 := by
      have : goodR ms (-1) 0 = false := by simp [goodR, placeB]
      rw [rdG, this]; rfl
    have hr2 : riG ms 0 (-1) = -3 := by
      have : goodR ms 0 (-1) = false := by simp [goodR, placeB]
      rw [riG, this]; rfl
    obtain ⟨HG1, HM1⟩ : Hid (wrG ms 6 0 1 = -3) ∧ Hid (wrM ms 6 0 1 = ms) := hw1
    obtain ⟨HG2, HM2⟩ : Hid (wiG ms 0 4 1 = -3) ∧ Hid (wiM ms 0 4 1 = ms) := hw2
    obtain ⟨HG3, HM3⟩ : Hid (wiG ms 0 0 64 = -3) ∧ Hid (wiM ms 0 0 64 = ms) := hw3
    have HR1 : Hid (rdG ms (-1) 0 = -3) := hr1
    have HR2 : Hid (riG ms 0 (-1) = -3) := hr2
    clear hr1 hr2
    go_wp2_with (fail)
    refine (implFlatWrite _ _ a 6 c ms 6 0 1 _ (hg.on B05) hM5 (by omega) (by omega) hL).mono ?_
    rintro e v7 ⟨rfl, Ma, B7⟩
    rw [HG1.out]
    rw [HM1.out] at Ma
    have B07 := B05.trans (B7.mono B05.size)
    have hM7 := hM5.same (below_sameIn B7 (by omega))
    have t7 := B7.size
    have Ma := Ma.mem
    clear B7 B05 hM5
    go_wp2_with (fail)
    refine (implFlatWriteIn _ _ a 6 c ms 0 4 1 _ (hg.on B07) hM7 (by omega) (by omega) hL).mono ?_
    rintro e v8 ⟨tb, rfl, Mb, B8⟩
    rw [HG2.out]
    rw [HM2.out] at Mb
    have B08 := B07.trans (B8.mono B07.size)
    have hM8 := hM7.same (below_sameIn B8 (by omega))
    have Ma8 := Ma.same (below_sameIn B8 (by omega))
    have t8 := B8.size
    have Mb := Mb.mem
    clear B8 B07 hM7 Ma
    go_wp2_with (fail)
    refine (implFlatWriteIn _ _ a 6 c ms 0 0 64 _ (hg.on B08) hM8 (by omega) (by omega) hL).mono ?_
    rintro e v9 ⟨tc, rfl, Mc, B9⟩
    rw [HG3.out]
    rw [HM3.out] at Mc
    have B09 := B08.trans (B9.mono B08.size)
    have hM9 := hM8.same (below_sameIn B9 (by omega))
    have Ma9 := Ma8.same (below_sameIn B9 (by omega))
    have Mb9 := Mb.same (below_sameIn B9 (by omega))
    have t9 := B9.size
    have Mc := Mc.mem
    clear B9 B08 hM8 Ma8 Mb
    go_wp2_with (fail)
    refine (implFlatRead _ _ a 6 c ms (-1) 0 _ (hg.on B09) hM9 (by omega) (by omega)).mono ?_
    rintro e v10 ⟨rfl, B10⟩
    rw [HR1.out]
    have B010 := B09.trans (B10.mono B09.size)
    have hM10 := hM9.same (below_sameIn B10 (by omega))
    have Ma10 := Ma9.same (below_sameIn B10 (by omega))
    have Mb10 := Mb9.same (below_sameIn B10 (by omega))
    have Mc10 := Mc.same (below_sameIn B10 (by omega))
    have t10 := B10.size
    clear B10 B09 hM9 Ma9 Mb9 Mc
    go_wp2_with (fail)
    refine (implFlatReadIn _ _ a 6 c ms 0 (-1) _ (hg.on B010) hM10 (by omega) (by omega)).mono ?_
    rintro e v11 ⟨rfl, B11⟩
    rw [HR2.out]
    have B011 := B010.trans (B11.mono B010.size)
    have hM11 := hM10.same (below_sameIn B11 (by omega))
    have Ma11 := Ma10.same (below_sameIn B11 (by omega))
    have Mb11 := Mb10.same (below_sameIn B11 (by omega))
    have Mc11 := Mc10.same (below_sameIn B11 (by omega))
    have t11 := B11.size
    clear B11 B010 hM10 Ma10 Mb10 Mc10
    go_wp2_with (fail)
    refine (lkMem_same _ _ _ _ _ _ 6 _ _ ms _ Ma11 hM11 (by omega) (by omega) (by omega) hL).mono ?_
    rintro e v12 ⟨rfl, B12⟩
    have B012 := B011.trans (B12.mono B011.size)
    have hM12 := hM11.same (below_sameIn B12 (by omega))
    have Mb12 := Mb11.same (below_sameIn B12 (by omega))
    have Mc12 := Mc11.same (below_sameIn B12 (by omega))
    have t12 := B12.size
    clear B12 B011 hM11 Ma11 Mb11 Mc11
    go_wp2_with (fail)
    refine (lkMem_same _ _ _ _ _ _ 6 _ _ ms _ Mb12 hM12 (by omega) (by omega) (by omega) hL).mono ?_
    rintro e v13 ⟨rfl, B13⟩
    have B013 := B012.trans (B13.mono B012.size)
    have hM13 := hM12.same (below_sameIn B13 (by omega))
    have Mc13 := Mc12.same (below_sameIn B13 (by omega))
    have t13 := B13.size
    clear B13 B012 hM12 Mb12 Mc12
    go_wp2_with (fail)
    refine (lkMem_same _ _ _ _ _ _ 6 _ _ ms _ Mc13 hM13 (by omega) (by omega) (by omega) hL).mono ?_
    rintro e v14 ⟨rfl, B14⟩
    go_wp2
    go_ret
    exact ⟨rfl, B013.trans (B14.mono B013.size)⟩
  · have h6' : ((n : Int) == 6) = false := by simp; omega
    go_wp2_with (fail)
    refine (lkMem_same _ _ _ _ _ _ n _ _ (wrM ms P O z) _ Mx5 Mw5 (by omega) (by omega) hn hWL).mono ?_
    rintro e v7 ⟨rfl, B7⟩
    go_wp2
    go_ret
    exact ⟨rfl, B05.trans (B7.mono B05.size)⟩
end Go.Proofs.YtcdgahmfggnafaeDoor
