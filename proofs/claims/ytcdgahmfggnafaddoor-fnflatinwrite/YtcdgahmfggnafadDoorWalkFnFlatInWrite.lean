/-
  The walk of the law FnFlatInWrite.
-/
import Derived.Test.YtcdgahmfggnafadDoorFlatDraw0
import Derived.Test.YtcdgahmfggnafadDoorFlatAt0
import Derived.Test.YtcdgahmfggnafadDoorMemEnt0
namespace Go.Proofs.YtcdgahmfggnafadDoor
open Go.RowKit

set_option maxHeartbeats 4000000 in
theorem walk_FnFlatInWrite (a0 : Option Addr) (len0 cap0 : Nat) (z0 : List Int) (w : World) (hg : ErrT w) (w0 : IsRow .u8 w a0 len0 cap0 z0) :
    Calls Tryd.prog 5 #[.slice a0 len0 cap0] w fun e w' => e = .returned (.bool true) ∧ Below w.heap.size w w' := by
  by_cases hbig : (1048576 : Int) < (len0 : Int)
  · go_enter Tryd.func5, Tryd.ntmps5
    go_wp2
    go_ret
    exact ⟨rfl, Below.refl _ _⟩
  go_enter Tryd.func5, Tryd.ntmps5
  go_wp2_with (fail)
  refine (drawFlatWriteIn a0 len0 cap0 z0 _ w0).mono ?_
  rintro e v1 ⟨a, n, c, ms, P, O, z, rfl, ⟨hM, hn6, h4⟩, _, _, hz200, B1⟩
  have hn : n ≤ 1048576 := by omega
  have hL : ∀ i, i < n → (ms.getD i []).length ≤ 1048576 := fun i hi => by have := h4 i hi; omega
  have hlm := hM.1
  have hWL : ∀ i, i < n → ((wiM ms P O z).getD i []).length ≤ 1048576 := fun i hi => by rw [wiM_lens]; exact hL i hi
  go_wp2_with (fail)
  refine (specFlatWriteIn _ _ a n c ms P O z _ hM (Nat.le_refl _) hn hL).mono ?_
  rintro e v3 ⟨aw, cw, rfl, Mw, B3⟩
  have B03 := B1.trans (B3.mono B1.size)
  have hM3 := hM.same (below_sameIn B3 (Nat.le_refl _))
  have s3 : v1.heap.size ≤ v3.heap.size := B3.size
  have Mw := Mw.mem
  go_wp2_with (fail)
  refine (implFlatWriteIn _ _ a n c ms P O z _ (hg.on B03) hM3 s3 hn hL).mono ?_
  rintro e v4 ⟨tx, rfl, Mx, B4⟩
  have B04 := B03.trans (B4.mono B03.size)
  have hM4 := hM3.same (below_sameIn B4 s3)
  have Mw4 := Mw.same (below_sameIn B4 (Nat.le_refl _))
  have Mx := Mx.mem
  have t4 : v3.heap.size ≤ v4.heap.size := B4.size
  go_wp2_with (fail)
  refine (lkMem_same _ _ _ _ _ _ n _ _ (wiM ms P O z) _ Mx Mw4 (Nat.le_refl _) t4 hn hWL).mono ?_
  rintro e v5 ⟨rfl, B5⟩
  have B05 := B04.trans (B5.mono B04.size)
  have t5 : v4.heap.size ≤ v5.heap.size := B5.size
  have Mw5 := Mw4.same (below_sameIn B5 t4)
  have Mx5 := Mx.same (below_sameIn B5 (Nat.le_refl _))
  have hM5 := hM4.same (below_sameIn B5 (by omega))
  clear B1 B3 B4 B5 B03 B04 hM hM3 hM4 Mw Mw4 Mx
  by_cases hpos : 0 ≤ wiG ms P O z
  · obtain ⟨ht, hP, hO, hz, Q, he, hQ2, hQ6⟩ := wiG_pos hpos
    obtain ⟨e1, e2⟩ := wiG_good ht hP hO hz he
    rw [e2] at Mx5
    rw [e1] at hpos
    obtain ⟨ho, h6⟩ := tabB_ok ht
    obtain rfl : n = 6 := by omega
    rw [e1]
    have hE : Hid (atE (tabM ms) P = (true, (Q : Int), true)) := (atE_ent hP).trans he
    have hnn : ¬ atM ms Q O < 0 := by omega
    have htx := tabB_put (O := O) ht hQ6 hz
    have hex : entOf (putM ms Q O z) P = (true, (Q : Int), true) := (entOf_low ht hQ6 hQ2 hO hP).trans he
    obtain ⟨g1, g2⟩ := wrG_good ht hQ6 hO hz
    have hri : riG (putM ms Q O z) P O = z := by rw [riG_good htx hP hO, hex]; simp [atM_at _ ht hQ6 hO]
    have HG1 : Hid (wrG ms Q O z = atM ms Q O) := g1
    have HRI : Hid (riG (putM ms Q O z) P O = z) := hri
    have hxo := (tabB_ok htx).1
    have hXL : ∀ i, i < 6 → ((putM ms Q O z).getD i []).length ≤ 1048576 := fun i hi => by rw [putM_lens _ (by omega)]; exact hL i hi
    have HTL : Hid (tabM (putM ms Q O z) = tabM ms) := tabM_low ht hQ6 hQ2 hO
    clear Mw5 hWL e1 e2 he hex g1 hri
    go_wp2_with (fail)
    refine (implMemTab_yes _ _ a c ms _ hM5 (by omega) ho).mono ?_
    rintro e v6 ⟨T, rfl, hT1, hT2, hEn, hR, B6⟩
    have B06 := B05.trans (B6.mono B05.size)
    have hM6 := hM5.same (below_sameIn B6 (by omega))
    have Mx6 := Mx5.same (below_sameIn B6 (by omega))
    have s6 := B6.size
    clear hR B6 B05 hM5 Mx5
    go_wp2_with (fail)
    refine (implTabAt T 0 6 6 (tabM ms) P _ (tabM_len _) hT2 hEn).mono ?_
    rintro e v7 ⟨rfl, B7⟩
    have B07 := B06.trans (B7.mono B06.size)
    have hM7 := hM6.same (below_sameIn B7 (by omega))
    have Mx7 := Mx6.same (below_sameIn B7 (by omega))
    have s7 := B7.size
    clear B7 B06 hEn hM6 Mx6
    rw [hE.out]
    unfold entV
    have A0 := at3_newF v7 true (Q : Int) true 36
    have BA : Below v7.heap.size v7 (v7.alloc (.cells #[.bool true, .int .i64 (Q : Int), .bool true] 36)) := (Below.refl _ _).alloc (Nat.le_refl _) _
    have hM8 := hM7.same (below_sameIn BA (by omega))
    have Mx8 := Mx7.same (below_sameIn BA (by omega))
    have B08 := B07.trans (BA.mono B07.size)
    clear hM7 Mx7 B07
    go_wp2_with (fail)
    generalize hv8 : v7.alloc (.cells #[.bool true, .int .i64 (Q : Int), .bool true] 36) = v8 at A0 BA hM8 Mx8 B08
    have s8 := BA.size
    generalize v7.heap.size = be at A0 BA s7 s8
    clear hv8 BA
    refine (implFlatWrite _ _ a 6 c ms Q O z _ (hg.on B08) hM8 (by omega) (by omega) hL).mono ?_
    rintro e v9 ⟨rfl, My, B9⟩
    rw [HG1.out]
    rw [g2] at My
    have A9 := A0.below B9
    have B09 := B08.trans (B9.mono B08.size)
    have hM9 := hM8.same (below_sameIn B9 (by omega))
    have Mx9 := Mx8.same (below_sameIn B9 (by omega))
    have s9 := B9.size
    have My := My.mem
    clear A0 B08 B9 hM8 Mx8
    obtain ⟨_, j0, j1, j2⟩ := id A9
    go_wp2_with (fail)
    refine (lkMem_same _ _ _ _ _ _ 6 _ _ (putM ms Q O z) _ Mx9 My (by omega) (Nat.le_refl _) (by omega) hXL).mono ?_
    rintro e v10 ⟨rfl, B10⟩
    have B010 := B09.trans (B10.mono B09.size)
    have hM10 := hM9.same (below_sameIn B10 (by omega))
    have Mx10 := Mx9.same (below_sameIn B10 (by omega))
    have s10 := B10.size
    clear j0 j1 j2 A9 B09 B10 hM9 Mx9 My
    go_wp2_with (fail)
    refine (implFlatReadIn _ _ _ 6 6 (putM ms Q O z) P O _ (hg.on B010) Mx10 (by omega) (by omega)).mono ?_
    rintro e v11 ⟨rfl, B11⟩
    rw [HRI.out]
    have B011 := B010.trans (B11.mono B010.size)
    have hM11 := hM10.same (below_sameIn B11 (by omega))
    have Mx11 := Mx10.same (below_sameIn B11 (by omega))
    have s11 := B11.size
    clear B010 B11 hM10 Mx10
    go_wp2_with (fail)
    refine (implMemTab_yes _ _ _ 6 (putM ms Q O z) _ Mx11 (by omega) hxo).mono ?_
    rintro e v12 ⟨T1, rfl, hU1, hU2, hEn1, _, B12⟩
    rw [HTL.out] at hEn1
    have B012 := B011.trans (B12.mono B011.size)
    have hM12 := hM11.same (below_sameIn B12 (by omega))
    have s12 := B12.size
    clear B011 B12 hM11 Mx11
    go_wp2_with (fail)
    refine (implMemTab_yes _ _ a c ms _ hM12 (by omega) ho).mono ?_
    rintro e v13 ⟨T2, rfl, hW1, hW2, hEn2, _, B13⟩
    have B013 := B012.trans (B13.mono B012.size)
    have hEn1 := hEn1.below B13 hU2
    clear B012 B13 hM12
    go_wp2_with (fail)
    refine (lkTab_same T1 0 T2 0 6 6 6 (tabM ms) _ (tabM_len _) (by omega) hEn1 hEn2).mono ?_
    rintro e v14 ⟨rfl, m, rfl⟩
    go_wp2
    go_ret
    refine ⟨rfl, ?_⟩
    (repeat' (with_reducible (first | exact Below.refl _ _ | apply Below.setCell | apply Below.alloc | apply below_drewN | apply Below.drew | refine Below.trans ?_ (Below.mono (by assumption) ?_)))) <;> (first | exact Nat.le_refl _ | (simp; done) | (simp; omega) | (simp at *; omega))
  · have hneg : wiG ms P O z < 0 := by omega
    have hwm : wiM ms P O z = ms := by
      cases hb : wiB ms P O z
      · rw [wiM, hb]; rfl
      · exact absurd (wiB_pos hb) hpos
    rw [hwm] at Mx5
    clear hwm
    go_wp2_with (fail)
    refine (lkMem_same _ _ _ _ _ _ n _ _ ms _ Mx5 hM5 (by omega) (by omega) hn hL).mono ?_
    rintro e v6 ⟨rfl, B6⟩
    go_wp2
    go_ret
    exact ⟨rfl, B05.trans (B6.mono B05.size)⟩
end Go.Proofs.YtcdgahmfggnafadDoor
