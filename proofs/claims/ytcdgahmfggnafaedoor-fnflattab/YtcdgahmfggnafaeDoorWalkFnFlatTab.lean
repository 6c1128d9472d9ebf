/-
  The walk of the law FnFlatTab.
-/
import Derived.Test.YtcdgahmfggnafaeDoorFlatDraw0
namespace Go.Proofs.YtcdgahmfggnafaeDoor
open Go.RowKit

set_option maxHeartbeats 4000000 in
theorem walk_FnFlatTab (a0 : Option Addr) (len0 cap0 : Nat) (z0 : List Int) (a1 : Option Addr) (len1 cap1 : Nat) (z1 : List Int) (w : World) (hg : ErrT w) (w0 : IsRow .u8 w a0 len0 cap0 z0) (_w1 : IsRow .u8 w a1 len1 cap1 z1) :
    Calls Tryd.prog 5 #[.slice a0 len0 cap0, .slice a1 len1 cap1] w fun e w' => e = .returned (.bool true) ∧ Below w.heap.size w w' := by
  by_cases hbig : (1048576 : Int) < (len0 : Int)
  · go_enter Tryd.func5, Tryd.ntmps5
    go_wp2
    go_ret
    exact ⟨rfl, Below.refl _ _⟩
  by_cases hbig' : (1048576 : Int) < (len1 : Int)
  · go_enter Tryd.func5, Tryd.ntmps5
    go_wp2
    go_ret
    exact ⟨rfl, Below.refl _ _⟩
  go_enter Tryd.func5, Tryd.ntmps5
  go_wp2_with (fail)
  refine (drawFlatReadIn a0 len0 cap0 z0 _ w0).mono ?_
  rintro e v1 ⟨a, n, c, ms, P, O, rfl, ⟨hM, hn6, h4⟩, _, _, B1⟩
  have hn : n ≤ 1048576 := by omega
  have hL : ∀ i, i < n → (ms.getD i []).length ≤ 1048576 := fun i hi => by have := h4 i hi; omega
  have hlm := hM.1
  go_wp2_with (fail)
  refine (implFlatReadIn _ _ a n c ms P O _ (hg.on B1) hM (Nat.le_refl _) hn).mono ?_
  rintro e v2 ⟨rfl, B2⟩
  have B02 := B1.trans (B2.mono B1.size)
  have hM2 := hM.same (below_sameIn B2 (Nat.le_refl _))
  have s2 : v1.heap.size ≤ v2.heap.size := B2.size
  clear B1 B2 hM
  go_wp2_with (fail)
  refine (specFlatReadIn _ _ a n c ms P O _ hM2 s2 hn hL).mono ?_
  rintro e v3 ⟨rfl, B3⟩
  have B03 := B02.trans (B3.mono B02.size)
  have hM3 := hM2.same (below_sameIn B3 s2)
  have s3 : v1.heap.size ≤ v3.heap.size := Nat.le_trans s2 B3.size
  clear B02 B3 hM2 s2
  by_cases hbad : riG ms P O = -3
  · rw [hbad]
    go_wp2_with (fail)
    refine (specFlatReadIn _ _ a n c ms P O _ hM3 s3 hn hL).mono ?_
    rintro e v4 ⟨rfl, B4⟩
    rw [hbad]
    go_wp2
    go_ret
    exact ⟨rfl, B03.trans (B4.mono B03.size)⟩
  obtain ⟨ht, hP, hO⟩ := riG_not hbad
  obtain ⟨ho, h6⟩ := tabB_ok ht
  obtain rfl : n = 6 := by omega
  have hr3 : riG ms P O ≠ -3 := hbad
  obtain ⟨D, hD, hD6⟩ : ∃ D : Nat, (P : Int) / 4 = (D : Int) ∧ D = P / 4 := ⟨P / 4, by omega, rfl⟩
  obtain ⟨M, hM', hM4⟩ : ∃ M : Nat, (P : Int) % 4 = (M : Int) ∧ M = P % 4 := ⟨P % 4, by omega, rfl⟩
  obtain ⟨kk, hkk6, hkk⟩ : ∃ kk : Nat, kk < 4 ∧ (len1 : Int) % 4 = (kk : Int) := ⟨len1 % 4, Nat.mod_lt _ (by omega), by omega⟩
  obtain ⟨to, hto, hto'⟩ : ∃ to : Nat, 2 + (kk : Int) = (to : Int) ∧ to = 2 + kk := ⟨2 + kk, by omega, rfl⟩
  obtain ⟨wd, hwd, hwd'⟩ : ∃ wd : Nat, 1 + 2 * (to : Int) = (wd : Int) ∧ wd = 1 + 2 * to := ⟨1 + 2 * to, by omega, rfl⟩
  have hD2 : D < 6 := by omega
  have hM2 : M < 4 := by omega
  have hwz : okZ (wd : Int) = true := by simp [okZ]; omega
  have h0z : okZ 0 = true := by decide
  have htx := tabB_put (O := M) ht hD2 hwz
  obtain ⟨g1, g2⟩ := wrG_good ht hD2 hM2 hwz
  obtain ⟨f1, f2⟩ := wrG_good htx hD2 hM2 h0z
  have hty := tabB_put (O := M) htx hD2 h0z
  have hex : entOf (putM ms D M wd) P = (true, (to : Int), false) := by
    unfold entOf
    rw [Int.toNat_natCast, atM_at _ ht hD2 hM2, if_pos ⟨hD6.symm, hM4.symm⟩, hwd', hto']
    match kk, hkk6 with
    | 0, _ => rfl
    | 1, _ => rfl
    | 2, _ => rfl
    | 3, _ => rfl
  have hey : entOf (putM (putM ms D M wd) D M 0) P = (false, 0, false) := by
    unfold entOf
    rw [Int.toNat_natCast, atM_at _ htx hD2 hM2, if_pos ⟨hD6.symm, hM4.symm⟩]
    rfl
  have k1 := riG_good (ms := putM ms D M wd) htx hP hO
  have k2 := riG_good (ms := putM (putM ms D M wd) D M 0) hty hP hO
  have k3 := rdG_good (ms := putM ms D M wd) (P := to) htx (by omega) hO
  rw [hex] at k1
  rw [hey] at k2
  have K1 : Hid (riG (putM ms D M wd) P O = atM (putM ms D M wd) to O) := k1
  have K2 : Hid (riG (putM (putM ms D M wd) D M 0) P O = -1) := k2
  have K3 : Hid (rdG (putM ms D M wd) to O = atM (putM ms D M wd) to O) := k3
  have G1 : Hid (wrG ms D M wd = atM ms D M) := g1
  have G2 : Hid (wrM ms D M wd = putM ms D M wd) := g2
  have F2 : Hid (wrM (putM ms D M wd) D M 0 = putM (putM ms D M wd) D M 0) := f2
  have hpos := (atM_bd (P := D) (O := M) ho (by omega) hM2).1
  have hxl : ∀ i, i < 6 → ((putM ms D M wd).getD i []).length ≤ 1048576 := fun i hi => by rw [putM_lens _ (by omega)]; exact hL i hi
  have hr3' : (riG ms P O == -3) = false := by simpa using hr3
  generalize riG ms P O = got at hr3'
  clear hex hey k1 k2 k3 g1 g2 f1 f2 hr3 hbad hD6 hM4 hto' hwd' htx hty hwz h0z
  go_wp2_with (fail)
  refine (implFlatWrite _ _ a 6 c ms D M wd _ (hg.on B03) hM3 s3 (by omega) hL).mono ?_
  rintro e v4 ⟨rfl, Mx, B4⟩
  rw [G1.out]
  rw [G2.out] at Mx
  generalize atM ms D M = was at hpos
  have B04 := B03.trans (B4.mono B03.size)
  have t4 := B4.size
  have Mx := Mx.mem
  clear B4 B03 hM3 G1 G2
  go_wp2_with (fail)
  refine (implFlatWrite _ _ _ 6 6 (putM ms D M wd) D M 0 _ (hg.on B04) Mx (Nat.le_refl _) (by omega) hxl).mono ?_
  rintro e v5 ⟨rfl, My, B5⟩
  rw [F2.out] at My
  have B05 := B04.trans (B5.mono B04.size)
  have Mx5 := Mx.same (below_sameIn B5 (Nat.le_refl _))
  have t5 := B5.size
  have My := My.mem
  clear B5 B04 Mx F2
  go_wp2_with (fail)
  refine (implFlatReadIn _ _ _ 6 6 (putM ms D M wd) P O _ (hg.on B05) Mx5 t5 (by omega)).mono ?_
  rintro e v6 ⟨rfl, B6⟩
  rw [K1.out]
  have B06 := B05.trans (B6.mono B05.size)
  have Mx6 := Mx5.same (below_sameIn B6 t5)
  have My6 := My.same (below_sameIn B6 (Nat.le_refl _))
  have t6 := B6.size
  clear B6 B05 Mx5 My K1
  go_wp2_with (fail)
  refine (implFlatRead _ _ _ 6 6 (putM ms D M wd) to O _ (hg.on B06) Mx6 (by omega) (by omega)).mono ?_
  rintro e v7 ⟨rfl, B7⟩
  rw [K3.out]
  have B07 := B06.trans (B7.mono B06.size)
  have My7 := My6.same (below_sameIn B7 (by omega))
  have t7 := B7.size
  clear B7 B06 Mx6 My6 K3
  go_wp2_with (fail)
  refine (implFlatReadIn _ _ _ 6 6 (putM (putM ms D M wd) D M 0) P O _ (hg.on B07) My7 (by omega) (by omega)).mono ?_
  rintro e v8 ⟨rfl, B8⟩
  rw [K2.out]
  go_wp2
  go_ret
  exact ⟨rfl, B07.trans (B8.mono B07.size)⟩
end Go.Proofs.YtcdgahmfggnafaeDoor
