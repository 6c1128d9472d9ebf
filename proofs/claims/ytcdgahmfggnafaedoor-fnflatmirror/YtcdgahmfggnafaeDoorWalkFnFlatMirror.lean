/-
  The walk of the law FnFlatMirror.
-/
import Derived.Test.YtcdgahmfggnafaeDoorFlatDraw0
import Derived.Test.YtcdgahmfggnafaeDoorFlatAt0
namespace Go.Proofs.YtcdgahmfggnafaeDoor
open Go.RowKit

set_option maxHeartbeats 4000000 in
theorem walk_FnFlatMirror (a0 : Option Addr) (len0 cap0 : Nat) (z0 : List Int) (a1 : Option Addr) (len1 cap1 : Nat) (z1 : List Int) (w : World) (hg : ErrT w) (w0 : IsRow .u8 w a0 len0 cap0 z0) (_w1 : IsRow .u8 w a1 len1 cap1 z1) :
    Calls Tryd.prog 4 #[.slice a0 len0 cap0, .slice a1 len1 cap1] w fun e w' => e = .returned (.bool true) ∧ Below w.heap.size w w' := by
  by_cases hbig : (1048576 : Int) < (len0 : Int)
  · go_enter Tryd.func4, Tryd.ntmps4
    go_wp2
    go_ret
    exact ⟨rfl, Below.refl _ _⟩
  by_cases hbig' : (1048576 : Int) < (len1 : Int)
  · go_enter Tryd.func4, Tryd.ntmps4
    go_wp2
    go_ret
    exact ⟨rfl, Below.refl _ _⟩
  go_enter Tryd.func4, Tryd.ntmps4
  go_wp2_with (fail)
  refine (drawFlatWriteIn a0 len0 cap0 z0 _ w0).mono ?_
  rintro e v1 ⟨a, n, c, ms, P, O, z, rfl, ⟨hM, hn6, h4⟩, _, _, hz200, B1⟩
  have hn : n ≤ 1048576 := by omega
  have hL : ∀ i, i < n → (ms.getD i []).length ≤ 1048576 := fun i hi => by have := h4 i hi; omega
  have hlm := hM.1
  have hWL : ∀ i, i < n → ((wiM ms P O z).getD i []).length ≤ 1048576 := fun i hi => by rw [wiM_lens]; exact hL i hi
  go_wp2_with (fail)
  refine (specFlatWriteIn _ _ a n c ms P O z _ hM (Nat.le_refl _) hn hL).mono ?_
  rintro e v3 ⟨aw, cw, rfl, Mw, B3⟩
  have B03 := B1.trans (B3.mono B1.size)
  have hM3 := hM.same (below_sameIn B3 (Nat.le_refl _))
  have s3 : v1.heap.size ≤ v3.heap.size := B3.size
  have Mw := Mw.mem
  go_wp2_with (fail)
  refine (implFlatWriteIn _ _ a n c ms P O z _ (hg.on B03) hM3 s3 hn hL).mono ?_
  rintro e v4 ⟨tx, rfl, Mx, B4⟩
  have B04 := B03.trans (B4.mono B03.size)
  have hM4 := hM3.same (below_sameIn B4 s3)
  have Mw4 := Mw.same (below_sameIn B4 (Nat.le_refl _))
  have Mx := Mx.mem
  have t4 : v3.heap.size ≤ v4.heap.size := B4.size
  go_wp2_with (fail)
  refine (lkMem_same _ _ _ _ _ _ n _ _ (wiM ms P O z) _ Mx Mw4 (Nat.le_refl _) t4 hn hWL).mono ?_
  rintro e v5 ⟨rfl, B5⟩
  have B05 := B04.trans (B5.mono B04.size)
  have t5 : v4.heap.size ≤ v5.heap.size := B5.size
  have Mw5 := Mw4.same (below_sameIn B5 t4)
  have Mx5 := Mx.same (below_sameIn B5 (Nat.le_refl _))
  have hM5 := hM4.same (below_sameIn B5 (by omega))
  clear B1 B3 B4 B5 B03 B04 hM hM3 hM4 Mw Mw4 Mx
  by_cases hpos : 0 ≤ wiG ms P O z
  · obtain ⟨ht, hP, hO, hz, Q, he, hQ2, hQ6⟩ := wiG_pos hpos
    obtain ⟨e1, e2⟩ := wiG_good ht hP hO hz he
    rw [e2] at Mx5
    rw [e1] at hpos
    obtain ⟨ho, h6⟩ := tabB_ok ht
    obtain rfl : n = 6 := by omega
    rw [e1]
    have hnn : ¬ atM ms Q O < 0 := by omega
    have htx := tabB_put (O := O) ht hQ6 hz
    have hE : Hid (atE (tabM ms) P = (true, (Q : Int), true)) := (atE_ent hP).trans he
    obtain ⟨kk, hkk6, hkk⟩ : ∃ kk : Nat, kk < 6 ∧ (len1 : Int) % 6 = (kk : Int) := ⟨len1 % 6, Nat.mod_lt _ (by omega), by omega⟩
    obtain ⟨bh, bp, bw, hen⟩ : ∃ eh ep ew, entOf ms kk = (eh, ep, ew) := ⟨_, _, _, rfl⟩
    have hEb : Hid (atE (tabM ms) kk = (bh, bp, bw)) := (atE_ent hkk6).trans hen
    have hex : entOf (putM ms Q O z) kk = (bh, bp, bw) := (entOf_low ht hQ6 hQ2 hO hkk6).trans hen
    have r1 := riG_good (ms := ms) ht hkk6 hO
    have r2 := riG_good (ms := putM ms Q O z) htx hkk6 hO
    rw [hen] at r1
    rw [hex, atM_at z ht hQ6 hO] at r2
    simp only at r1 r2
    have hbp : bh = true → 2 ≤ bp ∧ bp ≤ 5 := fun hb => by
      have := entOf_bd (ms := ms) (p := kk) (by rw [hen]; exact hb)
      rwa [hen] at this
    obtain ⟨x1, hx1⟩ : ∃ x, x = riG ms kk O := ⟨_, rfl⟩
    obtain ⟨x2, hx2⟩ : ∃ x, x = riG (putM ms Q O z) kk O := ⟨_, rfl⟩
    have key : (bh = true ∧ bp = Q → x2 = z ∧ x1 = atM ms Q O) ∧ (¬ (bh = true ∧ bp = Q) → x2 = x1) := by
      rw [hx1, hx2, r1, r2]
      constructor
      · rintro ⟨hb, hq⟩
        rw [hb, hq]
        simp
      · intro hno
        cases hb : bh
        · rfl
        · have h2 := hbp hb
          simp only [cond_true]
          rw [if_neg (show ¬ (bp.toNat = Q ∧ True) from fun h => hno ⟨hb, by have := h.1; omega⟩)]
    have HX1 : Hid (riG ms kk O = x1) := hx1.symm
    have HX2 : Hid (riG (putM ms Q O z) kk O = x2) := hx2.symm
    clear Mw5 hWL e1 e2 he hex hen r1 r2 hx1 hx2 hbp
    go_wp2_with (fail)
    refine (implMemTab_yes _ _ a c ms _ hM5 (by omega) ho).mono ?_
    rintro e v6 ⟨T, rfl, hT1, hT2, hEn, hR, B6⟩
    have B06 := B05.trans (B6.mono B05.size)
    have hM6 := hM5.same (below_sameIn B6 (by omega))
    have Mx6 := Mx5.same (below_sameIn B6 (by omega))
    have s6 := B6.size
    clear hR B6 B05 hM5 Mx5
    go_wp2_with (fail)
    refine (implTabAt T 0 6 6 (tabM ms) P _ (tabM_len _) hT2 hEn).mono ?_
    rintro e v7 ⟨rfl, B7⟩
    have B07 := B06.trans (B7.mono B06.size)
    have hM7 := hM6.same (below_sameIn B7 (by omega))
    have Mx7 := Mx6.same (below_sameIn B7 (by omega))
    have hEn7 := hEn.below B7 hT2
    have s7 := B7.size
    clear B7 B06 hEn hM6 Mx6
    rw [hE.out]
    unfold entV
    have A0 := at3_newF v7 true (Q : Int) true 30
    have BA : Below v7.heap.size v7 (v7.alloc (.cells #[.bool true, .int .i64 (Q : Int), .bool true] 30)) := (Below.refl _ _).alloc (Nat.le_refl _) _
    have hM8 := hM7.same (below_sameIn BA (by omega))
    have Mx8 := Mx7.same (below_sameIn BA (by omega))
    have B08 := B07.trans (BA.mono B07.size)
    have hEn8 := hEn7.below BA (by omega)
    clear hM7 Mx7 B07 hEn7
    go_wp2_with (fail)
    generalize hv8 : v7.alloc (.cells #[.bool true, .int .i64 (Q : Int), .bool true] 30) = v8 at A0 BA hM8 Mx8 B08 hEn8
    have s8 := BA.size
    generalize v7.heap.size = ba at A0 BA s7 s8
    clear hv8 BA
    refine (implTabAt T 0 6 6 (tabM ms) kk _ (tabM_len _) (by omega) hEn8).mono ?_
    rintro e v9 ⟨rfl, B9⟩
    have A9 := A0.below B9
    have B09 := B08.trans (B9.mono B08.size)
    have hM9 := hM8.same (below_sameIn B9 (by omega))
    have Mx9 := Mx8.same (below_sameIn B9 (by omega))
    have s9 := B9.size
    clear A0 B08 B9 hM8 Mx8 hEn8
    rw [hEb.out]
    unfold entV
    have C0 := at3_newF v9 bh bp bw 30
    have BB : Below v9.heap.size v9 (v9.alloc (.cells #[.bool bh, .int .i64 bp, .bool bw] 30)) := (Below.refl _ _).alloc (Nat.le_refl _) _
    have A10 := A9.below BB
    have hM10 := hM9.same (below_sameIn BB (by omega))
    have Mx10 := Mx9.same (below_sameIn BB (by omega))
    have B010 := B09.trans (BB.mono B09.size)
    clear hM9 Mx9 B09 A9
    go_wp2_with (fail)
    generalize hv10 : v9.alloc (.cells #[.bool bh, .int .i64 bp, .bool bw] 30) = v10 at A10 BB hM10 Mx10 B010 C0
    have s10 := BB.size
    generalize v9.heap.size = bb at C0 BB s9 s10
    clear hv10 BB
    refine (implFlatReadIn _ _ a 6 c ms kk O _ (hg.on B010) hM10 (by omega) (by omega)).mono ?_
    rintro e v11 ⟨rfl, B11⟩
    rw [HX1.out]
    have A11 := A10.below B11
    have C11 := C0.below B11
    have B011 := B010.trans (B11.mono B010.size)
    have Mx11 := Mx10.same (below_sameIn B11 (by omega))
    have s11 := B11.size
    clear A10 C0 B010 B11 hM10 Mx10
    go_wp2_with (fail)
    refine (implFlatReadIn _ _ _ 6 6 (putM ms Q O z) kk O _ (hg.on B011) Mx11 (by omega) (by omega)).mono ?_
    rintro e v12 ⟨rfl, B12⟩
    rw [HX2.out]
    obtain ⟨_, i0, i1, i2⟩ := A11.below B12
    obtain ⟨_, j0, j1, j2⟩ := C11.below B12
    have B012 := B011.trans (B12.mono B011.size)
    clear A11 C11 B011 B12 Mx11
    by_cases hc : bh = true ∧ bp = Q
    · obtain ⟨k1, k2⟩ := key.1 hc
      obtain ⟨rfl, rfl⟩ := hc
      subst k1 k2
      clear key
      go_wp2
      go_ret
      exact ⟨rfl, B012⟩
    · have k1 := key.2 hc
      subst k1
      clear key
      cases bh
      · go_wp2
        go_ret
        exact ⟨rfl, B012⟩
      · have hne : (bp == (Q : Int)) = false := by simpa using hc
        go_wp2
        go_ret
        exact ⟨rfl, B012⟩
  · have hneg : wiG ms P O z < 0 := by omega
    go_wp2_with (fail)
    refine (lkMem_same _ _ _ _ _ _ n _ _ (wiM ms P O z) _ Mx5 Mw5 (by omega) (by omega) hn hWL).mono ?_
    rintro e v6 ⟨rfl, B6⟩
    go_wp2
    go_ret
    exact ⟨rfl, B05.trans (B6.mono B05.size)⟩
end Go.Proofs.YtcdgahmfggnafaeDoor
