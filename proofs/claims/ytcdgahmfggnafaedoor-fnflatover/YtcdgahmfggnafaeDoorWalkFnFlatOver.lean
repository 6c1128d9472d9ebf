/-
  The walk of the law FnFlatOver.
-/
import Derived.Test.YtcdgahmfggnafaeDoorFlatDraw0
import Derived.Test.YtcdgahmfggnafaeDoorLkSame0
namespace Go.Proofs.YtcdgahmfggnafaeDoor
open Go.RowKit

set_option maxHeartbeats 4000000 in
theorem walk_FnFlatOver (a0 : Option Addr) (len0 cap0 : Nat) (z0 : List Int) (w : World) (hg : ErrT w) (w0 : IsRow .u8 w a0 len0 cap0 z0) :
    Calls Tryd.prog 7 #[.slice a0 len0 cap0] w fun e w' => e = .returned (.bool true) ∧ Below w.heap.size w w' := by
  by_cases hbig : (1048576 : Int) < (len0 : Int)
  · go_enter Tryd.func7, Tryd.ntmps7
    go_wp2
    go_ret
    exact ⟨rfl, Below.refl _ _⟩
  go_enter Tryd.func7, Tryd.ntmps7
  go_wp2_with (fail)
  refine (drawFlatReadIn a0 len0 cap0 z0 _ w0).mono ?_
  rintro e v1 ⟨a, n, c, ms, P, O, rfl, ⟨hM, hn6, h4⟩, _, _, B1⟩
  have hn : n ≤ 1048576 := by omega
  have hL : ∀ i, i < n → (ms.getD i []).length ≤ 1048576 := fun i hi => by have := h4 i hi; omega
  have hlm := hM.1
  go_wp2_with (fail)
  refine (implFlatReadIn _ _ a n c ms P O _ (hg.on B1) hM (Nat.le_refl _) hn).mono ?_
  rintro e v2 ⟨rfl, B2⟩
  have B02 := B1.trans (B2.mono B1.size)
  have hM2 := hM.same (below_sameIn B2 (Nat.le_refl _))
  have s2 : v1.heap.size ≤ v2.heap.size := B2.size
  clear B1 B2 hM
  go_wp2_with (fail)
  refine (specFlatReadIn _ _ a n c ms P O _ hM2 s2 hn hL).mono ?_
  rintro e v3 ⟨rfl, B3⟩
  have B03 := B02.trans (B3.mono B02.size)
  have hM3 := hM2.same (below_sameIn B3 s2)
  have s3 : v1.heap.size ≤ v3.heap.size := Nat.le_trans s2 B3.size
  clear B02 B3 hM2 s2
  by_cases hbad : riG ms P O = -3
  · rw [hbad]
    go_wp2_with (fail)
    refine (specFlatReadIn _ _ a n c ms P O _ hM3 s3 hn hL).mono ?_
    rintro e v4 ⟨rfl, B4⟩
    rw [hbad]
    go_wp2
    go_ret
    exact ⟨rfl, B03.trans (B4.mono B03.size)⟩
  obtain ⟨ht, hP, hO⟩ := riG_not hbad
  obtain ⟨ho, h6⟩ := tabB_ok ht
  obtain rfl : n = 6 := by omega
  obtain ⟨eh, ep, ew, hen⟩ : ∃ eh ep ew, entOf ms P = (eh, ep, ew) := ⟨_, _, _, rfl⟩
  have hE : Hid (atE (tabM ms) P = (eh, ep, ew)) := (atE_ent hP).trans hen
  have hrg := riG_good (ms := ms) ht hP hO
  cases eh
  · rw [show riG ms P O = -1 by rw [hrg, hen]; rfl]
    clear hrg hbad hen
    go_wp2_with (fail)
    refine (implMemTab_yes _ _ a c ms _ hM3 s3 ho).mono ?_
    rintro e v4 ⟨T, rfl, hT1, hT2, hEn, hR, B4⟩
    have B04 := B03.trans (B4.mono B03.size)
    have hM4 := hM3.same (below_sameIn B4 s3)
    have s4 := B4.size
    clear hR B4 B03 hM3
    go_wp2_with (fail)
    refine (lkSame_any _).mono ?_
    rintro e u4 ⟨T1, cs, rfl, hU2, hEs, C4⟩
    have B04 := B04.trans (C4.mono B04.size)
    have hM4 := hM4.same (below_sameIn C4 (by omega))
    have hEn := hEn.below C4 hT2
    have r4 := C4.size
    clear C4
    go_wp2_with (fail)
    refine (implTabOver_ok T 0 6 (tabM ms) T1 0 cs sameT _ (tabM_len _) rfl (by omega) hU2 hEn hEs (okE_tabF ms) (by decide)).mono ?_
    rintro e x4 ⟨T2, rfl, hV1, hV2, hEo, _, D4⟩
    rw [over_same _ (okE_tabF ms)] at hEo
    have B04 := B04.trans (D4.mono B04.size)
    have hM4 := hM4.same (below_sameIn D4 (by omega))
    have q4 := D4.size
    clear D4 hEn hEs
    go_wp2_with (fail)
    refine (implTabAt T2 0 6 6 (tabM ms) P _ (tabM_len _) hV2 hEo).mono ?_
    rintro e v5 ⟨rfl, B5⟩
    have B05 := B04.trans (B5.mono B04.size)
    have hM5 := hM4.same (below_sameIn B5 (by omega))
    have s5 := B5.size
    have s05 := B05.size
    clear B5 B04 hM4 hEo
    rw [hE.out]
    unfold entV
    go_wp2
    go_ret
    refine ⟨rfl, ?_⟩
    (repeat' (with_reducible (first | exact Below.refl _ _ | apply Below.setCell | apply Below.alloc | apply below_drewN | apply Below.drew | refine Below.trans ?_ (Below.mono (by assumption) ?_)))) <;> (first | exact Nat.le_refl _ | (simp; done) | (simp; omega) | (simp at *; omega))
  · obtain ⟨Q, hQ, hQ2, hQ5, hrQ⟩ := goodR_led (goodR_of ht hP hO) (by rw [hen])
    obtain rfl : ep = (Q : Int) := by rw [hen] at hQ; exact hQ
    rw [show riG ms P O = atM ms Q O by rw [hrg, hen]; rfl]
    have hrd := rdG_good (ms := ms) (P := Q) ht (by omega) hO
    have hx := atM_bd (P := Q) ho (by omega) hO
    generalize atM ms Q O = x at hrd hx
    have hRd : Hid (rdG ms Q O = x) := hrd
    have hx3 : (x == -3) = false := by simp; omega
    have hx1 : (x == -1) = false := by simp; omega
    clear hrg hbad hen hQ hrQ hrd hx
    go_wp2_with (fail)
    refine (implMemTab_yes _ _ a c ms _ hM3 s3 ho).mono ?_
    rintro e v4 ⟨T, rfl, hT1, hT2, hEn, hR, B4⟩
    have B04 := B03.trans (B4.mono B03.size)
    have hM4 := hM3.same (below_sameIn B4 s3)
    have s4 := B4.size
    clear hR B4 B03 hM3
    go_wp2_with (fail)
    refine (lkSame_any _).mono ?_
    rintro e u4 ⟨T1, cs, rfl, hU2, hEs, C4⟩
    have B04 := B04.trans (C4.mono B04.size)
    have hM4 := hM4.same (below_sameIn C4 (by omega))
    have hEn := hEn.below C4 hT2
    have r4 := C4.size
    clear C4
    go_wp2_with (fail)
    refine (implTabOver_ok T 0 6 (tabM ms) T1 0 cs sameT _ (tabM_len _) rfl (by omega) hU2 hEn hEs (okE_tabF ms) (by decide)).mono ?_
    rintro e x4 ⟨T2, rfl, hV1, hV2, hEo, _, D4⟩
    rw [over_same _ (okE_tabF ms)] at hEo
    have B04 := B04.trans (D4.mono B04.size)
    have hM4 := hM4.same (below_sameIn D4 (by omega))
    have q4 := D4.size
    clear D4 hEn hEs
    go_wp2_with (fail)
    refine (implTabAt T2 0 6 6 (tabM ms) P _ (tabM_len _) hV2 hEo).mono ?_
    rintro e v5 ⟨rfl, B5⟩
    have B05 := B04.trans (B5.mono B04.size)
    have hM5 := hM4.same (below_sameIn B5 (by omega))
    have s5 := B5.size
    have s05 := B05.size
    clear B5 B04 hM4 hEo
    rw [hE.out]
    unfold entV
    have BA : Below v5.heap.size v5 (v5.alloc (.cells #[.bool true, .int .i64 (Q : Int), .bool ew] 30)) := (Below.refl _ _).alloc (Nat.le_refl _) _
    have hMA := hM5.same (below_sameIn BA (by omega))
    have BA0 := B05.trans (BA.mono B05.size)
    go_wp2_with (fail)
    refine (implFlatRead _ _ a 6 c ms Q O _ (hg.on BA0) hMA (by simp; omega) (by omega)).mono ?_
    rintro e v6 ⟨rfl, B6⟩
    rw [hRd.out]
    go_wp2
    go_ret
    exact ⟨rfl, BA0.trans (B6.mono BA0.size)⟩
end Go.Proofs.YtcdgahmfggnafaeDoor
