/-
  The walk of the law FnFlatBack.
-/
import Derived.Test.YtcdgahmfggnafadDoorFlatDraw0
namespace Go.Proofs.YtcdgahmfggnafadDoor
open Go.RowKit

set_option maxHeartbeats 4000000 in
theorem walk_FnFlatBack (a0 : Option Addr) (len0 cap0 : Nat) (z0 : List Int) (w : World) (hg : ErrT w) (w0 : IsRow .u8 w a0 len0 cap0 z0) :
    Calls Tryd.prog 3 #[.slice a0 len0 cap0] w fun e w' => e = .returned (.bool true) ∧ Below w.heap.size w w' := by
  by_cases hbig : (1048576 : Int) < (len0 : Int)
  · go_enter Tryd.func3, Tryd.ntmps3
    go_wp2
    go_ret
    exact ⟨rfl, Below.refl _ _⟩
  go_enter Tryd.func3, Tryd.ntmps3
  go_wp2_with (fail)
  refine (drawFlatWrite a0 len0 cap0 z0 _ w0).mono ?_
  rintro e v1 ⟨a, n, c, ms, P, O, z, rfl, ⟨hM, hn6, h4⟩, _, _, _, B1⟩
  have hn : n ≤ 1048576 := by omega
  have hL : ∀ i, i < n → (ms.getD i []).length ≤ 1048576 := fun i hi => by have := h4 i hi; omega
  have hlm := hM.1
  have hWL : ∀ i, i < n → ((wrM ms P O z).getD i []).length ≤ 1048576 := fun i hi => by rw [wrM_lens]; exact hL i hi
  go_wp2_with (fail)
  refine (specFlatWrite _ _ a n c ms P O z _ hM (Nat.le_refl _) hn hL).mono ?_
  rintro e v3 ⟨aw, cw, rfl, Mw, B3⟩
  have B03 := B1.trans (B3.mono B1.size)
  have hM3 := hM.same (below_sameIn B3 (Nat.le_refl _))
  have s3 : v1.heap.size ≤ v3.heap.size := B3.size
  have Mw := Mw.mem
  go_wp2_with (fail)
  refine (implFlatWrite _ _ a n c ms P O z _ (hg.on B03) hM3 s3 hn hL).mono ?_
  rintro e v4 ⟨rfl, Mx, B4⟩
  have B04 := B03.trans (B4.mono B03.size)
  have hM4 := hM3.same (below_sameIn B4 s3)
  have Mw4 := Mw.same (below_sameIn B4 (Nat.le_refl _))
  have Mx := Mx.mem
  have t4 : v3.heap.size ≤ v4.heap.size := B4.size
  go_wp2_with (fail)
  refine (lkMem_same _ _ _ _ _ _ n _ _ (wrM ms P O z) _ Mx Mw4 (Nat.le_refl _) t4 hn hWL).mono ?_
  rintro e v5 ⟨rfl, B5⟩
  have B05 := B04.trans (B5.mono B04.size)
  have t5 : v4.heap.size ≤ v5.heap.size := B5.size
  have Mw5 := Mw4.same (below_sameIn B5 t4)
  have Mx5 := Mx.same (below_sameIn B5 (Nat.le_refl _))
  have hM5 := hM4.same (below_sameIn B5 (by omega))
  clear B1 B3 B4 B5 B03 B04 hM hM3 hM4 Mw Mw4 Mx
  by_cases hpos : 0 ≤ wrG ms P O z
  · obtain ⟨ht, hP, hO, hz⟩ := wrG_pos hpos
    obtain ⟨e1, e2⟩ := wrG_good ht hP hO hz
    rw [e2] at Mx5
    rw [e1] at hpos
    obtain ⟨ho, h6⟩ := tabB_ok ht
    have hW := implMemWith _ _ a n c ms P O z _ hM5 (by omega) hn
    have hwb : withB ms P O z = true := by simp [withB, goodR_at (goodR_of ht hP hO), hz]
    rw [hwb, show withM ms P O z = putM ms P O z by rw [withM, hwb]; rfl, putM_len, hlm] at hW
    rw [e1]
    have hnn : ¬ atM ms P O < 0 := by omega
    clear hWL Mw5
    go_wp2_with (fail)
    refine hW.mono ?_
    rintro e v6 ⟨ay, cy, rfl, My, B6⟩
    have B06 := B05.trans (B6.mono B05.size)
    have t6 : v5.heap.size ≤ v6.heap.size := B6.size
    have Mx6 := Mx5.same (below_sameIn B6 (by omega))
    have hM6 := hM5.same (below_sameIn B6 (by omega))
    have My := My.mem
    go_wp2_with (fail)
    refine (implFlatRead _ _ a n c ms P O _ (hg.on B06) hM6 (by omega) hn).mono ?_
    rintro e v7 ⟨rfl, B7⟩
    rw [rdG_good ht hP hO]
    have B07 := B06.trans (B7.mono B06.size)
    have t7 : v6.heap.size ≤ v7.heap.size := B7.size
    have Mx7 := Mx6.same (below_sameIn B7 (by omega))
    have My7 := My.same (below_sameIn B7 (by omega))
    go_wp2_with (fail)
    refine (implFlatRead _ _ _ n n (putM ms P O z) P O _ (hg.on B07) Mx7 (by omega) hn).mono ?_
    rintro e v8 ⟨rfl, B8⟩
    rw [rdG_good (tabB_put ht hP hz) hP hO, atM_at z ht hP hO, if_pos ⟨rfl, rfl⟩]
    have B08 := B07.trans (B8.mono B07.size)
    have t8 : v7.heap.size ≤ v8.heap.size := B8.size
    have Mx8 := Mx7.same (below_sameIn B8 (by omega))
    have My8 := My7.same (below_sameIn B8 (by omega))
    go_wp2_with (fail)
    refine (lkMem_same _ _ _ _ _ _ n _ _ (putM ms P O z) _ Mx8 My8 (by omega) (by omega) hn (fun i hi => by rw [putM_lens z (by omega)]; exact hL i hi)).mono ?_
    rintro e v9 ⟨rfl, B9⟩
    go_wp2
    go_ret
    exact ⟨rfl, B08.trans (B9.mono B08.size)⟩
  · have hneg : wrG ms P O z < 0 := by omega
    go_wp2_with (fail)
    refine (lkMem_same _ _ _ _ _ _ n _ _ (wrM ms P O z) _ Mx5 Mw5 (by omega) (by omega) hn hWL).mono ?_
    rintro e v6 ⟨rfl, B6⟩
    go_wp2
    go_ret
    exact ⟨rfl, B05.trans (B6.mono B05.size)⟩
end Go.Proofs.YtcdgahmfggnafadDoor
