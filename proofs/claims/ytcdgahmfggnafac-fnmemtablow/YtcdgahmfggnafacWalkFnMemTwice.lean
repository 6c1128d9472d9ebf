/-
  The walk of the law FnMemTwice.
-/
import Derived.Test.YtcdgahmfggnafacMemDraw2
import Derived.Test.YtcdgahmfggnafacLkMem0
namespace Go.Proofs.Ytcdgahmfggnafac
open Go.RowKit

theorem okM_put {ms : List (List Int)} {P O : Nat} {z : Int} (ho : okM ms = true) (hP : P < ms.length) (hz : okZ z = true) : okM (putM ms P O z) = true := by
  have h1 : okP ((ms.getD P []).set O z) = true := by
    have hp : okP (ms.getD P []) = true := by
      unfold okM at ho
      rw [List.all_eq_true] at ho
      rw [getD_lt hP]
      exact ho _ (List.getElem_mem hP)
    simp only [okP, Bool.and_eq_true, beq_iff_eq, List.all_eq_true, List.length_set] at hp ⊢
    refine ⟨fun x hx => ?_, hp.2⟩
    rcases List.mem_or_eq_of_mem_set hx with h | h
    · exact hp.1 x h
    · rw [h]; exact hz
  unfold okM at ho ⊢
  rw [List.all_eq_true] at ho ⊢
  intro x hx
  rcases List.mem_or_eq_of_mem_set hx with h | h
  · exact ho x h
  · rw [h]; exact h1
theorem withB_put {ms : List (List Int)} {P O : Nat} {z : Int} (hw : withB ms P O z = true) (p o y : Int) : withB (putM ms P O z) p o y = withB ms p o y := by
  obtain ⟨P', O', e1, e2, hP, hO⟩ := withB_nat hw
  have ho := withB_ok hw
  have hz : okZ z = true := by
    simp only [withB, Bool.and_eq_true] at hw
    exact hw.2
  simp only [withB, atB, putM_len, ho, okM_put (P := P) (O := O) ho (by omega) hz]
theorem putM_twice (ms : List (List Int)) (P O : Nat) (x y : Int) (hP : P < ms.length) : putM (putM ms P O x) P O y = putM ms P O y := by
  rw [putM, putM_at O x hP, List.set_set, putM, List.set_set, putM]
theorem putM_comm (ms : List (List Int)) {P O p o : Nat} (x y : Int) (hP : P < ms.length) (hp : p < ms.length) (h : ¬ (p = P ∧ o = O)) : putM (putM ms P O x) p o y = putM (putM ms p o y) P O x := by
  by_cases hpp : p = P
  · subst hpp
    have hoo : o ≠ O := fun e => h ⟨rfl, e⟩
    rw [putM, putM_at O x hP, putM, List.set_set]
    rw [show putM (putM ms p o y) p O x = (putM ms p o y).set p (((putM ms p o y).getD p []).set O x) from rfl, putM_at o y hp, putM, List.set_set, List.set_comm _ _ (fun e => hoo e)]
  · rw [putM, putM_off O x hpp]
    rw [show putM (putM ms p o y) P O x = (putM ms p o y).set P (((putM ms p o y).getD P []).set O x) from rfl, putM_off o y (fun e => hpp e.symm)]
    rw [putM, putM, List.set_comm _ _ (fun e => hpp e.symm)]

set_option maxHeartbeats 4000000 in
theorem walk_FnMemTwice (a0 : Option Addr) (len0 cap0 : Nat) (z0 : List Int) (a1 : Option Addr) (len1 cap1 : Nat) (z1 : List Int) (w : World) (w0 : IsRow .u8 w a0 len0 cap0 z0) (w1 : IsRow .u8 w a1 len1 cap1 z1) :
    Calls Try.prog 6 #[.slice a0 len0 cap0, .slice a1 len1 cap1] w fun e w' => e = .returned (.bool true) ∧ Below w.heap.size w w' := by
  by_cases hbig : (1048576 : Int) < (len0 : Int)
  · go_enter Try.func6, Try.ntmps6
    go_wp2
    go_ret
    exact ⟨rfl, Below.refl _ _⟩
  by_cases hbig' : (1048576 : Int) < (len1 : Int)
  · go_enter Try.func6, Try.ntmps6
    go_wp2
    go_ret
    exact ⟨rfl, Below.refl _ _⟩
  go_enter Try.func6, Try.ntmps6
  go_wp2_with (fail)
  refine (drawMemWith a0 len0 cap0 z0 _ w0).mono ?_
  rintro e v1 ⟨a, n, c, ms, P, O, z, rfl, ⟨hM, hn6, h4⟩, _, _, _, B1⟩
  have hn : n ≤ 1048576 := by omega
  have hL : ∀ i, i < n → (ms.getD i []).length ≤ 1048576 := fun i hi => by have := h4 i hi; omega
  have hlm := hM.1
  go_wp2_with (fail)
  refine (drawMemWith a1 len1 cap1 z1 _ (w1.below B1)).mono ?_
  rintro e v2 ⟨_, _, _, _, p, o, y, rfl, _, _, _, _, B2⟩
  have B02 := B1.trans (B2.mono B1.size)
  have hM2 := hM.same (below_sameIn B2 (Nat.le_refl _))
  have s2 : v1.heap.size ≤ v2.heap.size := B2.size
  have hwl := withM_len ms P O z
  have hw4 := withM_four ms P O z
  go_wp2_with (fail)
  refine (specMemWith _ _ a n c ms P O z _ hM2 s2 hn hL).mono ?_
  rintro e v3 ⟨aw, cw, rfl, Mw, B3⟩
  have B03 := B02.trans (B3.mono B02.size)
  have hM3 := hM2.same (below_sameIn B3 s2)
  have s3 : v1.heap.size ≤ v3.heap.size := Nat.le_trans s2 B3.size
  have Mw := Mw.mem
  go_wp2_with (fail)
  refine (implMemWith _ _ a n c ms P O z _ hM3 s3 hn).mono ?_
  rintro e v4 ⟨ax, cx, rfl, Mx, B4⟩
  have B04 := B03.trans (B4.mono B03.size)
  have hM4 := hM3.same (below_sameIn B4 s3)
  have Mw4 := Mw.same (below_sameIn B4 (Nat.le_refl _))
  have s4 : v1.heap.size ≤ v4.heap.size := Nat.le_trans s3 B4.size
  have Mx := Mx.mem
  have t4 : v3.heap.size ≤ v4.heap.size := B4.size
  go_wp2_with (fail)
  refine (lkMem_same _ _ _ _ _ _ (withM ms P O z).length _ _ (withM ms P O z) _ Mx Mw4 (Nat.le_refl _) t4 (by omega) (fun i hi => by rw [hw4 i hi]; omega)).mono ?_
  rintro e v5 ⟨rfl, B5⟩
  have B05 := B04.trans (B5.mono B04.size)
  have t5 : v4.heap.size ≤ v5.heap.size := B5.size
  have Mw5 := Mw4.same (below_sameIn B5 t4)
  have Mx5 := Mx.same (below_sameIn B5 (Nat.le_refl _))
  have hM5 := hM4.same (below_sameIn B5 s4)
  clear B1 B2 B3 B4 B5 B02 B03 B04 hM hM2 hM3 hM4 Mw Mw4 Mx
  cases hw : withB ms P O z
  · go_wp2_with (fail)
    refine (lkMem_same _ _ _ _ _ _ (withM ms P O z).length _ _ (withM ms P O z) _ Mx5 Mw5 (by omega) (by omega) (by omega) (fun i hi => by rw [hw4 i hi]; omega)).mono ?_
    rintro e v6 ⟨rfl, B6⟩
    go_wp2
    go_ret
    exact ⟨rfl, B05.trans (B6.mono B05.size)⟩
  · obtain ⟨P', O', e1, e2, hP, hO⟩ := withB_nat hw
    obtain rfl : P = P' := by omega
    obtain rfl : O = O' := by omega
    rw [show withM ms P O z = putM ms P O z by rw [withM, hw]; rfl] at Mx5
    rw [putM_len, hlm] at Mx5
    rw [show (withM ms P O z).length = n by rw [withM, hw]; exact (putM_len _ _ _ _).trans hlm]
    clear Mw5 hwl hw4 e1 e2
    have hyl := withM_len ms p o y
    have hy4 := withM_four ms p o y
    have hWB := withB_put hw p o y
    go_wp2_with (fail)
    refine (implMemWith _ _ a n c ms p o y _ hM5 (by omega) hn).mono ?_
    rintro e v6 ⟨ay, cy, rfl, My, B6⟩
    have B06 := B05.trans (B6.mono B05.size)
    have t6 : v5.heap.size ≤ v6.heap.size := B6.size
    have Mx6 := Mx5.same (below_sameIn B6 t5)
    have My := My.mem
    clear B6 Mx5 hM5
    go_wp2_with (fail)
    refine (implMemWith _ _ ax n cx (putM ms P O z) p o y _ Mx6 (by omega) hn).mono ?_
    rintro e v7 ⟨aa, ca, rfl, Ma, B7⟩
    have B07 := B06.trans (B7.mono B06.size)
    have t7 : v6.heap.size ≤ v7.heap.size := B7.size
    have My7 := My.same (below_sameIn B7 (Nat.le_refl _))
    have Ma := Ma.mem
    clear B7 My Mx6
    rw [hWB]
    cases hv : withB ms p o y
    · go_wp2
      go_ret
      exact ⟨rfl, B07⟩
    · obtain ⟨p', o', e1, e2, hp, ho⟩ := withB_nat hv
      obtain rfl : p = p' := by omega
      obtain rfl : o = o' := by omega
      clear e1 e2
      have hMy : withM ms p o y = putM ms p o y := by rw [withM, hv]; rfl
      have hMa : withM (putM ms P O z) p o y = putM (putM ms P O z) p o y := by rw [withM, hWB, hv]; rfl
      rw [hMy] at My7 hyl hy4
      rw [hMa] at Ma
      rw [hMy, hMa]
      simp only [putM_len, hlm] at My7 Ma hyl hy4 ⊢
      by_cases hpo : p = P ∧ o = O
      · obtain ⟨rfl, rfl⟩ := hpo
        rw [putM_twice ms p o z y hp] at Ma
        go_wp2_with (fail)
        refine (lkMem_same _ _ _ _ _ _ n _ _ (putM ms p o y) _ Ma My7 (Nat.le_refl _) t7 hn (fun i hi => by rw [hy4 i hi]; omega)).mono ?_
        rintro e v8 ⟨rfl, B8⟩
        go_wp2
        go_ret
        exact ⟨rfl, B07.trans (B8.mono B07.size)⟩
      · have hne : ((p : Int) == (P : Int)) = false ∨ (((p : Int) == (P : Int)) = true ∧ ((o : Int) == (O : Int)) = false) := by
          by_cases hpp : p = P
          · refine Or.inr ⟨by simp [hpp], ?_⟩
            have : ¬ o = O := fun e => hpo ⟨hpp, e⟩
            simp
            omega
          · left
            simp
            omega
        have hB3 : withB (putM ms p o y) P O z = true := by rw [withB_put hv]; exact hw
        have hMb : withM (putM ms p o y) P O z = putM (putM ms P O z) p o y := by
          rw [withM, hB3]
          exact (putM_comm ms z y (by omega) (by omega) hpo).symm
        have hW := implMemWith _ _ ay n cy (putM ms p o y) P O z _ My7 t7 hn
        rw [hB3, hMb] at hW
        simp only [putM_len, hlm] at hW
        have ha4 : ∀ i, i < n → ((putM (putM ms P O z) p o y).getD i []).length ≤ 1048576 := fun i hi => by
          have := withM_four (putM ms P O z) p o y i (by rw [hMa]; simp only [putM_len, hlm]; exact hi)
          rw [hMa] at this
          omega
        have t17 : v1.heap.size ≤ v7.heap.size := by omega
        clear hB3 hMb hMa hMy hWB
        rcases hne with hne | ⟨hne, hne'⟩
        · go_wp2_with (fail)
          refine hW.mono ?_
          rintro e v8 ⟨ab, cb, rfl, Mb, B8⟩
          have B08 := B07.trans (B8.mono B07.size)
          have Ma8 := Ma.same (below_sameIn B8 (Nat.le_refl _))
          go_wp2_with (fail)
          refine (lkMem_same _ _ _ _ _ _ n _ _ (putM (putM ms P O z) p o y) _ Ma8 Mb.mem B8.size (Nat.le_refl _) hn ha4).mono ?_
          rintro e v9 ⟨rfl, B9⟩
          go_wp2
          go_ret
          exact ⟨rfl, B08.trans (B9.mono B08.size)⟩
        · go_wp2_with (fail)
          refine hW.mono ?_
          rintro e v8 ⟨ab, cb, rfl, Mb, B8⟩
          have B08 := B07.trans (B8.mono B07.size)
          have Ma8 := Ma.same (below_sameIn B8 (Nat.le_refl _))
          go_wp2_with (fail)
          refine (lkMem_same _ _ _ _ _ _ n _ _ (putM (putM ms P O z) p o y) _ Ma8 Mb.mem B8.size (Nat.le_refl _) hn ha4).mono ?_
          rintro e v9 ⟨rfl, B9⟩
          go_wp2
          go_ret
          exact ⟨rfl, B08.trans (B9.mono B08.size)⟩
end Go.Proofs.Ytcdgahmfggnafac
