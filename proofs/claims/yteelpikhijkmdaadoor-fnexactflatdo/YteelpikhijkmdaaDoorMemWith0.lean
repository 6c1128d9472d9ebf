/-
  What the given MemWith and MemNew do.
-/
import Derived.Test.YteelpikhijkmdaaDoorMemCopy0
namespace Go.Proofs.YteelpikhijkmdaaDoor
open Go.RowKit

/-- A word in the place of another, in memory that is a call's own. -/
theorem OwnUpto.put {w : World} {T lo hi k P O : Nat} {ms : List (List Int)} (h : OwnUpto w T lo hi k ms) (hP : P < k) (hm : P < ms.length) (hO : O < (ms.getD P []).length) (z : Int) :
    ∃ p c v, lo ≤ p ∧ p < hi ∧ p ≠ T ∧ w.cell? ⟨T, P, none⟩ = some (.slice (some ⟨p, 0, none⟩) (ms.getD P []).length c) ∧ w.cell? ⟨p, O, none⟩ = some v ∧ w.frozen? ⟨p, O, none⟩ = false ∧
      OwnUpto (w.setCell ⟨p, O, none⟩ (.int .i64 z)) T lo hi k (putM ms P O z) := by
  obtain ⟨bs, hi1, h⟩ := h
  obtain ⟨g1, g2, g3, ⟨c, g4⟩, g5, g6, g7⟩ := h P hP
  have g8 := g6 O hO
  rw [Nat.zero_add] at g8
  refine ⟨bs P, c, _, g1, g2, g3, g4, g8, g7 O hO, bs, hi1, fun i hi => ?_⟩
  obtain ⟨k1, k2, k3, ⟨c', k4⟩, k5, k6, k7⟩ := h i hi
  by_cases hiP : i = P
  · subst hiP
    rw [putM_at O z hm, List.length_set]
    refine ⟨k1, k2, k3, ⟨c', ?_⟩, ?_, ?_, fun j hj => ?_⟩
    · rw [cell_off (fun e => k3 e.symm)]; exact k4
    · rw [frozen_put]; exact k5
    · have := ints_set (k := O) k6 z
      rwa [Nat.zero_add] at this
    · rw [frozen_put]; exact k7 j hj
  · have hne : bs i ≠ bs P := by
      rcases Nat.lt_or_gt_of_ne hiP with hlt | hgt
      · have := hi1 i P hlt hP
        omega
      · have := hi1 P i hgt hi
        omega
    rw [putM_off O z hiP]
    refine ⟨k1, k2, k3, ⟨c', ?_⟩, ?_, fun j hj => ?_, fun j hj => ?_⟩
    · rw [cell_off (fun e => g3 e.symm)]; exact k4
    · rw [frozen_put]; exact k5
    · rw [cell_off hne]; exact k6 j hj
    · rw [frozen_put]; exact k7 j hj

set_option maxHeartbeats 1000000 in
theorem specMemWith_no (lo hi : Nat) (a : Option Addr) (len cap : Nat) (ms : List (List Int)) (p o z : Int) (w : World) (h : IsMem w lo hi a len ms) (hn : len ≤ 1048576) (hL : ∀ i, i < len → (ms.getD i []).length ≤ 1048576) (hx : (atB ms p o && okZ z) = false) :
    Calls Tryd.prog 26 #[.slice a len cap, .int .i64 p, .int .i64 o, .int .i64 z] w fun e w' => e = .returned (.tuple #[.slice (some ⟨w.heap.size, 0, none⟩) 0 0, .bool false]) ∧ Below w.heap.size w w' := by
  cases hA : atB ms p o
  · go_enter Tryd.func26, Tryd.ntmps26
    go_wp2_with (fail)
    refine (specMemAt lo hi a len cap ms p o _ h hn hL).mono ?_
    rintro e w1 ⟨rfl, rfl⟩
    rw [hA]
    go_wp2
    refine bodyPost_ret (v := .tuple #[.slice (some ⟨w1.heap.size, 0, none⟩) 0 0, .bool false]) (by simp [results, Tryd.results26, go_sem]) rfl ⟨rfl, ?_⟩
    (repeat' (with_reducible (first | exact Below.refl _ _ | apply Below.setCell | apply Below.alloc | apply below_drewN | apply Below.drew))) <;> (first | exact Nat.le_refl _ | (simp; done) | (simp; omega))
  · have hz : okZ z = false := by simpa [hA] using hx
    have hI := specIn z 0 63
    rw [show (decide (0 ≤ z) && decide (z ≤ 63)) = okZ z from rfl, hz] at hI
    go_enter Tryd.func26, Tryd.ntmps26
    go_wp2_with (fail)
    refine (specMemAt lo hi a len cap ms p o _ h hn hL).mono ?_
    rintro e w1 ⟨rfl, rfl⟩
    rw [hA]
    go_wp2_with (fail)
    refine (hI _).mono ?_
    rintro e w2 ⟨rfl, rfl⟩
    go_wp2
    refine bodyPost_ret (v := .tuple #[.slice (some ⟨w2.heap.size, 0, none⟩) 0 0, .bool false]) (by simp [results, Tryd.results26, go_sem]) rfl ⟨rfl, ?_⟩
    (repeat' (with_reducible (first | exact Below.refl _ _ | apply Below.setCell | apply Below.alloc | apply below_drewN | apply Below.drew))) <;> (first | exact Nat.le_refl _ | (simp; done) | (simp; omega))

set_option maxHeartbeats 1000000 in
theorem specMemWith_yes (lo hi : Nat) (a : Option Addr) (len cap : Nat) (ms : List (List Int)) (P O : Nat) (z : Int) (w : World) (h : IsMem w lo hi a len ms) (hh : hi ≤ w.heap.size) (hn : len ≤ 1048576) (hx : (atB ms P O && okZ z) = true) :
    Calls Tryd.prog 26 #[.slice a len cap, .int .i64 P, .int .i64 O, .int .i64 z] w fun e w' => ∃ a c, e = .returned (.tuple #[.slice a len c, .bool true]) ∧ OwnMem w' w.heap.size w'.heap.size a len (putM ms P O z) ∧ Below w.heap.size w w' := by
  have hl := h.1
  have hx' := hx
  simp only [atB, Bool.and_eq_true, hl] at hx'
  obtain ⟨⟨ho, hp⟩, hz⟩ := hx'
  have hA : atB ms P O = true := by
    simp only [Bool.and_eq_true] at hx
    exact hx.1
  have hPO : P < len ∧ O < 4 := by simp [placeB] at hp; omega
  obtain ⟨hP, hO⟩ := hPO
  have h4 : ∀ i, i < len → (ms.getD i []).length = 4 := fun i hi => (okM_get ho (by omega)).1
  have hI := specIn z 0 63
  rw [show (decide (0 ≤ z) && decide (z ≤ 63)) = okZ z from rfl, hz] at hI
  go_enter Tryd.func26, Tryd.ntmps26
  go_wp2_with (fail)
  refine (specMemAt lo hi a len cap ms P O _ h hn (fun i hi => by rw [h4 i hi]; omega)).mono ?_
  rintro e w1 ⟨rfl, rfl⟩
  rw [hA]
  go_wp2_with (fail)
  refine (hI _).mono ?_
  rintro e w2 ⟨rfl, rfl⟩
  go_wp2_with (fail)
  refine (specCopy lo hi a len cap ms _ h hh hn (fun i hi => by rw [h4 i hi]; omega)).mono ?_
  rintro e w3 ⟨a3, c3, rfl, hM, B3⟩
  obtain ⟨hlm, hd⟩ := hM
  rcases hd with h0 | ⟨T, rfl, hT1, hT2, hU⟩
  · omega
  obtain ⟨p, c, v, hp1, hp2, hpT, d0, d1, f1, hU'⟩ := hU.put (P := P) (O := O) hP (by omega) (by rw [h4 P hP]; exact hO) z
  rw [h4 P hP] at d0
  have HU : Hid (OwnUpto (w3.setCell ⟨p, O, none⟩ (.int .i64 z)) T w2.heap.size w3.heap.size len (putM ms P O z)) := hU'
  have hPi : (P : Int) < (len : Int) := by omega
  have hOi : (O : Int) < 4 := by omega
  have B4 := B3.setCell (p := ⟨p, O, none⟩) hp1 (.int .i64 z)
  clear hU hU'
  go_wp2
  refine bodyPost_ret (v := .tuple #[.slice (some ⟨T, 0, none⟩) len c3, .bool true]) (by simp [results, Tryd.results26, go_sem]) rfl ?_
  refine ⟨_, _, rfl, ⟨by rw [putM_len]; exact hl, Or.inr ⟨T, rfl, hT1, by simpa using hT2, ?_⟩⟩, B4⟩
  simpa using HU.out

theorem own_made (w : World) (t : TypeId) : (w.alloc (.cells (madeCells #[.int .i64 0] 4) t)).ownsRow w.heap.size t 1 (.slice (some ⟨w.heap.size, 0, none⟩) 4 4) 4 (zv [0, 0, 0, 0]) :=
  ⟨rfl, Or.inr ⟨w.heap.size, 4, _, rfl, Nat.le_refl _, heap_alloc_new w _, Nat.le_refl _, by simp [maxLen], by simp [size_madeCells], by rw [toList_madeCells_one]; rfl⟩⟩

set_option maxHeartbeats 1000000 in
theorem specPage (w : World) :
    Calls Tryd.prog 94 #[] w fun e w' => e = .returned (.slice (some ⟨w.heap.size, 0, none⟩) 4 4) ∧ w' = w.alloc (.cells (madeCells #[.int .i64 0] 4) 3) := by
  have hmk : ∀ w : World, (Instr.makeSlice 56 (.int .i64 4) (.int .i64 4)).run Tryd.prog w = .ok (.slice (some ⟨w.heap.size, 0, none⟩) 4 4) (w.alloc (.cells (madeCells #[.int .i64 0] 4) 3)) := fun w => make_ints 4 (by omega) w
  go_enter Tryd.func94, Tryd.ntmps94
  go_wp2
  go_ret
  exact ⟨rfl, rfl⟩

set_option maxHeartbeats 1000000 in
theorem specMemNew_no (n : Int) (w : World) (h : n < 0 ∨ 6 < n) :
    Calls Tryd.prog 81 #[.int .i64 n] w fun e w' => e = .returned (.slice (some ⟨w.heap.size, 0, none⟩) 0 0) ∧ Below w.heap.size w w' := by
  have hI := specIn n 0 6
  rw [show (decide (0 ≤ n) && decide (n ≤ 6)) = false by simp; omega] at hI
  go_enter Tryd.func81, Tryd.ntmps81
  go_wp2_with (fail)
  refine (hI _).mono ?_
  rintro e w2 ⟨rfl, rfl⟩
  go_wp2
  go_ret
  refine ⟨rfl, ?_⟩
  (repeat' (with_reducible (first | exact Below.refl _ _ | apply Below.setCell | apply Below.alloc | apply below_drewN | apply Below.drew))) <;> (first | exact Nat.le_refl _ | (simp; done) | (simp; omega))

set_option maxHeartbeats 2000000 in
theorem specMemNew_yes (n : Nat) (w : World) (h : n ≤ 6) :
    Calls Tryd.prog 81 #[.int .i64 n] w fun e w' => ∃ a c, e = .returned (.slice a n c) ∧ OwnMem w' w.heap.size w'.heap.size a n (zeroM n) ∧ n ≤ c ∧ Below w.heap.size w w' := by
  obtain ⟨i1, hi1, hy0, hy1, hy2⟩ := info_parts infoS
  have hI := specIn n 0 6
  rw [show (decide (0 ≤ (n : Int)) && decide ((n : Int) ≤ 6)) = true by simp; omega] at hI
  go_enter Tryd.func81, Tryd.ntmps81
  go_wp2_with (fail)
  refine (hI _).mono ?_
  rintro e w2 ⟨rfl, rfl⟩
  go_wp2
  go_loopw [3, 4] (fun v i wr => ∃ k : Nat, ∃ vs, k ≤ n ∧ i = .int .i64 k ∧ Hid (wr.ownsRow w.heap.size 56 1 v k vs) ∧ Hid (PagesUp wr w.heap.size k (zeroM n) vs) ∧ Below w.heap.size w wr) (fun _ i _ => n - (intOf i).toNat)
  case atStart => exact ⟨0, [], Nat.zero_le _, rfl, World.ownsRow_made w #[] 0 (Nat.le_refl _) (by simp [maxLen]) rfl, ⟨rfl, fun _ => 0, fun _ => 0, fun i j h1 h2 => by omega, fun i hi => by omega⟩, (Below.refl _ _).alloc (Nat.le_refl _) _⟩
  case round =>
    obtain ⟨k, vs, hk, rfl, hownH, hPH, hB⟩ := hrel
    have hown := hownH.out
    have hP := hPH.out
    have sW := hB.size
    by_cases hkl : k < n
    · have hki : (k : Int) < (n : Int) := by omega
      have hg := zeroM_get hkl
      have B2 : Below wr.heap.size wr (wr.alloc (.cells (madeCells #[.int .i64 0] 4) 3)) := (Below.refl _ _).alloc (Nat.le_refl _) _
      have own2 : (wr.alloc (.cells (madeCells #[.int .i64 0] 4) 3)).ownsRow w.heap.size 3 1 (.slice (some ⟨wr.heap.size, 0, none⟩) 4 4) 4 (zv ((zeroM n).getD k [])) := by
        rw [hg]
        exact own_down (own_made wr _) sW
      have hown2 := (own_below hown B2).alloc (.cells #[.slice (some ⟨wr.heap.size, 0, none⟩) 4 4] 56)
      have HC := one_new (wr.alloc (.cells (madeCells #[.int .i64 0] 4) 3)) (.slice (some ⟨wr.heap.size, 0, none⟩) 4 4) 56
      rw [show (wr.alloc (.cells (madeCells #[.int .i64 0] 4) 3)).heap.size = wr.heap.size + 1 by simp] at HC
      go_wp2_with (first | (go_at_call 94; refine (specPage _).mono ?_; rintro e w' ⟨rfl, rfl⟩) | (at_builtin; refine wpList_append_own _ rfl (.tmp 15) (.tmp 17) 23 rfl w.heap.size 56 i1 (.slice none 0 0) 1 24 Tryd.underlying23 hi1 hy0 hy1 hy2 rfl (by decide) _ _ _ rfl hown2 ⟨wr.heap.size + 1, 0, none⟩ 1 1 [.slice (some ⟨wr.heap.size, 0, none⟩) 4 4] rfl rfl HC (by simp [Value.oneCell']) (by unfold maxLen; omega) (by omega) (by simp; omega) ?_; intro v3 w3 own3 grow3 nil3))
      have hB2 : Below w.heap.size w (wr.alloc (.cells (madeCells #[.int .i64 0] 4) 3)) := hB.trans (B2.mono sW)
      have hB3 : Below w.heap.size w w3 := Below.grown (hB2.alloc (by simp; omega) _) grow3 (by simp; omega) (fun j hj => (hown2.lt _ hj).1)
      have HO3 : Hid (w3.ownsRow w.heap.size 56 1 v3 (k + 1) (vs ++ [.slice (some ⟨wr.heap.size, 0, none⟩) 4 4])) := own3
      have HP3 : Hid (PagesUp w3 w.heap.size (k + 1) (zeroM n) (vs ++ [.slice (some ⟨wr.heap.size, 0, none⟩) 4 4])) := by
        have k1 : PagesUp ((wr.alloc (.cells (madeCells #[.int .i64 0] 4) 3)).alloc (.cells #[.slice (some ⟨wr.heap.size, 0, none⟩) 4 4] 56)) w.heap.size (k + 1) (zeroM n) (vs ++ [.slice (some ⟨wr.heap.size, 0, none⟩) 4 4]) :=
          PagesUp.snoc hP ((hP.kept (below_grown B2) (fun T e => by cases e)).kept (below_grown ((Below.refl _ _).alloc (Nat.le_refl _) _)) (fun T e => by cases e)) (Nat.le_refl _) (by rw [hg]; rfl) (own2.alloc _)
        exact k1.kept grow3 (own_row hown2)
      clear own3 grow3 nil3 hown2 HC own2 hown hP
      go_wp2
      go_roundw
      case rel => exact ⟨k + 1, _, by omega, by go_num, HO3, HP3, hB3⟩
      case measure => simp [intOf]; omega
    · have hkk : k = n := by omega
      subst hkk
      obtain ⟨a3, c3, hv3, hM, hc3⟩ := own_mem hP (by simp [zeroM]) hown
      subst hv3
      clear hown hP hownH hPH
      go_wp2
      go_ret
      exact ⟨a3, c3, rfl, hM, hc3, hB⟩
end Go.Proofs.YteelpikhijkmdaaDoor
