/-
  A guest alone: what the program's own FlatRead, FlatWrite, FlatReadIn, FlatWriteIn do.
-/
import Derived.Test.YteelpikhijkmdaaDoorFlatImpl0
namespace Go.Proofs.YteelpikhijkmdaaDoor
open Go.RowKit

/-- What is read; what memory is behind writing, and what is told of it; the same by the table. -/
def rdG (ms : List (List Int)) (p o : Int) : Int := bif goodR ms p o then atM ms p.toNat o.toNat else -3
def wrM (ms : List (List Int)) (p o z : Int) : List (List Int) := bif goodW ms p o z then putM ms p.toNat o.toNat z else ms
def wrG (ms : List (List Int)) (p o z : Int) : Int := bif goodW ms p o z then atM ms p.toNat o.toNat else -3
def riG (ms : List (List Int)) (p o : Int) : Int := bif goodR ms p o then (bif (entOf ms p).1 then atM ms (entOf ms p).2.1.toNat o.toNat else -1) else -3
def wiB (ms : List (List Int)) (p o z : Int) : Bool := goodW ms p o z && ((entOf ms p).1 && (entOf ms p).2.2)
def wiM (ms : List (List Int)) (p o z : Int) : List (List Int) := bif wiB ms p o z then putM ms (entOf ms p).2.1.toNat o.toNat z else ms
def wiG (ms : List (List Int)) (p o z : Int) : Int := bif goodW ms p o z then (bif (entOf ms p).1 then (bif (entOf ms p).2.2 then atM ms (entOf ms p).2.1.toNat o.toNat else -2) else -1) else -3

theorem wrM_len (ms : List (List Int)) (p o z : Int) : (wrM ms p o z).length = ms.length := by
  unfold wrM
  cases goodW ms p o z
  · rfl
  · exact putM_len _ _ _ _
theorem wiM_len (ms : List (List Int)) (p o z : Int) : (wiM ms p o z).length = ms.length := by
  unfold wiM
  cases wiB ms p o z
  · rfl
  · exact putM_len _ _ _ _
theorem goodW_R {ms : List (List Int)} {p o z : Int} (h : goodW ms p o z = true) : goodR ms p o = true := by
  simp only [goodW, Bool.and_eq_true] at h
  exact h.1
theorem goodW_Z {ms : List (List Int)} {p o z : Int} (h : goodW ms p o z = true) : okZ z = true := by
  simp only [goodW, Bool.and_eq_true] at h
  exact h.2
theorem putM_lens {ms : List (List Int)} {P O : Nat} (z : Int) {i : Nat} (hP : P < ms.length) : ((putM ms P O z).getD i []).length = (ms.getD i []).length := by
  by_cases hi : i = P
  · subst hi
    rw [putM_at O z hP, List.length_set]
  · rw [putM_off O z hi]
theorem wrM_lens (ms : List (List Int)) (p o z : Int) (i : Nat) : ((wrM ms p o z).getD i []).length = (ms.getD i []).length := by
  unfold wrM
  cases h : goodW ms p o z
  · rfl
  · obtain ⟨P, O, rfl, rfl, hP, _⟩ := goodR_nat (goodW_R h)
    exact putM_lens z (by have := (tabB_ok (goodR_tab (goodW_R h))).2; simp; omega)
theorem wiM_lens (ms : List (List Int)) (p o z : Int) (i : Nat) : ((wiM ms p o z).getD i []).length = (ms.getD i []).length := by
  unfold wiM
  cases h : wiB ms p o z
  · rfl
  · simp only [wiB, Bool.and_eq_true] at h
    have h6 := (tabB_ok (goodR_tab (goodW_R h.1))).2
    have hb := entOf_bd h.2.1
    exact putM_lens z (by omega)

/-- A word as it lies. -/
theorem IsMem.at {w : World} {lo hi : Nat} {a : Option Addr} {len : Nat} {ms : List (List Int)} (h : IsMem w lo hi a len ms) {P O : Nat} (hP : P < len) (hO : O < (ms.getD P []).length) :
    ∃ b o b' o' c, a = some ⟨b, o, none⟩ ∧ b < hi ∧ b' < hi ∧ w.cell? ⟨b, o + P, none⟩ = some (.slice (some ⟨b', o', none⟩) (ms.getD P []).length c) ∧ w.cell? ⟨b', o' + O, none⟩ = some (.int .i64 (atM ms P O)) := by
  obtain ⟨_, hd⟩ := h
  rcases hd with h0 | ⟨b, o, rfl, _, hb, hc⟩
  · omega
  obtain ⟨a', l, c, q, hI⟩ := hc P hP
  obtain ⟨hl, hd⟩ := hI
  rcases hd with h0 | ⟨b', o', rfl, _, hb', hc'⟩
  · omega
  subst hl
  exact ⟨b, o, b', o', c, rfl, hb, hb', q, hc' O hO⟩

set_option maxHeartbeats 1000000 in
theorem implFlatRead (lo hi : Nat) (a : Option Addr) (len cap : Nat) (ms : List (List Int)) (p o : Int) (w : World) (hg : ErrT w) (h : IsMem w lo hi a len ms) (hh : hi ≤ w.heap.size) (hn : len ≤ 1048576) :
    Calls Tryd.prog 15 #[.slice a len cap, .int .i64 p, .int .i64 o] w fun e w' => e = .returned (.int .i64 (rdG ms p o)) ∧ Below w.heap.size w w' := by
  have hC := checkRead_any lo hi a len cap ms p o w h hh hn
  cases hr : goodR ms p o
  · rw [show rdG ms p o = -3 by rw [rdG, hr]; rfl]
    rw [hr] at hC
    go_enter Tryd.func15, Tryd.ntmps15
    go_wp2_with (fail)
    refine hC.mono ?_
    rintro e w1 ⟨rfl, B1⟩
    have hG := gotOf_any (-3) w1 (hg.on B1)
    unfold errV at hG ⊢
    go_wp2_with (fail)
    refine hG.mono ?_
    rintro e w2 ⟨rfl, B2⟩
    go_wp2
    go_ret
    exact ⟨rfl, B1.trans (B2.mono B1.size)⟩
  · obtain ⟨P, O, rfl, rfl, hP, hO⟩ := goodR_nat hr
    obtain ⟨ho, h6⟩ := tabB_ok (goodR_tab hr)
    have hl := h.1
    obtain rfl : len = 6 := by omega
    rw [show rdG ms P O = atM ms P O by rw [rdG, hr]; rfl]
    have h4 := (okM_get ho (k := P) (by omega)).1
    rw [hr] at hC
    have hPi : (P : Int) < 6 := by omega
    have hOi : (O : Int) < 4 := by omega
    go_enter Tryd.func15, Tryd.ntmps15
    go_wp2_with (fail)
    refine hC.mono ?_
    rintro e w1 ⟨rfl, B1⟩
    obtain ⟨b, of, b', o', c, rfl, hb, hb', q, q'⟩ := (h.same (below_sameIn B1 hh)).at (P := P) (O := O) hP (by omega)
    rw [h4] at q
    clear hC
    go_wp2
    go_ret
    exact ⟨rfl, B1⟩

set_option maxHeartbeats 1000000 in
theorem implFlatWrite (lo hi : Nat) (a : Option Addr) (len cap : Nat) (ms : List (List Int)) (p o z : Int) (w : World) (hg : ErrT w) (h : IsMem w lo hi a len ms) (hh : hi ≤ w.heap.size) (hn : len ≤ 1048576) (hL : ∀ i, i < len → (ms.getD i []).length ≤ 1048576) :
    Calls Tryd.prog 8 #[.slice a len cap, .int .i64 p, .int .i64 o, .int .i64 z] w fun e w' => e = .returned (.tuple #[.slice (some ⟨w.heap.size, 0, none⟩) len len, .int .i64 (wrG ms p o z)]) ∧ OwnMem w' w.heap.size w'.heap.size (some ⟨w.heap.size, 0, none⟩) len (wrM ms p o z) ∧ Below w.heap.size w w' := by
  cases hr : goodW ms p o z
  · rw [show wrG ms p o z = -3 by rw [wrG, hr]; rfl, show wrM ms p o z = ms by rw [wrM, hr]; rfl]
    go_enter Tryd.func8, Tryd.ntmps8
    go_wp2_with (fail)
    refine (stays_any lo hi a len cap ms _ h hh hn hL).mono ?_
    rintro e w1 ⟨rfl, M1, B1⟩
    have hC := checkWrite_any lo hi a len cap ms p o z w1 (h.same (below_sameIn B1 hh)) (Nat.le_trans hh B1.size) hn
    rw [hr] at hC
    go_wp2_with (fail)
    refine hC.mono ?_
    rintro e w2 ⟨rfl, B2⟩
    have B12 := B1.trans (B2.mono B1.size)
    have hG := gotOf_any (-3) w2 (hg.on B12)
    unfold errV at hG ⊢
    go_wp2_with (fail)
    refine hG.mono ?_
    rintro e w3 ⟨rfl, B3⟩
    have B23 := B2.trans (B3.mono B2.size)
    have HM : Hid (OwnMem w3 w.heap.size w3.heap.size (some ⟨w.heap.size, 0, none⟩) len ms) := (M1.same (below_sameIn B23 (Nat.le_refl _))).wide (Nat.le_refl _) B23.size
    have B03 := B12.trans (B3.mono B12.size)
    clear M1 hC hG B1 B2 B3 B12 B23
    go_wp2
    refine bodyPost_ret (v := .tuple #[.slice (some ⟨w.heap.size, 0, none⟩) len len, .int .i64 (-3)]) (by simp [results, Tryd.results8, go_sem]) rfl ?_
    exact ⟨rfl, HM.out, B03⟩
  · obtain ⟨P, O, rfl, rfl, hP, hO⟩ := goodR_nat (goodW_R hr)
    obtain ⟨ho, h6⟩ := tabB_ok (goodR_tab (goodW_R hr))
    have hl := h.1
    obtain rfl : len = 6 := by omega
    rw [show wrG ms P O z = atM ms P O by rw [wrG, hr]; rfl, show wrM ms P O z = putM ms P O z by rw [wrM, hr]; rfl]
    have h4 := (okM_get ho (k := P) (by omega)).1
    have hPi : (P : Int) < 6 := by omega
    have hOi : (O : Int) < 4 := by omega
    go_enter Tryd.func8, Tryd.ntmps8
    go_wp2_with (fail)
    refine (stays_any lo hi a 6 cap ms _ h hh hn hL).mono ?_
    rintro e w1 ⟨rfl, M1, B1⟩
    have hC := checkWrite_any lo hi a 6 cap ms P O z w1 (h.same (below_sameIn B1 hh)) (Nat.le_trans hh B1.size) hn
    rw [hr] at hC
    go_wp2_with (fail)
    refine hC.mono ?_
    rintro e w2 ⟨rfl, B2⟩
    have B12 := B1.trans (B2.mono B1.size)
    obtain ⟨hlm, hd⟩ := (M1.same (below_sameIn B2 (Nat.le_refl _))).wide (Nat.le_refl w.heap.size) B2.size
    rcases hd with h0 | ⟨T, hT, hT1, hT2, hU⟩
    · omega
    obtain rfl : w.heap.size = T := by injection hT with hT; injection hT
    obtain ⟨pp, c, v, hp1, hp2, hpT, d0, d1, f1, hU'⟩ := hU.put (P := P) (O := O) hP (by omega) (by rw [h4]; exact hO) z
    rw [h4] at d0
    have hM2 := h.same (below_sameIn B12 hh)
    obtain ⟨b, of, b', o', c', rfl, hb, hb', q, q'⟩ := (hM2.same (w' := w2.setCell ⟨pp, O, none⟩ (.int .i64 z)) (fun b _ h2 => Below.heap_setCell _ _ _ _ (by simp; omega))).at (P := P) (O := O) hP (by omega)
    rw [h4] at q
    have HU : Hid (OwnUpto (w2.setCell ⟨pp, O, none⟩ (.int .i64 z)) w.heap.size w.heap.size w2.heap.size 6 (putM ms P O z)) := hU'
    have B4 := B12.setCell (p := ⟨pp, O, none⟩) hp1 (.int .i64 z)
    have hbpp : b ≠ pp := by omega
    have hbpp' : b' ≠ pp := by omega
    have k1 : w2.cell? ⟨b, of + P, none⟩ = some (.slice (some ⟨b', o', none⟩) 4 c') := by rw [← q]; exact (cell_off hbpp).symm
    have k2 : w2.cell? ⟨b', o' + O, none⟩ = some (.int .i64 (atM ms P O)) := by rw [← q']; exact (cell_off hbpp').symm
    clear hC hU hU' M1 hM2 B1 B2 B12 hT
    go_wp2_with (fail)
    go_quiet (fail)
    go_wp2
    refine bodyPost_ret (v := .tuple #[.slice (some ⟨w.heap.size, 0, none⟩) 6 6, .int .i64 (atM ms P O)]) (by simp [results, Tryd.results8, go_sem]) rfl ?_
    have B5 := below_drewN B4 nq
    have HU2 := HU.out.same (below_sameIn (below_drewN (Below.refl w2.heap.size (w2.setCell ⟨pp, O, none⟩ (.int .i64 z))) nq) (Nat.le_refl _)) (Nat.le_refl _) hT2
    refine ⟨rfl, ⟨by rw [putM_len]; exact hl, Or.inr ⟨w.heap.size, rfl, Nat.le_refl _, by simpa using hT2, ?_⟩⟩, B5⟩
    simpa using HU2

/-- What comes of looking for the page to be read, or written, in the place of one of the guest's own guest. -/
def ledR (ms : List (List Int)) (p o : Int) : Value := bif goodR ms p o then (bif (entOf ms p).1 then .tuple #[.int .i64 (entOf ms p).2.1, .nilIface] else .tuple #[.int .i64 0, errV (-1)]) else .tuple #[.int .i64 0, errV (-3)]
def ledW (ms : List (List Int)) (p o z : Int) : Value := bif goodW ms p o z then (bif (entOf ms p).1 then (bif (entOf ms p).2.2 then .tuple #[.int .i64 (entOf ms p).2.1, .nilIface] else .tuple #[.int .i64 0, errV (-2)]) else .tuple #[.int .i64 0, errV (-1)]) else .tuple #[.int .i64 0, errV (-3)]

set_option maxHeartbeats 1000000 in
theorem readLed_any (lo hi : Nat) (a : Option Addr) (len cap : Nat) (ms : List (List Int)) (p o : Int) (w : World) (h : IsMem w lo hi a len ms) (hh : hi ≤ w.heap.size) (hn : len ≤ 1048576) :
    Calls Tryd.prog 48 #[.slice a len cap, .int .i64 p, .int .i64 o] w fun e w' => e = .returned (ledR ms p o) ∧ Below w.heap.size w w' := by
  have hC := checkRead_any lo hi a len cap ms p o w h hh hn
  cases hr : goodR ms p o
  · rw [show ledR ms p o = .tuple #[.int .i64 0, errV (-3)] by rw [ledR, hr]; rfl]
    rw [hr] at hC
    unfold errV at hC ⊢
    go_enter Tryd.func48, Tryd.ntmps48
    go_wp2_with (fail)
    refine hC.mono ?_
    rintro e w1 ⟨rfl, B1⟩
    go_wp2
    refine bodyPost_ret (v := .tuple #[.int .i64 0, .iface 100 (.agg #[.int .i64 (-3)])]) (by simp [results, Tryd.results48, go_sem]) rfl ?_
    exact ⟨rfl, B1⟩
  · obtain ⟨P, O, rfl, rfl, hP, hO⟩ := goodR_nat hr
    obtain ⟨ho, h6⟩ := tabB_ok (goodR_tab hr)
    have hl := h.1
    obtain rfl : len = 6 := by omega
    have hLd : ledR ms P O = bif (entOf ms P).1 then .tuple #[.int .i64 (entOf ms P).2.1, .nilIface] else .tuple #[.int .i64 0, errV (-1)] := by rw [ledR, hr]; rfl
    rw [hr] at hC
    have hEn := fun W h hh => entryIn_any lo hi a cap ms P W h hh ho hP
    generalize entOf ms P = en at hEn hLd
    obtain ⟨eh, ep, ew⟩ := en
    rw [hLd]
    unfold entV errV at hEn
    unfold errV
    cases eh
    · go_enter Tryd.func48, Tryd.ntmps48
      go_wp2_with (fail)
      refine hC.mono ?_
      rintro e w1 ⟨rfl, B1⟩
      go_wp2_with (fail)
      refine (hEn _ (h.same (below_sameIn B1 hh)) (Nat.le_trans hh B1.size)).mono ?_
      rintro e w2 ⟨rfl, B2⟩
      have B12 := B1.trans (B2.mono B1.size)
      have s2 := B12.size
      clear B1 B2
      go_wp2
      refine bodyPost_ret (v := .tuple #[.int .i64 0, .iface 100 (.agg #[.int .i64 (-1)])]) (by simp [results, Tryd.results48, go_sem]) rfl ?_
      refine ⟨rfl, ?_⟩
      (repeat' (with_reducible (first | exact Below.refl _ _ | apply Below.setCell | apply Below.alloc | apply below_drewN | apply Below.drew | refine Below.trans ?_ (Below.mono (by assumption) ?_)))) <;> (first | exact Nat.le_refl _ | (simp; done) | (simp; omega) | (simp at *; omega))
    · go_enter Tryd.func48, Tryd.ntmps48
      go_wp2_with (fail)
      refine hC.mono ?_
      rintro e w1 ⟨rfl, B1⟩
      go_wp2_with (fail)
      refine (hEn _ (h.same (below_sameIn B1 hh)) (Nat.le_trans hh B1.size)).mono ?_
      rintro e w2 ⟨rfl, B2⟩
      have B12 := B1.trans (B2.mono B1.size)
      have s2 := B12.size
      clear B1 B2
      go_wp2
      refine bodyPost_ret (v := .tuple #[.int .i64 ep, .nilIface]) (by simp [results, Tryd.results48, go_sem]) rfl ?_
      refine ⟨rfl, ?_⟩
      (repeat' (with_reducible (first | exact Below.refl _ _ | apply Below.setCell | apply Below.alloc | apply below_drewN | apply Below.drew | refine Below.trans ?_ (Below.mono (by assumption) ?_)))) <;> (first | exact Nat.le_refl _ | (simp; done) | (simp; omega) | (simp at *; omega))

set_option maxHeartbeats 1000000 in
theorem writeLed_any (lo hi : Nat) (a : Option Addr) (len cap : Nat) (ms : List (List Int)) (p o z : Int) (w : World) (h : IsMem w lo hi a len ms) (hh : hi ≤ w.heap.size) (hn : len ≤ 1048576) :
    Calls Tryd.prog 49 #[.slice a len cap, .int .i64 p, .int .i64 o, .int .i64 z] w fun e w' => e = .returned (ledW ms p o z) ∧ Below w.heap.size w w' := by
  have hC := checkWrite_any lo hi a len cap ms p o z w h hh hn
  cases hr : goodW ms p o z
  · rw [show ledW ms p o z = .tuple #[.int .i64 0, errV (-3)] by rw [ledW, hr]; rfl]
    rw [hr] at hC
    unfold errV at hC ⊢
    go_enter Tryd.func49, Tryd.ntmps49
    go_wp2_with (fail)
    refine hC.mono ?_
    rintro e w1 ⟨rfl, B1⟩
    go_wp2
    refine bodyPost_ret (v := .tuple #[.int .i64 0, .iface 100 (.agg #[.int .i64 (-3)])]) (by simp [results, Tryd.results49, go_sem]) rfl ?_
    exact ⟨rfl, B1⟩
  · obtain ⟨P, O, rfl, rfl, hP, hO⟩ := goodR_nat (goodW_R hr)
    obtain ⟨ho, h6⟩ := tabB_ok (goodR_tab (goodW_R hr))
    have hl := h.1
    obtain rfl : len = 6 := by omega
    have hLd : ledW ms P O z = bif (entOf ms P).1 then (bif (entOf ms P).2.2 then .tuple #[.int .i64 (entOf ms P).2.1, .nilIface] else .tuple #[.int .i64 0, errV (-2)]) else .tuple #[.int .i64 0, errV (-1)] := by rw [ledW, hr]; rfl
    rw [hr] at hC
    have hEn := fun W h hh => entryIn_any lo hi a cap ms P W h hh ho hP
    generalize entOf ms P = en at hEn hLd
    obtain ⟨eh, ep, ew⟩ := en
    rw [hLd]
    unfold entV errV at hEn
    unfold errV
    cases eh
    · go_enter Tryd.func49, Tryd.ntmps49
      go_wp2_with (fail)
      refine hC.mono ?_
      rintro e w1 ⟨rfl, B1⟩
      go_wp2_with (fail)
      refine (hEn _ (h.same (below_sameIn B1 hh)) (Nat.le_trans hh B1.size)).mono ?_
      rintro e w2 ⟨rfl, B2⟩
      have B12 := B1.trans (B2.mono B1.size)
      have s2 := B12.size
      clear B1 B2
      go_wp2
      refine bodyPost_ret (v := .tuple #[.int .i64 0, .iface 100 (.agg #[.int .i64 (-1)])]) (by simp [results, Tryd.results49, go_sem]) rfl ?_
      refine ⟨rfl, ?_⟩
      (repeat' (with_reducible (first | exact Below.refl _ _ | apply Below.setCell | apply Below.alloc | apply below_drewN | apply Below.drew | refine Below.trans ?_ (Below.mono (by assumption) ?_)))) <;> (first | exact Nat.le_refl _ | (simp; done) | (simp; omega) | (simp at *; omega))
    · cases ew
      · go_enter Tryd.func49, Tryd.ntmps49
        go_wp2_with (fail)
        refine hC.mono ?_
        rintro e w1 ⟨rfl, B1⟩
        go_wp2_with (fail)
        refine (hEn _ (h.same (below_sameIn B1 hh)) (Nat.le_trans hh B1.size)).mono ?_
        rintro e w2 ⟨rfl, B2⟩
        have B12 := B1.trans (B2.mono B1.size)
        have s2 := B12.size
        clear B1 B2
        go_wp2
        refine bodyPost_ret (v := .tuple #[.int .i64 0, .iface 100 (.agg #[.int .i64 (-2)])]) (by simp [results, Tryd.results49, go_sem]) rfl ?_
        refine ⟨rfl, ?_⟩
        (repeat' (with_reducible (first | exact Below.refl _ _ | apply Below.setCell | apply Below.alloc | apply below_drewN | apply Below.drew | refine Below.trans ?_ (Below.mono (by assumption) ?_)))) <;> (first | exact Nat.le_refl _ | (simp; done) | (simp; omega) | (simp at *; omega))
      · go_enter Tryd.func49, Tryd.ntmps49
        go_wp2_with (fail)
        refine hC.mono ?_
        rintro e w1 ⟨rfl, B1⟩
        go_wp2_with (fail)
        refine (hEn _ (h.same (below_sameIn B1 hh)) (Nat.le_trans hh B1.size)).mono ?_
        rintro e w2 ⟨rfl, B2⟩
        have B12 := B1.trans (B2.mono B1.size)
        have s2 := B12.size
        clear B1 B2
        go_wp2
        refine bodyPost_ret (v := .tuple #[.int .i64 ep, .nilIface]) (by simp [results, Tryd.results49, go_sem]) rfl ?_
        refine ⟨rfl, ?_⟩
        (repeat' (with_reducible (first | exact Below.refl _ _ | apply Below.setCell | apply Below.alloc | apply below_drewN | apply Below.drew | refine Below.trans ?_ (Below.mono (by assumption) ?_)))) <;> (first | exact Nat.le_refl _ | (simp; done) | (simp; omega) | (simp at *; omega))

theorem goodR_led {ms : List (List Int)} {P O : Nat} (h : goodR ms P O = true) (he : (entOf ms P).1 = true) : ∃ Q : Nat, (entOf ms P).2.1 = Q ∧ 2 ≤ Q ∧ Q ≤ 5 ∧ goodR ms Q O = true := by
  have hb := entOf_bd he
  obtain ⟨P', O', e1, e2, hP, hO⟩ := goodR_nat h
  exact ⟨(entOf ms P).2.1.toNat, by omega, by omega, by omega, goodR_of (goodR_tab h) (by omega) (by omega)⟩

set_option maxHeartbeats 1000000 in
theorem implFlatReadIn (lo hi : Nat) (a : Option Addr) (len cap : Nat) (ms : List (List Int)) (p o : Int) (w : World) (hg : ErrT w) (h : IsMem w lo hi a len ms) (hh : hi ≤ w.heap.size) (hn : len ≤ 1048576) :
    Calls Tryd.prog 16 #[.slice a len cap, .int .i64 p, .int .i64 o] w fun e w' => e = .returned (.int .i64 (riG ms p o)) ∧ Below w.heap.size w w' := by
  have hC := readLed_any lo hi a len cap ms p o w h hh hn
  cases hr : goodR ms p o
  · rw [show riG ms p o = -3 by rw [riG, hr]; rfl]
    rw [show ledR ms p o = .tuple #[.int .i64 0, errV (-3)] by rw [ledR, hr]; rfl] at hC
    unfold errV at hC
    go_enter Tryd.func16, Tryd.ntmps16
    go_wp2_with (fail)
    refine hC.mono ?_
    rintro e w1 ⟨rfl, B1⟩
    have hG := gotOf_any (-3) w1 (hg.on B1)
    unfold errV at hG
    go_wp2_with (fail)
    refine hG.mono ?_
    rintro e w2 ⟨rfl, B2⟩
    go_wp2
    go_ret
    exact ⟨rfl, B1.trans (B2.mono B1.size)⟩
  · cases he : (entOf ms p).1
    · rw [show riG ms p o = -1 by rw [riG, hr, he]; rfl]
      rw [show ledR ms p o = .tuple #[.int .i64 0, errV (-1)] by rw [ledR, hr, he]; rfl] at hC
      unfold errV at hC
      go_enter Tryd.func16, Tryd.ntmps16
      go_wp2_with (fail)
      refine hC.mono ?_
      rintro e w1 ⟨rfl, B1⟩
      have hG := gotOf_any (-1) w1 (hg.on B1)
      unfold errV at hG
      go_wp2_with (fail)
      refine hG.mono ?_
      rintro e w2 ⟨rfl, B2⟩
      go_wp2
      go_ret
      exact ⟨rfl, B1.trans (B2.mono B1.size)⟩
    · obtain ⟨P, O, rfl, rfl, hP, hO⟩ := goodR_nat hr
      obtain ⟨Q, hQ, hQ2, hQ5, hrQ⟩ := goodR_led hr he
      rw [show riG ms P O = rdG ms Q O by rw [riG, hr, he, rdG, hrQ, hQ]; rfl]
      rw [show ledR ms P O = .tuple #[.int .i64 Q, .nilIface] by rw [ledR, hr, he, hQ]; rfl] at hC
      go_enter Tryd.func16, Tryd.ntmps16
      go_wp2_with (fail)
      refine hC.mono ?_
      rintro e w1 ⟨rfl, B1⟩
      go_wp2_with (fail)
      refine (implFlatRead lo hi a len cap ms Q O _ (hg.on B1) (h.same (below_sameIn B1 hh)) (Nat.le_trans hh B1.size) hn).mono ?_
      rintro e w2 ⟨rfl, B2⟩
      go_wp2
      go_ret
      exact ⟨rfl, B1.trans (B2.mono B1.size)⟩

theorem OwnMem.down {lo lo' : Nat} {w : World} {a : Option Addr} {len : Nat} {ms : List (List Int)} (h : OwnMem w lo w.heap.size a len ms) (h1 : lo' ≤ lo) : OwnMem w lo' w.heap.size a len ms := h.wide h1 (Nat.le_refl _)

set_option maxHeartbeats 1000000 in
theorem flatWriteIn_no (lo hi : Nat) (a : Option Addr) (len cap : Nat) (ms : List (List Int)) (p o z g : Int) (w : World) (hg : ErrT w) (h : IsMem w lo hi a len ms) (hh : hi ≤ w.heap.size) (hn : len ≤ 1048576) (hL : ∀ i, i < len → (ms.getD i []).length ≤ 1048576) (hx : ledW ms p o z = .tuple #[.int .i64 0, errV g]) :
    Calls Tryd.prog 17 #[.slice a len cap, .int .i64 p, .int .i64 o, .int .i64 z] w fun e w' => ∃ T, e = .returned (.tuple #[.slice (some ⟨T, 0, none⟩) len len, .int .i64 g]) ∧ OwnMem w' w.heap.size w'.heap.size (some ⟨T, 0, none⟩) len ms ∧ Below w.heap.size w w' := by
  have hC := writeLed_any lo hi a len cap ms p o z w h hh hn
  rw [hx] at hC
  unfold errV at hC
  go_enter Tryd.func17, Tryd.ntmps17
  go_wp2_with (fail)
  refine hC.mono ?_
  rintro e w1 ⟨rfl, B1⟩
  go_wp2_with (fail)
  refine (stays_any lo hi a len cap ms _ (h.same (below_sameIn B1 hh)) (Nat.le_trans hh B1.size) hn hL).mono ?_
  rintro e w2 ⟨rfl, M2, B2⟩
  have B12 := B1.trans (B2.mono B1.size)
  have hG := gotOf_any g w2 (hg.on B12)
  unfold errV at hG
  go_wp2_with (fail)
  refine hG.mono ?_
  rintro e w3 ⟨rfl, B3⟩
  have HM : Hid (OwnMem w3 w.heap.size w3.heap.size (some ⟨w1.heap.size, 0, none⟩) len ms) := ((M2.same (below_sameIn B3 (Nat.le_refl _))).wide B1.size B3.size)
  have B03 := B12.trans (B3.mono B12.size)
  clear M2 hC hG B1 B2 B3 B12
  go_wp2
  refine bodyPost_ret (v := .tuple #[.slice (some ⟨w1.heap.size, 0, none⟩) len len, .int .i64 g]) (by simp [results, Tryd.results17, go_sem]) rfl ?_
  exact ⟨_, rfl, HM.out, B03⟩

set_option maxHeartbeats 1000000 in
theorem implFlatWriteIn (lo hi : Nat) (a : Option Addr) (len cap : Nat) (ms : List (List Int)) (p o z : Int) (w : World) (hg : ErrT w) (h : IsMem w lo hi a len ms) (hh : hi ≤ w.heap.size) (hn : len ≤ 1048576) (hL : ∀ i, i < len → (ms.getD i []).length ≤ 1048576) :
    Calls Tryd.prog 17 #[.slice a len cap, .int .i64 p, .int .i64 o, .int .i64 z] w fun e w' => ∃ T, e = .returned (.tuple #[.slice (some ⟨T, 0, none⟩) len len, .int .i64 (wiG ms p o z)]) ∧ OwnMem w' w.heap.size w'.heap.size (some ⟨T, 0, none⟩) len (wiM ms p o z) ∧ Below w.heap.size w w' := by
  cases hr : goodW ms p o z
  · rw [show wiG ms p o z = -3 by rw [wiG, hr]; rfl, show wiM ms p o z = ms by rw [wiM, wiB, hr]; rfl]
    exact flatWriteIn_no lo hi a len cap ms p o z _ w hg h hh hn hL (by rw [ledW, hr]; rfl)
  · cases he : (entOf ms p).1
    · rw [show wiG ms p o z = -1 by rw [wiG, hr, he]; rfl, show wiM ms p o z = ms by rw [wiM, wiB, hr, he]; rfl]
      exact flatWriteIn_no lo hi a len cap ms p o z _ w hg h hh hn hL (by rw [ledW, hr, he]; rfl)
    · cases hw : (entOf ms p).2.2
      · rw [show wiG ms p o z = -2 by rw [wiG, hr, he, hw]; rfl, show wiM ms p o z = ms by rw [wiM, wiB, hr, he, hw]; rfl]
        exact flatWriteIn_no lo hi a len cap ms p o z _ w hg h hh hn hL (by rw [ledW, hr, he, hw]; rfl)
      · obtain ⟨P, O, rfl, rfl, hP, hO⟩ := goodR_nat (goodW_R hr)
        obtain ⟨Q, hQ, hQ2, hQ5, hrQ⟩ := goodR_led (goodW_R hr) he
        have hwQ : goodW ms Q O z = true := by rw [goodW, hrQ, goodW_Z hr]; rfl
        rw [show wiG ms P O z = wrG ms Q O z by rw [wiG, hr, he, hw, wrG, hwQ, hQ]; rfl, show wiM ms P O z = wrM ms Q O z by rw [wiM, wiB, hr, he, hw, wrM, hwQ, hQ]; rfl]
        have hC := writeLed_any lo hi a len cap ms P O z w h hh hn
        rw [show ledW ms P O z = .tuple #[.int .i64 Q, .nilIface] by rw [ledW, hr, he, hw, hQ]; rfl] at hC
        go_enter Tryd.func17, Tryd.ntmps17
        go_wp2_with (fail)
        refine hC.mono ?_
        rintro e w1 ⟨rfl, B1⟩
        go_wp2_with (fail)
        refine (implFlatWrite lo hi a len cap ms Q O z _ (hg.on B1) (h.same (below_sameIn B1 hh)) (Nat.le_trans hh B1.size) hn hL).mono ?_
        rintro e w2 ⟨rfl, M2, B2⟩
        have HM : Hid (OwnMem w2 w.heap.size w2.heap.size (some ⟨w1.heap.size, 0, none⟩) len (wrM ms Q O z)) := M2.wide B1.size (Nat.le_refl _)
        have B12 := B1.trans (B2.mono B1.size)
        clear M2 hC B1 B2
        go_wp2
        refine bodyPost_ret (v := .tuple #[.slice (some ⟨w1.heap.size, 0, none⟩) len len, .int .i64 (wrG ms Q O z)]) (by simp [results, Tryd.results17, go_sem]) rfl ?_
        exact ⟨_, rfl, HM.out, B12⟩
end Go.Proofs.YteelpikhijkmdaaDoor
