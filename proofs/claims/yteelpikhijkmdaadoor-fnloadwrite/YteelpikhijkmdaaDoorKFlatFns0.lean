/-
  A guest alone: what the program's own FlatRead, FlatWrite, FlatReadIn, FlatWriteIn do.
-/
import Derived.Test.YteelpikhijkmdaaDoorKFlatImpl0
namespace Go.Proofs.YteelpikhijkmdaaDoor
open Go.RowKit

def wrM (ms : List (List Int)) (p o z : Int) : List (List Int) := bif goodW ms p o z then putM ms p.toNat o.toNat z else ms
def wrG (ms : List (List Int)) (p o z : Int) : Int := bif goodW ms p o z then atM ms p.toNat o.toNat else -3

theorem wrM_len (ms : List (List Int)) (p o z : Int) : (wrM ms p o z).length = ms.length := by
  unfold wrM
  cases goodW ms p o z
  · rfl
  · exact putM_len _ _ _ _
theorem goodW_R {ms : List (List Int)} {p o z : Int} (h : goodW ms p o z = true) : goodR ms p o = true := by
  simp only [goodW, Bool.and_eq_true] at h
  exact h.1
theorem goodW_Z {ms : List (List Int)} {p o z : Int} (h : goodW ms p o z = true) : okZ z = true := by
  simp only [goodW, Bool.and_eq_true] at h
  exact h.2
theorem putM_lens {ms : List (List Int)} {P O : Nat} (z : Int) {i : Nat} (hP : P < ms.length) : ((putM ms P O z).getD i []).length = (ms.getD i []).length := by
  by_cases hi : i = P
  · subst hi
    rw [putM_at O z hP, List.length_set]
  · rw [putM_off O z hi]
theorem wrM_lens (ms : List (List Int)) (p o z : Int) (i : Nat) : ((wrM ms p o z).getD i []).length = (ms.getD i []).length := by
  unfold wrM
  cases h : goodW ms p o z
  · rfl
  · obtain ⟨P, O, rfl, rfl, hP, _⟩ := goodR_nat (goodW_R h)
    exact putM_lens z (by have := (tabB_ok (goodR_tab (goodW_R h))).2; simp; omega)

/-- A word as it lies. -/
theorem IsMem.at {w : World} {lo hi : Nat} {a : Option Addr} {len : Nat} {ms : List (List Int)} (h : IsMem w lo hi a len ms) {P O : Nat} (hP : P < len) (hO : O < (ms.getD P []).length) :
    ∃ b o b' o' c, a = some ⟨b, o, none⟩ ∧ b < hi ∧ b' < hi ∧ w.cell? ⟨b, o + P, none⟩ = some (.slice (some ⟨b', o', none⟩) (ms.getD P []).length c) ∧ w.cell? ⟨b', o' + O, none⟩ = some (.int .i64 (atM ms P O)) := by
  obtain ⟨_, hd⟩ := h
  rcases hd with h0 | ⟨b, o, rfl, _, hb, hc⟩
  · omega
  obtain ⟨a', l, c, q, hI⟩ := hc P hP
  obtain ⟨hl, hd⟩ := hI
  rcases hd with h0 | ⟨b', o', rfl, _, hb', hc'⟩
  · omega
  subst hl
  exact ⟨b, o, b', o', c, rfl, hb, hb', q, hc' O hO⟩

set_option maxHeartbeats 1000000 in
theorem implFlatWrite (lo hi : Nat) (a : Option Addr) (len cap : Nat) (ms : List (List Int)) (p o z : Int) (w : World) (hg : ErrT w) (h : IsMem w lo hi a len ms) (hh : hi ≤ w.heap.size) (hn : len ≤ 1048576) (hL : ∀ i, i < len → (ms.getD i []).length ≤ 1048576) :
    Calls Tryd.prog 8 #[.slice a len cap, .int .i64 p, .int .i64 o, .int .i64 z] w fun e w' => e = .returned (.tuple #[.slice (some ⟨w.heap.size, 0, none⟩) len len, .int .i64 (wrG ms p o z)]) ∧ OwnMem w' w.heap.size w'.heap.size (some ⟨w.heap.size, 0, none⟩) len (wrM ms p o z) ∧ Below w.heap.size w w' := by
  cases hr : goodW ms p o z
  · rw [show wrG ms p o z = -3 by rw [wrG, hr]; rfl, show wrM ms p o z = ms by rw [wrM, hr]; rfl]
    go_enter Tryd.func8, Tryd.ntmps8
    go_wp2_with (fail)
    refine (stays_any lo hi a len cap ms _ h hh hn hL).mono ?_
    rintro e w1 ⟨rfl, M1, B1⟩
    have hC := checkWrite_any lo hi a len cap ms p o z w1 (h.same (below_sameIn B1 hh)) (Nat.le_trans hh B1.size) hn
    rw [hr] at hC
    go_wp2_with (fail)
    refine hC.mono ?_
    rintro e w2 ⟨rfl, B2⟩
    have B12 := B1.trans (B2.mono B1.size)
    have hG := gotOf_any (-3) w2 (hg.on B12)
    unfold errV at hG ⊢
    go_wp2_with (fail)
    refine hG.mono ?_
    rintro e w3 ⟨rfl, B3⟩
    have B23 := B2.trans (B3.mono B2.size)
    have HM : Hid (OwnMem w3 w.heap.size w3.heap.size (some ⟨w.heap.size, 0, none⟩) len ms) := (M1.same (below_sameIn B23 (Nat.le_refl _))).wide (Nat.le_refl _) B23.size
    have B03 := B12.trans (B3.mono B12.size)
    clear M1 hC hG B1 B2 B3 B12 B23
    go_wp2
    refine bodyPost_ret (v := .tuple #[.slice (some ⟨w.heap.size, 0, none⟩) len len, .int .i64 (-3)]) (by simp [results, Tryd.results8, go_sem]) rfl ?_
    exact ⟨rfl, HM.out, B03⟩
  · obtain ⟨P, O, rfl, rfl, hP, hO⟩ := goodR_nat (goodW_R hr)
    obtain ⟨ho, h6⟩ := tabB_ok (goodR_tab (goodW_R hr))
    have hl := h.1
    obtain rfl : len = 6 := by omega
    rw [show wrG ms P O z = atM ms P O by rw [wrG, hr]; rfl, show wrM ms P O z = putM ms P O z by rw [wrM, hr]; rfl]
    have h4 := (okM_get ho (k := P) (by omega)).1
    have hPi : (P : Int) < 6 := by omega
    have hOi : (O : Int) < 4 := by omega
    go_enter Tryd.func8, Tryd.ntmps8
    go_wp2_with (fail)
    refine (stays_any lo hi a 6 cap ms _ h hh hn hL).mono ?_
    rintro e w1 ⟨rfl, M1, B1⟩
    have hC := checkWrite_any lo hi a 6 cap ms P O z w1 (h.same (below_sameIn B1 hh)) (Nat.le_trans hh B1.size) hn
    rw [hr] at hC
    go_wp2_with (fail)
    refine hC.mono ?_
    rintro e w2 ⟨rfl, B2⟩
    have B12 := B1.trans (B2.mono B1.size)
    obtain ⟨hlm, hd⟩ := (M1.same (below_sameIn B2 (Nat.le_refl _))).wide (Nat.le_refl w.heap.size) B2.size
    rcases hd with h0 | ⟨T, hT, hT1, hT2, hU⟩
    · omega
    obtain rfl : w.heap.size = T := by injection hT with hT; injection hT
    obtain ⟨pp, c, v, hp1, hp2, hpT, d0, d1, f1, hU'⟩ := hU.put (P := P) (O := O) hP (by omega) (by rw [h4]; exact hO) z
    rw [h4] at d0
    have hM2 := h.same (below_sameIn B12 hh)
    obtain ⟨b, of, b', o', c', rfl, hb, hb', q, q'⟩ := (hM2.same (w' := w2.setCell ⟨pp, O, none⟩ (.int .i64 z)) (fun b _ h2 => Below.heap_setCell _ _ _ _ (by simp; omega))).at (P := P) (O := O) hP (by omega)
    rw [h4] at q
    have HU : Hid (OwnUpto (w2.setCell ⟨pp, O, none⟩ (.int .i64 z)) w.heap.size w.heap.size w2.heap.size 6 (putM ms P O z)) := hU'
    have B4 := B12.setCell (p := ⟨pp, O, none⟩) hp1 (.int .i64 z)
    have hbpp : b ≠ pp := by omega
    have hbpp' : b' ≠ pp := by omega
    have k1 : w2.cell? ⟨b, of + P, none⟩ = some (.slice (some ⟨b', o', none⟩) 4 c') := by rw [← q]; exact (cell_off hbpp).symm
    have k2 : w2.cell? ⟨b', o' + O, none⟩ = some (.int .i64 (atM ms P O)) := by rw [← q']; exact (cell_off hbpp').symm
    clear hC hU hU' M1 hM2 B1 B2 B12 hT
    go_wp2_with (fail)
    go_quiet (fail)
    go_wp2
    refine bodyPost_ret (v := .tuple #[.slice (some ⟨w.heap.size, 0, none⟩) 6 6, .int .i64 (atM ms P O)]) (by simp [results, Tryd.results8, go_sem]) rfl ?_
    have B5 := below_drewN B4 nq
    have HU2 := HU.out.same (below_sameIn (below_drewN (Below.refl w2.heap.size (w2.setCell ⟨pp, O, none⟩ (.int .i64 z))) nq) (Nat.le_refl _)) (Nat.le_refl _) hT2
    refine ⟨rfl, ⟨by rw [putM_len]; exact hl, Or.inr ⟨w.heap.size, rfl, Nat.le_refl _, by simpa using hT2, ?_⟩⟩, B5⟩
    simpa using HU2

end Go.Proofs.YteelpikhijkmdaaDoor
