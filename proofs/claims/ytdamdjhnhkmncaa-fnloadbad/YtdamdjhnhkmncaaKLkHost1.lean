/-
  What the laws' own looking at two hosts does where both hold the same.
-/
import Derived.Test.YtdamdjhnhkmncaaKLkHost0
import Derived.Deep.RegionHeld3
set_option linter.unusedSimpArgs false
namespace Go.Proofs.Ytdamdjhnhkmncaa
open Go.RowKit

set_option maxRecDepth 100000 in
set_option maxHeartbeats 8000000 in
theorem lkHost_same (lo hi lo' hi' : Nat) (vf vg vf' vg' : Value) (h : Hst) (w : World) (k : HostIn w lo hi vf vg h) (k' : HostIn w lo' hi' vf' vg' h) (hh : hi ≤ w.heap.size) (hh' : hi' ≤ w.heap.size) (hS : SmallH h) (z : Int) :
    Calls Try.prog 15 #[.agg #[vf, vg, .int .i64 z], .agg #[vf', vg', .int .i64 z]] w fun e w' => e = .returned (.bool true) ∧ Below w.heap.size w w' := by
  obtain ⟨⟨a1, c1, rfl, h1⟩, a2, c2, rfl, h2⟩ := k
  obtain ⟨⟨b1, d1, rfl, g1⟩, b2, d2, rfl, g2⟩ := k'
  obtain ⟨S1, S2, S3, S4⟩ := hS
  obtain ⟨W, hW⟩ : ∃ W, W = (w.alloc (.cells #[.slice a1 h.frames.length c1, .slice a2 h.guests.length c2, .int .i64 z] 27)).alloc (.cells #[.slice b1 h.frames.length d1, .slice b2 h.guests.length d2, .int .i64 z] 27) := ⟨_, rfl⟩
  have B0 : Below w.heap.size w W := by rw [hW]; exact ((Below.refl _ _).alloc (Nat.le_refl _) _).alloc (by simp) _
  have hsW : W.heap.size = w.heap.size + 1 + 1 := by rw [hW]; simp
  have k1 : W.cell? ⟨w.heap.size, 1, none⟩ = some (.slice a2 h.guests.length c2) := by rw [hW]; simp
  have k2 : W.cell? ⟨w.heap.size, 2, none⟩ = some (.int .i64 z) := by rw [hW]; simp
  have l1 : W.cell? ⟨w.heap.size + 1, 1, none⟩ = some (.slice b2 h.guests.length d2) := by rw [hW]; simp
  have l2 : W.cell? ⟨w.heap.size + 1, 2, none⟩ = some (.int .i64 z) := by rw [hW]; simp
  have hlk := lkMem_same lo hi lo' hi' a1 b1 h.frames.length c1 d1 h.frames W (h1.same (below_sameIn B0 hh)) (g1.same (below_sameIn B0 hh')) (by omega) (by omega) S1 S2
  generalize h.frames.length = lf at h1 g1 S1 S2 hW hlk
  generalize h.guests.length = lg at k1 l1 h2 g2 S3 S4 hW
  have hx1 : w.heap.size < W.heap.size := by omega
  have hx2 : w.heap.size + 1 < W.heap.size := by omega
  clear h1 g1
  go_enter Try.func15, Try.ntmps15
  go_wp2_with (fail)
  rw [← hW]
  clear hW
  refine hlk.mono ?_
  rintro e w1 ⟨rfl, B1⟩
  have s1 := B1.size
  have k1 := (B1.cell (p := ⟨w.heap.size, 1, none⟩) (by show w.heap.size < _; omega)).trans k1
  have k2 := (B1.cell (p := ⟨w.heap.size, 2, none⟩) (by show w.heap.size < _; omega)).trans k2
  have l1 := (B1.cell (p := ⟨w.heap.size + 1, 1, none⟩) (by show w.heap.size + 1 < _; omega)).trans l1
  have l2 := (B1.cell (p := ⟨w.heap.size + 1, 2, none⟩) (by show w.heap.size + 1 < _; omega)).trans l2
  have HB1 : Hid (Below w.heap.size w w1) := B0.trans (B1.mono (by omega))
  clear hlk B1 B0
  go_wp2
  go_loopw [5] (fun i wr => ∃ k : Nat, k ≤ lg ∧ i = .int .i64 k ∧ Hid (Below w1.heap.size w1 wr)) (fun i _ => lg - (intOf i).toNat)
  case atStart => exact ⟨0, Nat.zero_le _, rfl, Below.refl _ _⟩
  case round =>
    obtain ⟨k, hk, rfl, hB⟩ := hrel
    have sB := hB.out.size
    have k1 := (hB.out.cell (p := ⟨w.heap.size, 1, none⟩) (show w.heap.size < w1.heap.size by omega)).trans k1
    have l1 := (hB.out.cell (p := ⟨w.heap.size + 1, 1, none⟩) (show w.heap.size + 1 < w1.heap.size by omega)).trans l1
    have hBw : Below w.heap.size w wr := HB1.out.trans (hB.out.mono (by omega))
    by_cases hkl : k < lg
    · have hki : (k : Int) < (lg : Int) := by omega
      have h2 := h2.same (below_sameIn hBw hh)
      have g2 := g2.same (below_sameIn hBw hh')
      have hSk := S4 k hkl
      obtain ⟨_, hd⟩ := h2
      obtain ⟨_, hd'⟩ := g2
      rcases hd with h0 | ⟨b, o, rfl, _, hb2, hc⟩
      · omega
      rcases hd' with h0 | ⟨b', o', rfl, _, hb2', hc'⟩
      · omega
      obtain ⟨vm, vd, vs, q0, q1, q2, hG⟩ := hc k hkl
      obtain ⟨vm', vd', vs', q0', q1', q2', hG'⟩ := hc' k hkl
      obtain ⟨g, hg⟩ : ∃ g, g = h.guests.getD k noG := ⟨_, rfl⟩
      rw [← hg] at hG hG' hSk
      have hGs := hG
      obtain ⟨⟨e1, f1, rfl, _⟩, ⟨e2, f2, rfl, _⟩, e3, f3, rfl, _⟩ := hGs
      have hGs' := hG'
      obtain ⟨⟨e1', f1', rfl, _⟩, ⟨e2', f2', rfl, _⟩, e3', f3', rfl, _⟩ := hGs'
      obtain ⟨S, hSE⟩ : ∃ S : World → Prop, S = fun W' => Below wr.heap.size wr W' := ⟨_, rfl⟩
      have hC1 : ∀ W', S W' → Calls Try.prog 49 #[.agg #[.slice e1 g.maps.length f1, .slice e2 g.disk.length f2, .slice e3 g.shades.length f3], .agg #[.slice e1' g.maps.length f1', .slice e2' g.disk.length f2', .slice e3' g.shades.length f3']] W' fun e w' => e = .returned (.bool true) ∧ S w' := fun W' B => by
        rw [hSE] at B ⊢
        have sB' := B.size
        refine (lkGuest_same lo hi lo' hi' _ _ _ _ _ _ g W' (hG.same (below_sameIn B (by omega))) (hG'.same (below_sameIn B (by omega))) (by omega) (by omega) hSk).mono ?_
        rintro e w' ⟨rfl, B'⟩
        exact ⟨rfl, B.trans (B'.mono sB')⟩
      clear hG hG' hc hc' hg
      generalize g.maps.length = lm at *
      generalize g.disk.length = ld at *
      generalize g.shades.length = ls at *
      have hcells : ∀ W', S W' → W'.cell? ⟨w.heap.size, 1, none⟩ = some (.slice (some ⟨b, o, none⟩) lg c2) ∧ W'.cell? ⟨w.heap.size + 1, 1, none⟩ = some (.slice (some ⟨b', o', none⟩) lg d2) ∧ W'.cell? ⟨b, o + k * 3, none⟩ = some (.slice e1 lm f1) ∧ W'.cell? ⟨b, o + k * 3 + 1, none⟩ = some (.slice e2 ld f2) ∧ W'.cell? ⟨b, o + k * 3 + 2, none⟩ = some (.slice e3 ls f3) ∧ W'.cell? ⟨b', o' + k * 3, none⟩ = some (.slice e1' lm f1') ∧ W'.cell? ⟨b', o' + k * 3 + 1, none⟩ = some (.slice e2' ld f2') ∧ W'.cell? ⟨b', o' + k * 3 + 2, none⟩ = some (.slice e3' ls f3') := fun W' B => by
        rw [hSE] at B
        exact ⟨(B.cell (p := ⟨w.heap.size, 1, none⟩) (show w.heap.size < wr.heap.size by omega)).trans k1, (B.cell (p := ⟨w.heap.size + 1, 1, none⟩) (show w.heap.size + 1 < wr.heap.size by omega)).trans l1, (B.cell (p := ⟨b, o + k * 3, none⟩) (show b < wr.heap.size by omega)).trans q0, (B.cell (p := ⟨b, o + k * 3 + 1, none⟩) (show b < wr.heap.size by omega)).trans q1, (B.cell (p := ⟨b, o + k * 3 + 2, none⟩) (show b < wr.heap.size by omega)).trans q2, (B.cell (p := ⟨b', o' + k * 3, none⟩) (show b' < wr.heap.size by omega)).trans q0', (B.cell (p := ⟨b', o' + k * 3 + 1, none⟩) (show b' < wr.heap.size by omega)).trans q1', (B.cell (p := ⟨b', o' + k * 3 + 2, none⟩) (show b' < wr.heap.size by omega)).trans q2'⟩
      have hSd : ∀ W', S W' → S W'.drew := fun W' B => by rw [hSE] at B ⊢; exact B.drew
      have hS0 : S wr := by rw [hSE]; exact Below.refl _ _
      have HEnd : Hid (∀ W', S W' → Below w1.heap.size w1 W') := fun W' B => by
        rw [hSE] at B
        exact hB.out.trans (B.mono sB)
      clear hSE q0 q1 q2 q0' q1' q2' S4 hBw
      go_wp2_with (fail)
      refine wp_region_held_drew (S := S) (by kernel_rfl) (hSd _ hS0) (fun hHeld => ?_)
      clear hS0
      refine wpAnyH_take (i := 0) (v := ?_) (by simp only [List.getElem?_toArray, List.getElem?_cons_succ, List.getElem?_cons_zero]; rfl) (by kernel_rfl) (by kernel_rfl) (by kernel_rfl) (by exact fun _ _ _ h => h) (Or.inl ⟨by rfl, ?_⟩) hHeld ?_
      rotate_left
      · intro W' hW'; go_simp <;> with_reducible rfl
      simp only [Act.put, List.setIfInBounds_toArray, List.set_cons_zero, List.set_cons_succ]
      refine wpAnyH_take (i := 1) (v := ?_) (by simp only [List.getElem?_toArray, List.getElem?_cons_succ, List.getElem?_cons_zero]; rfl) (by kernel_rfl) (by kernel_rfl) (by kernel_rfl) (by exact fun _ _ _ h => h) (Or.inl ⟨by rfl, ?_⟩) hHeld ?_
      rotate_left
      · intro W' hW'; obtain ⟨y0, y1, y2, y3, y4, y5, y6, y7⟩ := hcells W' hW'; go_simp <;> with_reducible rfl
      simp only [Act.put, List.setIfInBounds_toArray, List.set_cons_zero, List.set_cons_succ]
      refine wpAnyH_take (i := 2) (v := ?_) (by simp only [List.getElem?_toArray, List.getElem?_cons_succ, List.getElem?_cons_zero]; rfl) (by kernel_rfl) (by kernel_rfl) (by kernel_rfl) (by exact fun _ _ _ h => h) (Or.inl ⟨by rfl, ?_⟩) hHeld ?_
      rotate_left
      · intro W' hW'; go_simp <;> with_reducible rfl
      simp only [Act.put, List.setIfInBounds_toArray, List.set_cons_zero, List.set_cons_succ]
      refine wpAnyH_take (i := 3) (v := ?_) (by simp only [List.getElem?_toArray, List.getElem?_cons_succ, List.getElem?_cons_zero]; rfl) (by kernel_rfl) (by kernel_rfl) (by kernel_rfl) (by exact fun _ _ _ h => h) (Or.inl ⟨by rfl, ?_⟩) hHeld ?_
      rotate_left
      · intro W' hW'; go_simp <;> with_reducible rfl
      simp only [Act.put, List.setIfInBounds_toArray, List.set_cons_zero, List.set_cons_succ]
      refine wpAnyH_take (i := 4) (v := ?_) (by simp only [List.getElem?_toArray, List.getElem?_cons_succ, List.getElem?_cons_zero]; rfl) (by kernel_rfl) (by kernel_rfl) (by kernel_rfl) (by exact fun _ _ _ h => h) (Or.inl ⟨by rfl, ?_⟩) hHeld ?_
      rotate_left
      · intro W' hW'; obtain ⟨y0, y1, y2, y3, y4, y5, y6, y7⟩ := hcells W' hW'; go_simp <;> with_reducible rfl
      simp only [Act.put, List.setIfInBounds_toArray, List.set_cons_zero, List.set_cons_succ]
      refine wpAnyH_take (i := 5) (v := ?_) (by simp only [List.getElem?_toArray, List.getElem?_cons_succ, List.getElem?_cons_zero]; rfl) (by kernel_rfl) (by kernel_rfl) (by kernel_rfl) (by exact fun _ _ _ h => h) (Or.inl ⟨by rfl, ?_⟩) hHeld ?_
      rotate_left
      · intro W' hW'; go_simp <;> with_reducible rfl
      simp only [Act.put, List.setIfInBounds_toArray, List.set_cons_zero, List.set_cons_succ]
      refine wpAnyH_take (i := 6) (v := ?_) (by simp only [List.getElem?_toArray, List.getElem?_cons_succ, List.getElem?_cons_zero]; rfl) (by kernel_rfl) (by kernel_rfl) (by kernel_rfl) (by exact fun _ _ _ h => h) (Or.inl ⟨by rfl, ?_⟩) hHeld ?_
      rotate_left
      · intro W' hW'; obtain ⟨y0, y1, y2, y3, y4, y5, y6, y7⟩ := hcells W' hW'; go_simp <;> with_reducible rfl
      simp only [Act.put, List.setIfInBounds_toArray, List.set_cons_zero, List.set_cons_succ]
      refine wpAnyH_take (i := 7) (v := ?_) (by simp only [List.getElem?_toArray, List.getElem?_cons_succ, List.getElem?_cons_zero]; rfl) (by kernel_rfl) (by kernel_rfl) (by kernel_rfl) (by exact fun _ _ _ h => h) (Or.inl ⟨by rfl, ?_⟩) hHeld ?_
      rotate_left
      · intro W' hW'; go_simp <;> with_reducible rfl
      simp only [Act.put, List.setIfInBounds_toArray, List.set_cons_zero, List.set_cons_succ]
      refine wpAnyH_take (i := 8) (v := ?_) (by simp only [List.getElem?_toArray, List.getElem?_cons_succ, List.getElem?_cons_zero]; rfl) (by kernel_rfl) (by kernel_rfl) (by kernel_rfl) (by exact fun _ _ _ h => h) (Or.inl ⟨by rfl, ?_⟩) hHeld ?_
      rotate_left
      · intro W' hW'; go_simp <;> with_reducible rfl
      simp only [Act.put, List.setIfInBounds_toArray, List.set_cons_zero, List.set_cons_succ]
      refine wpAnyH_take (i := 9) (v := ?_) (by simp only [List.getElem?_toArray, List.getElem?_cons_succ, List.getElem?_cons_zero]; rfl) (by kernel_rfl) (by kernel_rfl) (by kernel_rfl) (by exact fun _ _ _ h => h) (Or.inl ⟨by rfl, ?_⟩) hHeld ?_
      rotate_left
      · intro W' hW'; obtain ⟨y0, y1, y2, y3, y4, y5, y6, y7⟩ := hcells W' hW'; go_simp <;> with_reducible rfl
      simp only [Act.put, List.setIfInBounds_toArray, List.set_cons_zero, List.set_cons_succ]
      refine wpAnyH_ready (rs := [10]) (by kernel_rfl) (by simp) ?_
      refine AllReadyH.cons (by simp only [List.getElem?_toArray, List.getElem?_cons_succ, List.getElem?_cons_zero]; rfl) (fun K hK => ?_) AllReadyH.nil
      rw [if_pos (by rfl)]
      go_simp
      refine (hC1 _ hHeld).mono ?_
      clear hHeld
      rintro e W1 ⟨rfl, hS1⟩
      try go_wp2_with (fail)
      refine hK.out _ _ hS1 (fun hHeld => ?_)
      clear hK K hS1
      try simp only [Act.put, List.setIfInBounds_toArray, List.set_cons_zero, List.set_cons_succ]
      refine wpAnyH_take (i := 11) (v := ?_) (by simp only [List.getElem?_toArray, List.getElem?_cons_succ, List.getElem?_cons_zero]; rfl) (by kernel_rfl) (by kernel_rfl) (by kernel_rfl) (by exact fun _ _ _ h => h) (Or.inl ⟨by rfl, ?_⟩) hHeld ?_
      rotate_left
      · intro W' hW'; go_simp <;> with_reducible rfl
      simp only [Act.put, List.setIfInBounds_toArray, List.set_cons_zero, List.set_cons_succ]
      refine wpAnyH_done (by kernel_rfl) ?_ _
      go_wp2
      go_roundw
      case rel => exact ⟨k + 1, by omega, by go_num, HEnd.out _ hHeld⟩
      case measure => simp [intOf]; omega
    · go_wp2
      go_ret
      exact ⟨rfl, hBw⟩
end Go.Proofs.Ytdamdjhnhkmncaa
