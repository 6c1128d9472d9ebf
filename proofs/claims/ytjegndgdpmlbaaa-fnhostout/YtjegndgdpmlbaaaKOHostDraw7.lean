/-
  A drawn host and a guest of it.
-/
import Derived.Test.YtjegndgdpmlbaaaKOHL
set_option linter.unusedSimpArgs false
namespace Go.Proofs.Ytjegndgdpmlbaaa
open Go.RowKit

attribute [local go_sem ↓] Go.wp_at_zero Go.wp_at_succ
set_option maxRecDepth 100000 in
set_option maxHeartbeats 4000000 in
theorem drawSee (a : Option Addr) (len cap : Nat) (zs : List Int) (w : World) (h0 : IsRow .u8 w a len cap zs) :
    Calls Try.prog 21 #[.slice a len cap] w fun e w' => ∃ vf vg h G, e = .returned (.tuple #[.agg #[vf, vg, .int .i64 h.hand], .int .i64 G]) ∧ HostD w w' vf vg h ∧ (-1 ≤ G ∧ G ≤ 10) ∧ Below w.heap.size w w' := by
  obtain ⟨W0, hW0⟩ : ∃ W0, W0 = w.alloc (.cells #[.slice none 0 0, .slice none 0 0, .int .i64 0] 26) := ⟨_, rfl⟩
  have B0 : Below w.heap.size w W0 := by rw [hW0]; exact (Below.refl _ _).alloc (Nat.le_refl _) _
  have s0 : W0.heap.size = w.heap.size + 1 := by rw [hW0]; simp
  have r0 : Var3 W0 w.heap.size (.slice none 0 0) (.slice none 0 0) (.int .i64 0) := by rw [hW0]; exact var3_new w _ _ _ _
  have hrow : IsRow .u8 W0 a len cap zs := by rw [hW0]; exact h0.alloc _
  have r0 := hidE r0
  have B0 := hidE B0
  have s0 := hidE s0
  go_enter Try.func21, Try.ntmps21
  go_wp2_with (fail)
  rw [← hW0]
  clear hW0
  refine (open_any a len cap zs W0 hrow).mono ?_
  rintro e w1 ⟨rfl, len', hl', rfl⟩
  have hr := rd_new hrow hl' 0 98
  obtain ⟨W1, hW1⟩ : ∃ W1, W1 = W0.alloc (.cells #[.slice a len' cap, .int .i64 ((0 : Nat) : Int)] 98) := ⟨_, rfl⟩
  have B1 : Below W0.heap.size W0 W1 := by rw [hW1]; exact (Below.refl _ _).alloc (Nat.le_refl _) _
  have s1 : W1.heap.size = W0.heap.size + 1 := by rw [hW1]; simp
  rw [← hW1, s0.out] at hr
  have e1 : W0.alloc (.cells #[.slice a len' cap, .int .i64 0] 98) = W1 := hW1.symm
  rw [e1]
  replace B1 := hidE B1
  replace s1 := hidE s1
  clear hW1 e1 hrow h0
  go_wp2_with (fail)
  refine (drawHost (w.heap.size + 1) 0 W1 hr (by omega)).mono ?_
  rintro e w2 ⟨vf, vg, h, rfl, hd, ⟨k2, hr2, hk2⟩, ha2, hg1, hg4⟩
  obtain ⟨⟨af, cf, rfl, hF⟩, ag, cg, rfl, hG⟩ := hd.1
  have hI := hidE hd
  clear hd hF hG
  have hA2 : Adv (w.heap.size + 1) W0 w2 := ((Adv.refl _ _).then_belowA B1.out).trans ha2
  have s2 := hA2.size
  obtain ⟨W3, hW3⟩ : ∃ W3, W3 = w2.alloc (.cells #[.slice af h.frames.length cf, .slice ag h.guests.length cg, .int .i64 h.hand] 26) := ⟨_, rfl⟩
  have B3 : Below w2.heap.size w2 W3 := by rw [hW3]; exact (Below.refl _ _).alloc (Nat.le_refl _) _
  have hv3 : Var3 W3 w2.heap.size (.slice af h.frames.length cf) (.slice ag h.guests.length cg) (.int .i64 h.hand) := by rw [hW3]; exact var3_new w2 _ _ _ _
  have hw13 : W1.heap.size ≤ w2.heap.size := ha2.size
  have hD3 := hidE ((hI.out.below B3).lower (show w.heap.size + 1 + 1 ≤ W1.heap.size by have := s1.out; have := s0.out; omega))
  have hR3 := hidE (hr2.below B3 (show w.heap.size + 1 < w2.heap.size by have := s1.out; have := s0.out; omega))
  have hA3 := hidE (hA2.then_belowA (B3.mono s2))
  have lX : w2.heap.size < W3.heap.size := by rw [hW3]; simp
  have nX : w2.heap.size ≠ w.heap.size + 1 := by have := s1.out; have := s0.out; omega
  have hsz := hidE (And.intro s2 hw13)
  obtain ⟨x0, x1, x2, _, _, _⟩ := hv3
  clear hr2 ha2 hA2 B3 hI s2 hw13
  go_wp2_with (fail)
  rw [← hW3]
  clear hW3
  have step := hidE (fun (V V' : World) (ha : Adv (w.heap.size + 1) V V') (l : w2.heap.size < V.heap.size) (c0 : V.cell? ⟨w2.heap.size, 0, none⟩ = some (.slice af h.frames.length cf)) (c1 : V.cell? ⟨w2.heap.size, 1, none⟩ = some (.slice ag h.guests.length cg)) (c2 : V.cell? ⟨w2.heap.size, 2, none⟩ = some (.int .i64 h.hand)) => (show V'.cell? ⟨w2.heap.size, 0, none⟩ = some (.slice af h.frames.length cf) ∧ V'.cell? ⟨w2.heap.size, 1, none⟩ = some (.slice ag h.guests.length cg) ∧ V'.cell? ⟨w2.heap.size, 2, none⟩ = some (.int .i64 h.hand) ∧ w2.heap.size < V'.heap.size from
    ⟨(ha.cell (p := ⟨w2.heap.size, 0, none⟩) l nX).trans c0, (ha.cell (p := ⟨w2.heap.size, 1, none⟩) l nX).trans c1, (ha.cell (p := ⟨w2.heap.size, 2, none⟩) l nX).trans c2, Nat.lt_of_lt_of_le l ha.size⟩))
  obtain ⟨lf, hlf⟩ : ∃ lf, h.frames.length = lf := ⟨_, rfl⟩
  obtain ⟨n, hn⟩ : ∃ n, h.guests.length = n := ⟨_, rfl⟩
  rw [hlf, hn] at step hD3
  rw [hlf] at x0
  rw [hn] at x1 hg1 hg4
  replace hlf := hidE hlf
  replace hn := hidE hn
  obtain ⟨S, hSE⟩ : ∃ S : World → Prop, S = fun W' => W'.cell? ⟨w2.heap.size, 0, none⟩ = some (.slice af lf cf) ∧ W'.cell? ⟨w2.heap.size, 1, none⟩ = some (.slice ag n cg) ∧ W'.cell? ⟨w2.heap.size, 2, none⟩ = some (.int .i64 h.hand) := ⟨_, rfl⟩
  have hcells : ∀ W', S W' → W'.cell? ⟨w2.heap.size, 0, none⟩ = some (.slice af lf cf) ∧ W'.cell? ⟨w2.heap.size, 1, none⟩ = some (.slice ag n cg) ∧ W'.cell? ⟨w2.heap.size, 2, none⟩ = some (.int .i64 h.hand) := fun W' h => by rw [hSE] at h; exact h
  have hSd : S W3.drew := by rw [hSE]; exact ⟨x0, x1, x2⟩
  have y0 : W3.drew.cell? ⟨w2.heap.size, 0, none⟩ = _ := x0
  have y1 : W3.drew.cell? ⟨w2.heap.size, 1, none⟩ = _ := x1
  have y2 : W3.drew.cell? ⟨w2.heap.size, 2, none⟩ = _ := x2
  replace hA3 := hidE (hA3.out.drew)
  replace hR3 := hidE (hR3.out.drew)
  replace hD3 := hidE (hD3.out.below ((Below.refl _ _).drew))
  have l3 : w2.heap.size < W3.drew.heap.size := lX
  clear x0 x1 x2 lX
  refine wp_region_held_drew (S := S) (by kernel_rfl) hSd (fun hHeld => ?_)
  refine wpAnyH_take (i := 0) (v := ?_) (by simp only [List.getElem?_toArray, List.getElem?_cons_succ, List.getElem?_cons_zero]; rfl) (by kernel_rfl) (by kernel_rfl) (by kernel_rfl) (by exact fun _ _ _ h => h) (Or.inl ⟨by rfl, ?_⟩) hHeld ?_
  rotate_left
  · intro W' hW'; obtain ⟨v0,v1,v2⟩ := hcells W' hW'; go_simp <;> with_reducible rfl
  simp only [Act.put, List.setIfInBounds_toArray, List.set_cons_zero, List.set_cons_succ]
  refine wpAnyH_take (i := 1) (v := ?_) (by simp only [List.getElem?_toArray, List.getElem?_cons_succ, List.getElem?_cons_zero]; rfl) (by kernel_rfl) (by kernel_rfl) (by kernel_rfl) (by exact fun _ _ _ h => h) (Or.inl ⟨by rfl, ?_⟩) hHeld ?_
  rotate_left
  · intro W' hW'; go_simp <;> with_reducible rfl
  simp only [Act.put, List.setIfInBounds_toArray, List.set_cons_zero, List.set_cons_succ]
  refine wpAnyH_take (i := 2) (v := ?_) (by simp only [List.getElem?_toArray, List.getElem?_cons_succ, List.getElem?_cons_zero]; rfl) (by kernel_rfl) (by kernel_rfl) (by kernel_rfl) (by exact fun _ _ _ h => h) (Or.inl ⟨by rfl, ?_⟩) hHeld ?_
  rotate_left
  · intro W' hW'; obtain ⟨v0,v1,v2⟩ := hcells W' hW'; go_simp <;> with_reducible rfl
  simp only [Act.put, List.setIfInBounds_toArray, List.set_cons_zero, List.set_cons_succ]
  refine wpAnyH_ready (rs := [3]) (by kernel_rfl) (by simp) ?_
  refine AllReadyH.cons (by simp only [List.getElem?_toArray, List.getElem?_cons_succ, List.getElem?_cons_zero]; rfl) (fun K hK => ?_) AllReadyH.nil
  rw [if_pos (by rfl)]
  go_simp
  refine (drawWho _ k2 (.slice af lf cf) ag n cg _ W3.drew hR3.out (by omega) hg1 hg4).mono ?_
  rintro e w6 ⟨G, rfl, hG1, hG2, ⟨k4, hr4, hk4⟩, ha4⟩
  obtain ⟨y0, y1, y2, l6⟩ := step.out _ _ ha4 l3 y0 y1 y2
  have hA6 := hidE (hA3.out.trans ha4)
  have hD6 := hidE (hD3.out.adv ha4 (by omega))
  have hS4 : S w6 := by rw [hSE]; exact ⟨y0, y1, y2⟩
  clear hHeld ha4 hr4
  try go_wp2_with (fail)
  refine hK.out _ _ hS4 (fun hHeld => ?_)
  clear hK K
  try simp only [Act.put, List.setIfInBounds_toArray, List.set_cons_zero, List.set_cons_succ]
  obtain ⟨r1, r2, r3, f1, f2, f3⟩ := r0.out.same (hA6.out.block w.heap.size (by have := s0.out; omega) (by omega))
  have lR : w.heap.size < w6.heap.size := by have := hA6.out.size; have := s0.out; omega
  have nXR : w2.heap.size ≠ w.heap.size := by have := hsz.out.1; have := s0.out; omega
  have hSf : S (((w6.setCell ⟨w.heap.size, 0, none⟩ (.slice af lf cf)).setCell ⟨w.heap.size, 1, none⟩ (.slice ag n cg)).setCell ⟨w.heap.size, 2, none⟩ (.int .i64 h.hand)) := by rw [hSE]; exact ⟨(off3c nXR).trans y0, (off3c nXR).trans y1, (off3c nXR).trans y2⟩
  refine wpAnyH_ready (rs := [4]) (by kernel_rfl) (by simp) ?_
  refine AllReadyH.cons (by simp only [List.getElem?_toArray, List.getElem?_cons_succ, List.getElem?_cons_zero]; rfl) (fun K hK => ?_) AllReadyH.nil
  rw [if_pos (by rfl)]
  go_simp
  refine hK.out _ _ hSf (fun hHeld => ?_)
  clear hK K
  try simp only [Act.put, List.setIfInBounds_toArray, List.set_cons_zero, List.set_cons_succ]
  refine wpAnyH_take (i := 5) (v := ?_) (by simp only [List.getElem?_toArray, List.getElem?_cons_succ, List.getElem?_cons_zero]; rfl) (by kernel_rfl) (by kernel_rfl) (by kernel_rfl) (by exact fun _ _ _ h => h) (Or.inl ⟨by rfl, ?_⟩) hHeld ?_
  rotate_left
  · intro W' hW'; go_simp <;> with_reducible rfl
  simp only [Act.put, List.setIfInBounds_toArray, List.set_cons_zero, List.set_cons_succ]
  refine wpAnyH_done (by kernel_rfl) ?_ _
  clear hHeld hSd hSf hS4 hcells
  have hfin := hidE (show HostD w (((w6.setCell ⟨w.heap.size, 0, none⟩ (.slice af lf cf)).setCell ⟨w.heap.size, 1, none⟩ (.slice ag n cg)).setCell ⟨w.heap.size, 2, none⟩ (.int .i64 h.hand)) (.slice af lf cf) (.slice ag n cg) h from by
    obtain ⟨d1, d2, d3, _⟩ := (hD6.out.ret (R := w.heap.size) (by omega) (.slice af lf cf) (.slice ag n cg) (.int .i64 h.hand))
    exact ⟨d1.wide (by omega) (Nat.le_refl _), d2, d3, by rw [hn.out]; exact hg1, by rw [hn.out]; exact hg4⟩)
  have hBf := hidE (show Below w.heap.size w (((w6.setCell ⟨w.heap.size, 0, none⟩ (.slice af lf cf)).setCell ⟨w.heap.size, 1, none⟩ (.slice ag n cg)).setCell ⟨w.heap.size, 2, none⟩ (.int .i64 h.hand)) from by
    have hB : Below w.heap.size w w6 := ⟨hA6.out.os.trans B0.out.os, hA6.out.tape.trans B0.out.tape, hA6.out.output.trans B0.out.output, Nat.le_trans B0.out.size hA6.out.size, fun j hj => (hA6.out.block j (by have := s0.out; omega) (by omega)).trans (B0.out.block j hj)⟩
    exact ((hB.setCell (p := ⟨w.heap.size, 0, none⟩) (Nat.le_refl _) _).setCell (p := ⟨w.heap.size, 1, none⟩) (Nat.le_refl _) _).setCell (p := ⟨w.heap.size, 2, none⟩) (Nat.le_refl _) _)
  go_wp2_with (fail)
  refine bodyPost_ret (v := .tuple #[.agg #[.slice af lf cf, .slice ag n cg, .int .i64 h.hand], .int .i64 G]) (by simp [results, Try.results21, go_sem, *]) rfl ?_
  exact ⟨_, _, h, G, rfl, hfin.out, ⟨hG1, hG2⟩, hBf.out⟩
end Go.Proofs.Ytjegndgdpmlbaaa
