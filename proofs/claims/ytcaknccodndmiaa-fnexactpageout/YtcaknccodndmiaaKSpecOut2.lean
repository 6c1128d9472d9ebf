/-
  What the given l13Out does.
-/
import Derived.Test.YtcaknccodndmiaaKSpecOut1
import Derived.Deep.RegionHeld3
set_option linter.unusedSimpArgs false
namespace Go.Proofs.Ytcaknccodndmiaa
open Go.RowKit
attribute [local go_sem ↓] Go.wp_at_zero Go.wp_at_succ exec_app
attribute [local go_sem] bigNext_ok

/-- A page taken out. -/
def outG1 (fs : List (List Int)) (x : Gst) (p : Nat) : Gst := ⟨x.maps.set p noM, x.disk.set p (pageM fs x p), fU x.shades (p : Int) 6⟩
def outP (h : Hst) (g p : Nat) : Hst := bif ((gOf h g).maps.getD p noM).1 then setG h g (outG1 h.frames (gOf h g) p) else h
theorem outP_len (h : Hst) (g p : Nat) : (outP h g p).guests.length = h.guests.length := by
  rw [outP]
  cases ((gOf h g).maps.getD p noM).1
  · rfl
  · exact setG_len _ _ _
theorem outP_hand (h : Hst) (g p : Nat) : (outP h g p).hand = h.hand := by
  rw [outP]
  cases ((gOf h g).maps.getD p noM).1 <;> rfl

set_option maxRecDepth 100000 in
set_option maxHeartbeats 8000000 in
theorem specOut13 (N : Nat) (A : Pl → Nat) (h : Hst) (g p : Nat) (n cf cg : Nat) (w : World) (k : SepH w N A h) (ho : okHost h = true) (hn : h.guests.length = n) (hg : g < n) (hp : p < 6) (hN : N ≤ w.heap.size) :
    Calls Try.prog 82 #[.agg #[.slice (some ⟨A .fr, 0, none⟩) 8 cf, .slice (some ⟨A .gs, 0, none⟩) n cg, .int .i64 h.hand], .int .i64 g, .int .i64 p] w fun e w' => e = .returned (.agg #[.slice (some ⟨A .fr, 0, none⟩) 8 cf, .slice (some ⟨A .gs, 0, none⟩) n cg, .int .i64 h.hand]) ∧ (∃ A', A' .fr = A .fr ∧ A' .gs = A .gs ∧ (∀ x, x.ok n → A' x = A x ∨ w.heap.size ≤ A' x) ∧ SepH w' N A' (outP h g p)) ∧ Below N w w' ∧ ∀ j, j < w.heap.size → (∀ x, x.ok n → A x ≠ j) → w'.heap[j]? = w.heap[j]? := by
  obtain ⟨W2, hW2⟩ : ∃ W2, W2 = (w.alloc (.cells #[.slice (some ⟨A .fr, 0, none⟩) 8 cf, .slice (some ⟨A .gs, 0, none⟩) n cg, .int .i64 h.hand] 27)).alloc (.cells #[.slice none 0 0, .slice none 0 0, .int .i64 0] 27) := ⟨_, rfl⟩
  have B2 : Below w.heap.size w W2 := by rw [hW2]; exact ((Below.refl _ _).alloc (Nat.le_refl _) _).alloc (by simp) _
  have s2 : W2.heap.size ≤ w.heap.size + 2 ∧ w.heap.size + 2 ≤ W2.heap.size := by rw [hW2]; simp
  have p2 : Var3 W2 w.heap.size (.slice (some ⟨A .fr, 0, none⟩) 8 cf) (.slice (some ⟨A .gs, 0, none⟩) n cg) (.int .i64 h.hand) := by rw [hW2]; exact (var3_new w _ _ _ _).allocK _
  have r2 : Var3 W2 (w.heap.size + 1) (.slice none 0 0) (.slice none 0 0) (.int .i64 0) := by rw [hW2]; exact var3_newK (by simp)
  have k2 := k.belowK B2
  have hg' : g < h.guests.length := by omega
  obtain ⟨s1, s3, s4, s5⟩ := k.sz g hg'
  obtain ⟨⟨c1, q1⟩, ⟨c2, q2⟩, c3, q3⟩ := (k.held .gs trivial).1 g hg'
  obtain ⟨e0, e1, e2⟩ := (k.held (.maps g) hg').1 p (by omega)
  rw [Nat.zero_add] at e0 e1 e2
  have lG : A .gs < w.heap.size := (k.low .gs trivial).2
  have lM : A (.maps g) < w.heap.size := (k.low (.maps g) hg').2
  have lR : A (.row g) < w.heap.size := (k.low (.row g) hg').2
  have lG1 : A .gs < w.heap.size + 1 := by omega
  have lM1 : A (.maps g) < w.heap.size + 1 := by omega
  have lR1 : A (.row g) < w.heap.size + 1 := by omega
  have lP : w.heap.size < W2.heap.size := by omega
  have lQ : w.heap.size + 1 < W2.heap.size := by omega
  have hgi : (g : Int) < (n : Int) := by omega
  have hpi : (p : Int) < 6 := by omega
  obtain ⟨p0, p1, p3, f0, f1, f2⟩ := p2
  have hlow := fun x hx => (k.low x hx).2
  cases hin : ((gOf h g).maps.getD p noM).1
  · have hout : outP h g p = h := by rw [outP, hin]; rfl
    rw [hout]
    rw [show ((false, 0, false) : E3) = noM from rfl, hin] at e0
    obtain ⟨y0, y1, y2, z0, z1, z2⟩ := r2
    have HK2 := hidE k2
    have HB2 := hidE (B2.mono hN)
    clear k2 B2 hout
    go_enter Try.func82, Try.ntmps82
    go_wp2
    refine bodyPost_ret (v := .agg #[.slice (some ⟨A .fr, 0, none⟩) 8 cf, .slice (some ⟨A .gs, 0, none⟩) n cg, .int .i64 h.hand]) (by simp [results, Try.results82, go_sem, *]) rfl ?_
    have BB : Below w.heap.size w ((w.alloc (.cells #[.slice (some ⟨A .fr, 0, none⟩) 8 cf, .slice (some ⟨A .gs, 0, none⟩) n cg, .int .i64 h.hand] 27)).alloc (.cells #[.slice (some ⟨A .fr, 0, none⟩) 8 cf, .slice (some ⟨A .gs, 0, none⟩) n cg, .int .i64 h.hand] 27)) := ((Below.refl _ _).alloc (Nat.le_refl _) _).alloc (by simp) _
    exact ⟨rfl, ⟨A, rfl, rfl, fun _ _ => Or.inl rfl, k.belowK BB⟩, BB.mono hN, fun j hj _ => BB.block j hj⟩
  · go_enter Try.func82, Try.ntmps82
    rw [show ((false, 0, false) : E3) = noM from rfl, hin] at e0
    go_wp2_with (fail)
    rw [← hW2]
    clear hW2
    have hneG : A .gs ≠ A (.row g) := fun e => by have := k.inj .gs (.row g) trivial hg' e; cases this
    have u1 := (B2.cell (p := ⟨A .gs, g * 3 + 1, none⟩) (show A .gs < w.heap.size by omega)).trans q2
    obtain ⟨S, hSE⟩ : ∃ S : World → Prop, S = fun W' => W'.cell? ⟨w.heap.size, 0, none⟩ = some (.slice (some ⟨A .fr, 0, none⟩) 8 cf) ∧ W'.cell? ⟨w.heap.size, 1, none⟩ = some (.slice (some ⟨A .gs, 0, none⟩) n cg) ∧ W'.cell? ⟨w.heap.size, 2, none⟩ = some (.int .i64 h.hand) ∧ W'.cell? ⟨A .gs, g * 3 + 1, none⟩ = some (.slice (some ⟨A (.row g), 0, none⟩) 6 c2) := ⟨_, rfl⟩
    have hcells : ∀ W', S W' → W'.cell? ⟨w.heap.size, 0, none⟩ = some (.slice (some ⟨A .fr, 0, none⟩) 8 cf) ∧ W'.cell? ⟨w.heap.size, 1, none⟩ = some (.slice (some ⟨A .gs, 0, none⟩) n cg) ∧ W'.cell? ⟨w.heap.size, 2, none⟩ = some (.int .i64 h.hand) ∧ W'.cell? ⟨A .gs, g * 3 + 1, none⟩ = some (.slice (some ⟨A (.row g), 0, none⟩) 6 c2) := fun W' hW' => by rw [hSE] at hW'; exact hW'
    have hSb : ∀ W', Below W2.heap.size W2 W' → S W' := fun W' B => by
      rw [hSE]
      obtain ⟨a, b, c⟩ := cells3 B lP ⟨p0, p1, p3⟩
      exact ⟨a, b, c, (B.cell (p := ⟨A .gs, g * 3 + 1, none⟩) (show A .gs < W2.heap.size by omega)).trans u1⟩
    have hSw : ∀ W' j v, S W' → S (W'.setCell ⟨A (.row g), j, none⟩ v) := fun W' j v hW' => by
      rw [hSE] at hW' ⊢
      exact ⟨cellk_offK hW'.1 (by omega), cellk_offK hW'.2.1 (by omega), cellk_offK hW'.2.2.1 (by omega), cellk_offK hW'.2.2.2 hneG⟩
    have Bc : Below W2.heap.size W2 W2.drew := (Below.refl _ _).drew
    have kc := k2.drewS
    have hsd : W2.drew.heap.size ≤ W2.heap.size ∧ W2.heap.size ≤ W2.drew.heap.size := by rw [World.size_drew]; exact ⟨Nat.le_refl _, Nat.le_refl _⟩
    clear p0 p1 p3 f0 f1 f2 q1 q2 q3 e0 e1 e2 u1 hSE
    refine wp_region_held_drew (S := S) (by kernel_rfl) (hSb _ Bc) (fun hHeld => ?_)
    generalize W2.drew = Wd at Bc hHeld hsd kc ⊢
    have hpg := specPage12 N Wd.heap.size (some ⟨A .fr, 0, none⟩) (some ⟨A .gs, 0, none⟩) cf n cg g p h Wd (kc.hostIn cf cg).parts8.1 (by rw [← hn]; exact (kc.hostIn cf cg).parts8.2) (Nat.le_refl _) ho hn hg hp
    refine wpAnyH_take (i := 0) (v := ?_) (by simp only [List.getElem?_toArray, List.getElem?_cons_succ, List.getElem?_cons_zero]; rfl) (by kernel_rfl) (by kernel_rfl) (by kernel_rfl) (by exact fun _ _ _ h => h) (Or.inl ⟨by rfl, ?_⟩) hHeld ?_
    rotate_left
    · intro W' hW'; go_simp <;> with_reducible rfl
    simp only [Act.put, List.setIfInBounds_toArray, List.set_cons_zero, List.set_cons_succ]
    refine wpAnyH_take (i := 1) (v := ?_) (by simp only [List.getElem?_toArray, List.getElem?_cons_succ, List.getElem?_cons_zero]; rfl) (by kernel_rfl) (by kernel_rfl) (by kernel_rfl) (by exact fun _ _ _ h => h) (Or.inl ⟨by rfl, ?_⟩) hHeld ?_
    rotate_left
    · intro W' hW'; obtain ⟨z0, z1, z2, z3⟩ := hcells W' hW'; go_simp <;> with_reducible rfl
    simp only [Act.put, List.setIfInBounds_toArray, List.set_cons_zero, List.set_cons_succ]
    refine wpAnyH_take (i := 2) (v := ?_) (by simp only [List.getElem?_toArray, List.getElem?_cons_succ, List.getElem?_cons_zero]; rfl) (by kernel_rfl) (by kernel_rfl) (by kernel_rfl) (by exact fun _ _ _ h => h) (Or.inl ⟨by rfl, ?_⟩) hHeld ?_
    rotate_left
    · intro W' hW'; go_simp <;> with_reducible rfl
    simp only [Act.put, List.setIfInBounds_toArray, List.set_cons_zero, List.set_cons_succ]
    refine wpAnyH_take (i := 3) (v := ?_) (by simp only [List.getElem?_toArray, List.getElem?_cons_succ, List.getElem?_cons_zero]; rfl) (by kernel_rfl) (by kernel_rfl) (by kernel_rfl) (by exact fun _ _ _ h => h) (Or.inl ⟨by rfl, ?_⟩) hHeld ?_
    rotate_left
    · intro W' hW'; go_simp <;> with_reducible rfl
    simp only [Act.put, List.setIfInBounds_toArray, List.set_cons_zero, List.set_cons_succ]
    refine wpAnyH_take (i := 4) (v := ?_) (by simp only [List.getElem?_toArray, List.getElem?_cons_succ, List.getElem?_cons_zero]; rfl) (by kernel_rfl) (by kernel_rfl) (by kernel_rfl) (by exact fun _ _ _ h => h) (Or.inl ⟨by rfl, ?_⟩) hHeld ?_
    rotate_left
    · intro W' hW'; go_simp <;> with_reducible rfl
    simp only [Act.put, List.setIfInBounds_toArray, List.set_cons_zero, List.set_cons_succ]
    refine wpAnyH_take (i := 5) (v := ?_) (by simp only [List.getElem?_toArray, List.getElem?_cons_succ, List.getElem?_cons_zero]; rfl) (by kernel_rfl) (by kernel_rfl) (by kernel_rfl) (by exact fun _ _ _ h => h) (Or.inl ⟨by rfl, ?_⟩) hHeld ?_
    rotate_left
    · intro W' hW'; obtain ⟨z0, z1, z2, z3⟩ := hcells W' hW'; go_simp <;> with_reducible rfl
    simp only [Act.put, List.setIfInBounds_toArray, List.set_cons_zero, List.set_cons_succ]
    refine wpAnyH_take (i := 6) (v := ?_) (by simp only [List.getElem?_toArray, List.getElem?_cons_succ, List.getElem?_cons_zero]; rfl) (by kernel_rfl) (by kernel_rfl) (by kernel_rfl) (by exact fun _ _ _ h => h) (Or.inl ⟨by rfl, ?_⟩) hHeld ?_
    rotate_left
    · intro W' hW'; go_simp <;> with_reducible rfl
    simp only [Act.put, List.setIfInBounds_toArray, List.set_cons_zero, List.set_cons_succ]
    refine wpAnyH_take (i := 7) (v := ?_) (by simp only [List.getElem?_toArray, List.getElem?_cons_succ, List.getElem?_cons_zero]; rfl) (by kernel_rfl) (by kernel_rfl) (by kernel_rfl) (by exact fun _ _ _ h => h) (Or.inl ⟨by rfl, ?_⟩) hHeld ?_
    rotate_left
    · intro W' hW'; obtain ⟨z0, z1, z2, z3⟩ := hcells W' hW'; go_simp <;> with_reducible rfl
    simp only [Act.put, List.setIfInBounds_toArray, List.set_cons_zero, List.set_cons_succ]
    refine wpAnyH_take (i := 8) (v := ?_) (by simp only [List.getElem?_toArray, List.getElem?_cons_succ, List.getElem?_cons_zero]; rfl) (by kernel_rfl) (by kernel_rfl) (by kernel_rfl) (by exact fun _ _ _ h => h) (Or.inl ⟨by rfl, ?_⟩) hHeld ?_
    rotate_left
    · intro W' hW'; go_simp <;> with_reducible rfl
    simp only [Act.put, List.setIfInBounds_toArray, List.set_cons_zero, List.set_cons_succ]
    refine wpAnyH_take (i := 9) (v := ?_) (by simp only [List.getElem?_toArray, List.getElem?_cons_succ, List.getElem?_cons_zero]; rfl) (by kernel_rfl) (by kernel_rfl) (by kernel_rfl) (by exact fun _ _ _ h => h) (Or.inl ⟨by rfl, ?_⟩) hHeld ?_
    rotate_left
    · intro W' hW'; go_simp <;> with_reducible rfl
    simp only [Act.put, List.setIfInBounds_toArray, List.set_cons_zero, List.set_cons_succ]
    refine wpAnyH_ready (rs := [10]) (by kernel_rfl) (by simp) ?_
    refine AllReadyH.cons (by simp only [List.getElem?_toArray, List.getElem?_cons_succ, List.getElem?_cons_zero]; rfl) (fun K hK => ?_) AllReadyH.nil
    rw [if_pos (by rfl)]
    go_simp
    refine hpg.mono ?_
    rintro e W3 ⟨b3, c3', rfl, own3, B3⟩
    have z3 := B3.size
    have kd := kc.belowK B3
    have Bd := Bc.trans (B3.mono (by omega))
    have hb3 := (own3.lt b3 rfl)
    try go_wp2_with (fail)
    refine hK.out _ _ (hSb _ Bd) (fun hHeld => ?_)
    clear hK K
    try simp only [Act.put, List.setIfInBounds_toArray, List.set_cons_zero, List.set_cons_succ]
    refine wpAnyH_take (i := 11) (v := ?_) (by simp only [List.getElem?_toArray, List.getElem?_cons_succ, List.getElem?_cons_zero]; rfl) (by kernel_rfl) (by kernel_rfl) (by kernel_rfl) (by exact fun _ _ _ h => h) (Or.inl ⟨by rfl, ?_⟩) hHeld ?_
    rotate_left
    · intro W' hW'; go_simp <;> with_reducible rfl
    simp only [Act.put, List.setIfInBounds_toArray, List.set_cons_zero, List.set_cons_succ]
    refine wpAnyH_ready (rs := [12]) (by kernel_rfl) (by simp) ?_
    refine AllReadyH.cons (by simp only [List.getElem?_toArray, List.getElem?_cons_succ, List.getElem?_cons_zero]; rfl) (fun K hK => ?_) AllReadyH.nil
    rw [if_pos (by rfl)]
    obtain ⟨⟨c4, w4⟩, w5⟩ := (kd.held (.row g) hg') p hp
    have lRd : A (.row g) < W3.heap.size := by omega
    have hz4 := pageM_len ho hg' hp
    have hpage := hidE (show h.frames = h.frames from rfl)
    have kx := kd.disk (c := c3') hg' hp hz4 (b := b3) ⟨by omega, hb3.2⟩ (fun x hx => by have := (k.low x hx).2; omega) (own_intsS own3) (by have := own_room own3; simpa using this)
    go_simp
    refine hK.out _ _ (hSw _ _ _ hHeld) (fun hHeld => ?_)
    clear hK K
    try simp only [Act.put, List.setIfInBounds_toArray, List.set_cons_zero, List.set_cons_succ]
    refine wpAnyH_done (by kernel_rfl) ?_ _
    obtain ⟨W4, hW4⟩ : ∃ W4, W4 = W3.setCell ⟨A (.row g), p, none⟩ (.slice (some ⟨b3, 0, none⟩) 4 c3') := ⟨_, rfl⟩
    rw [← hW4] at kx hHeld ⊢
    have s4z : W4.heap.size ≤ W3.heap.size ∧ W3.heap.size ≤ W4.heap.size := by rw [hW4, World.size_setCell]; exact ⟨Nat.le_refl _, Nat.le_refl _⟩
    have r4 : Var3 W4 (w.heap.size + 1) (.slice none 0 0) (.slice none 0 0) (.int .i64 0) := by
      rw [hW4]
      exact (r2.same (Bd.block _ (by omega))).same (Below.heap_setCell _ _ _ _ (by simp; omega))
    have B4 : Below N w W4 := by
      rw [hW4]
      exact ((B2.trans (Bd.mono (by omega))).mono hN).setCell (p := ⟨A (.row g), p, none⟩) (k.low (.row g) hg').1 _
    have BM4 := hidE (show ∀ b, b < w.heap.size → b ≠ A (.row g) → W4.heap[b]? = w.heap[b]? from fun b h1 h2 => by
      rw [hW4, Below.heap_setCell _ _ _ _ (by simpa using h2)]
      exact (Bd.block b (by omega)).trans (B2.block b h1))
    clear hW4
    obtain ⟨x0, x1, x2, x3⟩ := hcells _ hHeld
    obtain ⟨A', hA'⟩ : ∃ A', A' = upd A (.dsk g p) b3 := ⟨_, rfl⟩
    rw [← hA'] at kx
    have aF : A' .fr = A .fr := by rw [hA']; exact upd_ne _ _ (by intro e; cases e)
    have aG : A' .gs = A .gs := by rw [hA']; exact upd_ne _ _ (by intro e; cases e)
    have aM : A' (.maps g) = A (.maps g) := by rw [hA']; exact upd_ne _ _ (by intro e; cases e)
    have aX : ∀ x, x.ok n → A' x = A x ∨ w.heap.size + 2 ≤ A' x := fun x _ => by
      rw [hA']
      by_cases e : x = .dsk g p
      · right; rw [e, upd_same]; omega
      · left; exact upd_ne _ _ e
    have aS : A' (.shd g) = A (.shd g) := by rw [hA']; exact upd_ne _ _ (by intro e; cases e)
    clear hA'
    obtain ⟨h1, hh1⟩ : ∃ h1, h1 = setG h g (withDs (gOf h g) ((gOf h g).disk.set p (pageM h.frames (h.guests.getD g noG) p))) := ⟨_, rfl⟩
    rw [← hh1] at kx
    have h1n : h1.guests.length = n := by rw [hh1, setG_len]; exact hn
    have hg1 : g < h1.guests.length := by omega
    obtain ⟨⟨c5, q5⟩, _, _⟩ := (kx.held .gs trivial).1 g hg1
    obtain ⟨_, hRM⟩ := kx.held (.maps g) hg1
    obtain ⟨⟨t0, g0⟩, j0⟩ := hRM (p * 3) (by omega)
    obtain ⟨⟨t1, g1⟩, j1⟩ := hRM (p * 3 + 1) (by omega)
    obtain ⟨⟨t2, g2⟩, j2⟩ := hRM (p * 3 + 2) (by omega)
    have kM := kx.map hg1 hp noM
    rw [aG, aM] at q5
    rw [aM] at g0 g1 g2 j0 j1 j2 kM
    have l4G : A .gs < W4.heap.size := by omega
    have l4M : A (.maps g) < W4.heap.size := by omega
    have l4P : w.heap.size < W4.heap.size := by omega
    have neM : A (.maps g) ≠ w.heap.size := by omega
    have HkM := hidE kM
    have Hr4 := hidE r4
    have HB4 := hidE B4
    clear kx kM hRM kd kc hpg own3 hSb hSw hHeld hcells B3 Bd Bc r2 r4 B4 B2 k2 w4 w5 x3
    obtain ⟨W5, hW5⟩ : ∃ W5, W5 = ((W4.setCell ⟨A (.maps g), p * 3, none⟩ (.bool false)).setCell ⟨A (.maps g), p * 3 + 1, none⟩ (.int .i64 0)).setCell ⟨A (.maps g), p * 3 + 2, none⟩ (.bool false) := ⟨_, rfl⟩
    have k5 : SepH W5 N A' (setG h1 g (withMs (gOf h1 g) ((gOf h1 g).maps.set p noM))) := by rw [hW5]; exact HkM.out
    have s5z : W5.heap.size ≤ W4.heap.size ∧ W4.heap.size ≤ W5.heap.size := by rw [hW5]; simp
    have B5 := hidE (show Below N w W5 by
      rw [hW5]
      exact ((HB4.out.setCell (p := ⟨A (.maps g), p * 3, none⟩) (k.low (.maps g) hg').1 _).setCell (p := ⟨A (.maps g), p * 3 + 1, none⟩) (k.low (.maps g) hg').1 _).setCell (p := ⟨A (.maps g), p * 3 + 2, none⟩) (k.low (.maps g) hg').1 _)
    have BM5 := hidE (show ∀ b, b < w.heap.size → b ≠ A (.row g) → b ≠ A (.maps g) → W5.heap[b]? = w.heap[b]? from fun b h1 h2 h3 => by
      rw [hW5, Below.heap_setCell _ _ _ _ (by simpa using h3), Below.heap_setCell _ _ _ _ (by simpa using h3), Below.heap_setCell _ _ _ _ (by simpa using h3)]
      exact BM4.out b h1 h2)
    have r5 : Var3 W5 (w.heap.size + 1) (.slice none 0 0) (.slice none 0 0) (.int .i64 0) := by
      rw [hW5]
      exact Hr4.out.same (by rw [Below.heap_setCell _ _ _ _ (by simp; omega), Below.heap_setCell _ _ _ _ (by simp; omega), Below.heap_setCell _ _ _ _ (by simp; omega)])
    have hfo := specForget13 N A' _ g (p : Int) n cf cg h.hand W5 k5 (by rw [setG_len]; exact h1n) hg (by omega)
    rw [aF, aG] at hfo
    have hout : setG (setG h1 g (withMs (gOf h1 g) ((gOf h1 g).maps.set p noM))) g (withS (gOf (setG h1 g (withMs (gOf h1 g) ((gOf h1 g).maps.set p noM))) g) (fU (gOf (setG h1 g (withMs (gOf h1 g) ((gOf h1 g).maps.set p noM))) g).shades (p : Int) 6)) = outP h g p := by
      rw [setG_setG, gOf_set_same hg1, hh1, setG_setG, gOf_set_same hg', outP, hin]
      rfl
    rw [hout] at hfo
    have hon := outP_len h g p
    clear hout k5
    go_wp2_with (fail)
    rw [← hW5]
    clear hW5
    refine hfo.mono ?_
    rintro e W6 ⟨rfl, k6, B6, X6⟩
    have s6 := B6.size
    obtain ⟨y0, y1, y2, i0, i1, i2⟩ := r5.same (X6 _ (by omega) (by rw [aS]; have := (k.low (.shd g) hg').2; omega))
    have lR6 : w.heap.size + 1 < W6.heap.size := by omega
    have Hk6 := hidE k6
    have HB6 := hidE (B5.out.trans B6)
    have HX6 := hidE (show ∀ j, j < w.heap.size → (∀ x, x.ok n → A x ≠ j) → W6.heap[j]? = w.heap[j]? from fun j hj hx => by
      have n1 := hx (.row g) hg
      have n2 := hx (.maps g) hg
      have n3 := hx (.shd g) hg
      rw [X6 j (by omega) (by rw [aS]; exact Ne.symm n3)]
      exact BM5.out j hj (Ne.symm n1) (Ne.symm n2))
    clear X6 BM4 BM5
    clear hfo k6 B6 B5 r5 HkM Hr4 HB4 x0 x1 x2 q5 g0 g1 g2 j0 j1 j2
    go_wp2
    refine bodyPost_ret (v := .agg #[.slice (some ⟨A .fr, 0, none⟩) 8 cf, .slice (some ⟨A .gs, 0, none⟩) n cg, .int .i64 h.hand]) (by simp [results, Try.results82, go_sem, *]) rfl ?_
    have hoff : ∀ x, x.ok (outP h g p).guests.length → A' x ≠ w.heap.size + 1 := fun x hx => by
      rw [hon, hn] at hx
      rcases aX x hx with e | e
      · have := (k.low x (by rw [hn]; exact hx)).2
        omega
      · omega
    refine ⟨rfl, ⟨A', aF, aG, fun x hx => (aX x hx).imp id (fun e => by omega), ((Hk6.out.off hoff _).off hoff _).off hoff _⟩, ?_, fun j hj hx => by rw [Below.heap_setCell _ _ _ _ (by simp; omega), Below.heap_setCell _ _ _ _ (by simp; omega), Below.heap_setCell _ _ _ _ (by simp; omega)]; exact HX6.out j hj hx⟩
    exact ((HB6.out.setCell (p := ⟨w.heap.size + 1, 0, none⟩) (show N ≤ w.heap.size + 1 by omega) _).setCell (p := ⟨w.heap.size + 1, 1, none⟩) (show N ≤ w.heap.size + 1 by omega) _).setCell (p := ⟨w.heap.size + 1, 2, none⟩) (show N ≤ w.heap.size + 1 by omega) _
end Go.Proofs.Ytcaknccodndmiaa
