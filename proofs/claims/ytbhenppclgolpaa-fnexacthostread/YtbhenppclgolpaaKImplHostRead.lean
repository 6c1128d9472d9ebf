/-
  What the program's own HostRead does.
-/
import Derived.Test.YtbhenppclgolpaaKSpecHostRead
import Derived.Test.YtbhenppclgolpaaKAD
set_option linter.unusedSimpArgs false
namespace Go.Proofs.Ytbhenppclgolpaa
open Go.RowKit
attribute [local go_sem ↓] Go.wp_at_zero Go.wp_at_succ exec_app exec_lod exec_house exec_mapsA exec_allocL exec_storeL exec_buildL exec_idxM exec_look exec_upd exec_allocH exec_buildH exec_storeH exec_bsL exec_storeQ exec_loadQ exec_idxQ
attribute [local go_sem] bigNext_ok bigSkip_ok

set_option maxRecDepth 100000 in
set_option maxHeartbeats 8000000 in
theorem implHostReadG (lo hi : Nat) (af ag : Option Addr) (lf cf n cg : Nat) (h : Hst) (G P O : Int) (w : World) (hH : HostIn w lo hi (.slice af lf cf) (.slice ag n cg) h) (hh : hi ≤ w.heap.size) (hwf : WfGs h.guests.length h.guests) :
    Calls Try.prog 34 #[.agg #[.slice af lf cf, .slice ag n cg, .int .i64 h.hand], .int .i64 G, .int .i64 P, .int .i64 O] w fun e w' => Gives2H w w' e (readH h G P O) (.int .i64 (readHv h G P O)) := by
  obtain ⟨W0, hW0⟩ : ∃ W0, W0 = (w.alloc (.cells #[.slice af lf cf, .slice ag n cg, .int .i64 h.hand] 27)).alloc (.cells #[.slice none 0 0, .slice none 0 0, .int .i64 0] 27) := ⟨_, rfl⟩
  have B0 : Below w.heap.size w W0 := by rw [hW0]; exact ((Below.refl _ _).alloc (Nat.le_refl _) _).alloc (by simp) _
  have s0 : w.heap.size + 1 < W0.heap.size := by rw [hW0]; simp
  have r0 : Var3 W0 (w.heap.size + 1) (.slice none 0 0) (.slice none 0 0) (.int .i64 0) := by rw [hW0]; exact var3_newK (by simp)
  have hc := implPlaceOf lo hi af ag lf cf n cg h G P O W0 (hH.same (below_sameIn B0 hh)) (Nat.le_trans hh B0.size) hwf
  obtain ⟨zH, hzs, hAl, hSt⟩ := house_var
  clear hH
  go_enter Try.func34, Try.ntmps34
  go_wp2_with (fail)
  rw [← hW0]
  clear hW0
  refine hc.mono ?_
  rintro e w1 ⟨cs, a, b, hl, h1, rfl, B1, hL⟩
  have z1 := B1.size
  obtain ⟨V, hV⟩ : ∃ V, V = (w1.alloc (.cells zH 74)).alloc (.cells #[.int .i64 0, .int .i64 0] 99) := ⟨_, rfl⟩
  have BV : Below w1.heap.size w1 V := by rw [hV]; exact ((Below.refl _ _).alloc (Nat.le_refl _) _).alloc (by simp) _
  have sV : V.heap.size ≤ w1.heap.size + 2 ∧ w1.heap.size + 2 ≤ V.heap.size := by rw [hV]; simp
  have tV : V.there w1.heap.size 0 34 := by
    have := there_new w1 zH 74
    rw [hzs] at this
    rw [hV]
    exact World.there_alloc' this
  have qV : V.cell? ⟨w1.heap.size + 1, 0, none⟩ = some (.int .i64 0) ∧ V.cell? ⟨w1.heap.size + 1, 1, none⟩ = some (.int .i64 0) ∧ V.frozen? ⟨w1.heap.size + 1, 0, none⟩ = false ∧ V.frozen? ⟨w1.heap.size + 1, 1, none⟩ = false := by rw [hV]; exact two_new (by simp)
  have hS := storeH34 V w1.heap.size cs hl h1 tV
  rw [hV] at hS
  obtain ⟨W2, hW2⟩ : ∃ W2, W2 = V.setCells w1.heap.size 0 cs := ⟨_, rfl⟩
  rw [← hV, ← hW2] at hS
  rw [hV] at hS
  have s2 : W2.heap.size ≤ w1.heap.size + 2 ∧ w1.heap.size + 2 ≤ W2.heap.size := by rw [hW2, size_setCells]; exact sV
  have e2 : ∀ j, j ≠ w1.heap.size → W2.heap[j]? = V.heap[j]? := fun j hj => by rw [hW2]; exact heap_setCells _ _ _ _ _ hj
  have x0 : W2.cell? ⟨w1.heap.size + 1, 0, none⟩ = some (.int .i64 0) := (World.cell?_of_block (a := ⟨w1.heap.size + 1, 0, none⟩) (e2 (w1.heap.size + 1) (by omega))).trans qV.1
  have x1 : W2.cell? ⟨w1.heap.size + 1, 1, none⟩ = some (.int .i64 0) := (World.cell?_of_block (a := ⟨w1.heap.size + 1, 1, none⟩) (e2 (w1.heap.size + 1) (by omega))).trans qV.2.1
  have y0 : W2.frozen? ⟨w1.heap.size + 1, 0, none⟩ = false := (World.frozen?_of_block (a := ⟨w1.heap.size + 1, 0, none⟩) (e2 (w1.heap.size + 1) (by omega))).trans qV.2.2.1
  have y1 : W2.frozen? ⟨w1.heap.size + 1, 1, none⟩ = false := (World.frozen?_of_block (a := ⟨w1.heap.size + 1, 1, none⟩) (e2 (w1.heap.size + 1) (by omega))).trans qV.2.2.2
  have r2 : W2.rangeAt w1.heap.size 0 cs := by rw [hW2]; exact World.rangeAt_setCells_same V _ 0 cs (by rw [hl]; exact tV)
  have t2 : W2.there w1.heap.size 0 34 := by rw [hW2]; exact World.there_setCells tV _ _ _
  have B2 : Below w1.heap.size w1 W2 := by rw [hW2]; exact below_setCells BV (Nat.le_refl _) cs 0
  obtain ⟨W3, hW3⟩ : ∃ W3, W3 = (W2.setCell ⟨w1.heap.size + 1, 0, none⟩ (.int .i64 a)).setCell ⟨w1.heap.size + 1, 1, none⟩ (.int .i64 b) := ⟨_, rfl⟩
  have s3 : W3.heap.size ≤ w1.heap.size + 2 ∧ w1.heap.size + 2 ≤ W3.heap.size := by rw [hW3]; simpa using s2
  have B3 : Below w1.heap.size w1 W3 := by rw [hW3]; exact (B2.setCell (p := ⟨w1.heap.size + 1, 0, none⟩) (Nat.le_succ _) _).setCell (p := ⟨w1.heap.size + 1, 1, none⟩) (Nat.le_succ _) _
  have r3 : W3.rangeAt w1.heap.size 0 cs := by rw [hW3]; exact range_otherK (range_otherK r2 (by omega)) (by omega)
  have e3 : W3.heap[w1.heap.size]? = W2.heap[w1.heap.size]? := by rw [hW3, Below.heap_setCell _ _ _ _ (by simp), Below.heap_setCell _ _ _ _ (by simp)]
  have t3 : W3.there w1.heap.size 0 34 := fun j hj => by
    rw [World.cell?_of_block (a := ⟨w1.heap.size, 0 + j, none⟩) e3, World.frozen?_of_block (a := ⟨w1.heap.size, 0 + j, none⟩) e3]
    exact t2 j hj
  have p30 : W3.cell? ⟨w1.heap.size + 1, 0, none⟩ = some (.int .i64 a) := by rw [hW3]; exact cellk_else (cellk_same x0) (by omega)
  have p31 : W3.cell? ⟨w1.heap.size + 1, 1, none⟩ = some (.int .i64 b) := by rw [hW3]; exact cellk_same (cellk_else x1 (by omega))
  have v3 := (r0.same (B1.block _ s0)).same (B3.block _ (by omega))
  have Bw3 := hidE (B0.trans ((B1.trans (B3.mono z1)).mono B0.size))
  have l3 : w.heap.size + 1 < W3.heap.size := by omega
  have l2s : w1.heap.size + 1 < W2.heap.size := by omega
  have l2r : w.heap.size + 1 < W2.heap.size := by omega
  have v2 := (r0.same (B1.block _ s0)).same (B2.block _ (by omega))
  obtain ⟨q0, q1, q2, f0, f1, f2⟩ := v2
  clear hSt hc hW2 r0 hV qV tV BV e2 r2 t2 sV
  cases hb : is14B h G P O
  · have HS2 := hidE (show readH h G P O = noH ∧ readHv h G P O = -3 by rw [readH, readHv, hb]; exact ⟨rfl, rfl⟩)
    have HW3 := hidE hW3
    generalize hca : cs.toArray = ca at hS
    clear hL B3 B2 B1 B0 hl h1 hca r3 t3 e3 p30 p31 v3 hW3
    have hneq : w.heap.size + 1 ≠ w1.heap.size + 1 := by omega
    go_wp2
    refine bodyPost_ret (v := .tuple #[.agg #[.slice none 0 0, .slice none 0 0, .int .i64 0], .int .i64 (-3)]) (by simp [results, Try.results34, go_sem, *]) rfl ?_
    rw [HS2.out.1, HS2.out.2, ← HW3.out]
    exact gives2H_no Bw3.out (Nat.le_succ _) _ _ _
  · obtain ⟨ho, g, p, o, rfl, rfl, rfl, hg, hp, ho4⟩ := is14_parts hb
    obtain ⟨rfl, rfl, L, c, hcsE, hL1, hL2, hL3⟩ := hL hb
    obtain ⟨hf8, hf4, _, hg2, _⟩ := okHost_frames ho
    have hLl := hL2.2.1
    have k3 : HouseW W3 w1.heap.size L c h := ⟨by rw [hcsE] at r3; exact r3, t3, hL2.below B3 hLl (Nat.le_refl _), there_below hL3 B3 hLl, by omega, hf8, hf4, hg2, by omega, by omega⟩
    have hto := implFrameOf w1.heap.size L c g p h W3 k3 (okHost_of ho) hg hp
    have hF : readH h (g : Int) (p : Int) (o : Int) = inP h g p ∧ readHv h (g : Int) (p : Int) (o : Int) = zAt h g p o := by rw [readH, readHv, hb, Int.toNat_natCast, Int.toNat_natCast, Int.toNat_natCast]; exact ⟨rfl, rfl⟩
    have kk := okHost_of ho
    obtain ⟨kx, _, hmx⟩ := inP_ok kk hg hp
    have lx := inP_len kk g p
    obtain ⟨F, hF8, hmF⟩ := okH_fr kx (show g < (inP h g p).guests.length by omega) hp hmx
    have hzz : (fAt (inP h g p) F).getD o 0 = zAt h g p o := by rw [← zAt_in hmx hmF o, zAt_inP kk hg hp hg hp]
    obtain ⟨zz, hzz2⟩ : ∃ zz, zz = zAt h g p o := ⟨_, rfl⟩
    rw [← hzz2] at hzz hF
    rw [hmF] at hto
    have HF := hidE hF
    have Hv3 := hidE v3
    have hLw : Hid (W0.heap.size ≤ L) := hL1
    generalize hca : cs.toArray = ca at hS
    clear hL B2 B1 B0 hl h1 hca r3 t3 e3 v3 hF hcsE hL2 hL3 k3 p30 p31 hL1
    go_wp2_with (fail)
    rw [← hW3]
    clear hW3 x0 x1 y0 y1 q0 q1 q2 f0 f1 f2
    refine hto.mono ?_
    rintro e W4 ⟨rfl, k4, U4⟩
    have s4 := U4.size
    have hk4 := k4
    have hLw' := hLw.out
    have v4 := Hv3.out.same (U4.block (w.heap.size + 1) (by omega) (by omega) (by omega))
    have Bw4 := hidE (show Below w.heap.size w W4 from Bw3.out.trans (U4.below (by omega) (by omega) (by omega)))
    clear hto k4 U4 kx hmx hmF kk
    generalize hox : inP h g p = hx at *
    generalize hcs2 : (houseC hx.frames (.slice (some ⟨L, 0, none⟩) hx.guests.length c) hx.hand).toArray = hs2 at *
    have hS0 : HouseW W4.drew w1.heap.size L c hx := hk4.drewK
    have hcells : ∀ W', HouseW W' w1.heap.size L c hx → bigRun Try.prog 74 (.pointer (some ⟨w1.heap.size, 0, none⟩)) W' = .ok (.agg hs2) W' ∧ W'.cell? ⟨w1.heap.size, F * 4 + o, none⟩ = some (.int .i64 zz) := fun W' k => by
      rw [← hcs2]
      have a := (k.wordAt hF8 ho4).1
      rw [hzz] at a
      exact ⟨k.give, a⟩
    have hC : Calls Try.prog 48 #[.agg hs2] W4.drew fun e w' => ∃ a1 l1 c1 a2 l2 c2, e = .returned (.agg #[.slice a1 l1 c1, .slice a2 l2 c2, .int .i64 hx.hand]) ∧ HouseW w' w1.heap.size L c hx ∧ w'.cell? ⟨w.heap.size + 1, 0, none⟩ = some (.slice none 0 0) ∧ w'.cell? ⟨w.heap.size + 1, 1, none⟩ = some (.slice none 0 0) ∧ w'.cell? ⟨w.heap.size + 1, 2, none⟩ = some (.int .i64 0) ∧ w'.frozen? ⟨w.heap.size + 1, 0, none⟩ = false ∧ w'.frozen? ⟨w.heap.size + 1, 1, none⟩ = false ∧ w'.frozen? ⟨w.heap.size + 1, 2, none⟩ = false ∧ w.heap.size + 1 < w'.heap.size ∧ Hid (OwnHost w' W4.heap.size w'.heap.size (.slice a1 l1 c1) (.slice a2 l2 c2) hx ∧ Below W4.heap.size W4 w') := by
      have hho := houseHostW hS0
      rw [hcs2] at hho
      refine hho.mono ?_
      rintro e w5 ⟨vf, vg, rfl, hO5, B5⟩
      have hO5' := hO5
      obtain ⟨af', cf', m0, m1, rfl, _, _, _, ag', cg', rfl, _⟩ := hO5'
      have B5' : Below W4.heap.size W4 w5 := (Below.refl _ _).drew.trans B5
      obtain ⟨q0, q1, q2, f0, f1, f2⟩ := v4.same (B5'.block _ (by omega))
      have := B5'.size
      exact ⟨_, _, _, _, _, _, rfl, hS0.belowK B5, q0, q1, q2, f0, f1, f2, by omega, hO5, B5'⟩
    obtain ⟨S, hSE⟩ : ∃ S : World → Prop, S = fun W' => HouseW W' w1.heap.size L c hx := ⟨_, rfl⟩
    have hF8i : (F : Int) < 8 := by omega
    have ho4i : (o : Int) < 4 := by omega
    have h0F : (0 : Int) ≤ (F : Int) := Int.natCast_nonneg _
    have h0o : (0 : Int) ≤ (o : Int) := Int.natCast_nonneg _
    have hcells : ∀ W', S W' → bigRun Try.prog 74 (.pointer (some ⟨w1.heap.size, 0, none⟩)) W' = .ok (.agg hs2) W' ∧ W'.cell? ⟨w1.heap.size, F * 4 + o, none⟩ = some (.int .i64 zz) := by rw [hSE]; exact hcells
    have hSC : ∀ W', HouseW W' w1.heap.size L c hx → S W' := by rw [hSE]; exact fun _ h => h
    have hSU : ∀ W', S W' → HouseW W' w1.heap.size L c hx := by rw [hSE]; exact fun _ h => h
    have hSr : ∀ (u0 u1 u2 : Value) W', S W' → S (((W'.setCell ⟨w.heap.size + 1, 0, none⟩ u0).setCell ⟨w.heap.size + 1, 1, none⟩ u1).setCell ⟨w.heap.size + 1, 2, none⟩ u2) := fun u0 u1 u2 W' h => hSC _ ((hSU _ h).upd ((((Upd.refl _ W').put 0 u0).put 1 u1).put 2 u2) (by omega) (by omega))
    clear hSE hk4
    go_wp2_with (fail)
    refine wp_region_held_drew (S := S) (by kernel_rfl) (hSC _ hS0) (fun hHeld => ?_)
    refine wpAnyH_take (i := 0) (v := ?_) (by simp only [List.getElem?_toArray, List.getElem?_cons_succ, List.getElem?_cons_zero]; rfl) (by kernel_rfl) (by kernel_rfl) (by kernel_rfl) (by exact fun _ _ _ h => h) (Or.inl ⟨by rfl, ?_⟩) hHeld ?_
    rotate_left
    · intro W' hW'; obtain ⟨y0,y1⟩ := hcells W' hW'; go_simp <;> with_reducible rfl
    simp only [Act.put, List.setIfInBounds_toArray, List.set_cons_zero, List.set_cons_succ]
    refine wpAnyH_take (i := 2) (v := ?_) (by simp only [List.getElem?_toArray, List.getElem?_cons_succ, List.getElem?_cons_zero]; rfl) (by kernel_rfl) (by kernel_rfl) (by kernel_rfl) (by exact fun _ _ _ h => h) (Or.inl ⟨by rfl, ?_⟩) hHeld ?_
    rotate_left
    · intro W' hW'; go_simp <;> with_reducible rfl
    simp only [Act.put, List.setIfInBounds_toArray, List.set_cons_zero, List.set_cons_succ]
    refine wpAnyH_take (i := 3) (v := ?_) (by simp only [List.getElem?_toArray, List.getElem?_cons_succ, List.getElem?_cons_zero]; rfl) (by kernel_rfl) (by kernel_rfl) (by kernel_rfl) (by exact fun _ _ _ h => h) (Or.inl ⟨by rfl, ?_⟩) hHeld ?_
    rotate_left
    · intro W' hW'; go_simp <;> with_reducible rfl
    simp only [Act.put, List.setIfInBounds_toArray, List.set_cons_zero, List.set_cons_succ]
    refine wpAnyH_take (i := 4) (v := ?_) (by simp only [List.getElem?_toArray, List.getElem?_cons_succ, List.getElem?_cons_zero]; rfl) (by kernel_rfl) (by kernel_rfl) (by kernel_rfl) (by exact fun _ _ _ h => h) (Or.inl ⟨by rfl, ?_⟩) hHeld ?_
    rotate_left
    · intro W' hW'; go_simp <;> with_reducible rfl
    simp only [Act.put, List.setIfInBounds_toArray, List.set_cons_zero, List.set_cons_succ]
    refine wpAnyH_take (i := 5) (v := ?_) (by simp only [List.getElem?_toArray, List.getElem?_cons_succ, List.getElem?_cons_zero]; rfl) (by kernel_rfl) (by kernel_rfl) (by kernel_rfl) (by exact fun _ _ _ h => h) (Or.inl ⟨by rfl, ?_⟩) hHeld ?_
    rotate_left
    · intro W' hW'; go_simp <;> with_reducible rfl
    simp only [Act.put, List.setIfInBounds_toArray, List.set_cons_zero, List.set_cons_succ]
    refine wpAnyH_take (i := 6) (v := ?_) (by simp only [List.getElem?_toArray, List.getElem?_cons_succ, List.getElem?_cons_zero]; rfl) (by kernel_rfl) (by kernel_rfl) (by kernel_rfl) (by exact fun _ _ _ h => h) (Or.inl ⟨by rfl, ?_⟩) hHeld ?_
    rotate_left
    · intro W' hW'; go_simp <;> with_reducible rfl
    simp only [Act.put, List.setIfInBounds_toArray, List.set_cons_zero, List.set_cons_succ]
    refine wpAnyH_take (i := 7) (v := ?_) (by simp only [List.getElem?_toArray, List.getElem?_cons_succ, List.getElem?_cons_zero]; rfl) (by kernel_rfl) (by kernel_rfl) (by kernel_rfl) (by exact fun _ _ _ h => h) (Or.inl ⟨by rfl, ?_⟩) hHeld ?_
    rotate_left
    · intro W' hW'; obtain ⟨y0,y1⟩ := hcells W' hW'; go_simp <;> with_reducible rfl
    simp only [Act.put, List.setIfInBounds_toArray, List.set_cons_zero, List.set_cons_succ]
    refine wpAnyH_ready (rs := [1]) (by kernel_rfl) (by simp) ?_
    refine AllReadyH.cons (by simp only [List.getElem?_toArray, List.getElem?_cons_succ, List.getElem?_cons_zero]; rfl) (fun K hK => ?_) AllReadyH.nil
    rw [if_pos (by rfl)]
    go_simp
    refine hC.mono ?_
    clear hHeld hC
    rintro e w5 ⟨a1, l1, c1, a2, l2, c2, rfl, hS5, q0, q1, q2, f0, f1, f2, hlt, HR5⟩
    try go_wp2_with (fail)
    refine hK.out _ _ (hSC _ hS5) (fun hHeld => ?_)
    clear hK K
    try simp only [Act.put, List.setIfInBounds_toArray, List.set_cons_zero, List.set_cons_succ]
    refine wpAnyH_ready (rs := [8]) (by kernel_rfl) (by simp) ?_
    refine AllReadyH.cons (by simp only [List.getElem?_toArray, List.getElem?_cons_succ, List.getElem?_cons_zero]; rfl) (fun K hK => ?_) AllReadyH.nil
    rw [if_pos (by rfl)]
    go_simp
    refine hK.out _ _ (hSr _ _ _ _ hHeld) (fun hHeld => ?_)
    clear hK K
    refine wpAnyH_take (i := 9) (v := ?_) (by simp only [List.getElem?_toArray, List.getElem?_cons_succ, List.getElem?_cons_zero]; rfl) (by kernel_rfl) (by kernel_rfl) (by kernel_rfl) (by exact fun _ _ _ h => h) (Or.inl ⟨by rfl, ?_⟩) hHeld ?_
    rotate_left
    · intro W' hW'; go_simp <;> with_reducible rfl
    simp only [Act.put, List.setIfInBounds_toArray, List.set_cons_zero, List.set_cons_succ]
    refine wpAnyH_done (by kernel_rfl) ?_ _
    obtain ⟨r0, r1, r2, d0, d1, d2⟩ := Var3.putAll (w := w5) (b := w.heap.size + 1) ⟨q0, q1, q2, f0, f1, f2⟩ (.slice a1 l1 c1) (.slice a2 l2 c2) (.int .i64 hx.hand)
    have lR9 : w.heap.size + 1 < (((w5.setCell ⟨w.heap.size + 1, 0, none⟩ (.slice a1 l1 c1)).setCell ⟨w.heap.size + 1, 1, none⟩ (.slice a2 l2 c2)).setCell ⟨w.heap.size + 1, 2, none⟩ (.int .i64 hx.hand)).heap.size := by simpa using hlt
    have hG := hidE (gives2H_ret (v := .int .i64 zz) Bw4.out HR5.out.1 HR5.out.2 (R := w.heap.size + 1) (Nat.le_succ _) (by omega) (.slice a1 l1 c1) (.slice a2 l2 c2) (.int .i64 hx.hand))
    clear q0 q1 q2 f0 f1 f2 hHeld hSr hSC hSU hcells
    have hG := hidE (show Gives2H w (((w5.setCell ⟨w.heap.size + 1, 0, none⟩ (.slice a1 l1 c1)).setCell ⟨w.heap.size + 1, 1, none⟩ (.slice a2 l2 c2)).setCell ⟨w.heap.size + 1, 2, none⟩ (.int .i64 hx.hand)) _ hx (.int .i64 zz) from hG.out)
    generalize ((w5.setCell ⟨w.heap.size + 1, 0, none⟩ (.slice a1 l1 c1)).setCell ⟨w.heap.size + 1, 1, none⟩ (.slice a2 l2 c2)).setCell ⟨w.heap.size + 1, 2, none⟩ (.int .i64 hx.hand) = W9 at *
    go_wp2
    refine bodyPost_ret (v := .tuple #[.agg #[.slice a1 l1 c1, .slice a2 l2 c2, .int .i64 hx.hand], .int .i64 zz]) (by simp [results, Try.results34, go_sem, *]) rfl ?_
    rw [HF.out.1, HF.out.2]
    exact hG.out
end Go.Proofs.Ytbhenppclgolpaa
