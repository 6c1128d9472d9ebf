/-
  What the program's own HostWrite does.
-/
import Derived.Test.YtbhenppclgolpaaKSpecHostWrite
import Derived.Test.YtbhenppclgolpaaKAD
set_option linter.unusedSimpArgs false
namespace Go.Proofs.Ytbhenppclgolpaa
open Go.RowKit
attribute [local go_sem ↓] Go.wp_at_zero Go.wp_at_succ exec_app exec_lod exec_house exec_mapsA exec_allocL exec_storeL exec_buildL exec_idxM exec_look exec_upd exec_allocH exec_buildH exec_storeH exec_bsL exec_storeQ exec_loadQ exec_idxQ
attribute [local go_sem] bigNext_ok bigSkip_ok

set_option maxRecDepth 100000 in
set_option maxHeartbeats 8000000 in
theorem implHostWriteG (lo hi : Nat) (af ag : Option Addr) (lf cf n cg : Nat) (h : Hst) (G P O Z : Int) (w : World) (hH : HostIn w lo hi (.slice af lf cf) (.slice ag n cg) h) (hh : hi ≤ w.heap.size) (hwf : WfGs h.guests.length h.guests) :
    Calls Try.prog 36 #[.agg #[.slice af lf cf, .slice ag n cg, .int .i64 h.hand], .int .i64 G, .int .i64 P, .int .i64 O, .int .i64 Z] w fun e w' => Gives2H w w' e (writeH h G P O Z) (.int .i64 (writeHv h G P O Z)) := by
  obtain ⟨W0, hW0⟩ : ∃ W0, W0 = (w.alloc (.cells #[.slice af lf cf, .slice ag n cg, .int .i64 h.hand] 27)).alloc (.cells #[.slice none 0 0, .slice none 0 0, .int .i64 0] 27) := ⟨_, rfl⟩
  have B0 : Below w.heap.size w W0 := by rw [hW0]; exact ((Below.refl _ _).alloc (Nat.le_refl _) _).alloc (by simp) _
  have s0 : w.heap.size + 1 < W0.heap.size := by rw [hW0]; simp
  have r0 : Var3 W0 (w.heap.size + 1) (.slice none 0 0) (.slice none 0 0) (.int .i64 0) := by rw [hW0]; exact var3_newK (by simp)
  have hc := implPlaceOf lo hi af ag lf cf n cg h G P O W0 (hH.same (below_sameIn B0 hh)) (Nat.le_trans hh B0.size) hwf
  obtain ⟨zH, hzs, hAl, hSt⟩ := house_var
  clear hH
  go_enter Try.func36, Try.ntmps36
  go_wp2_with (fail)
  rw [← hW0]
  clear hW0
  refine hc.mono ?_
  rintro e w1 ⟨cs, a, b, hl, h1, rfl, B1, hL⟩
  have z1 := B1.size
  obtain ⟨V, hV⟩ : ∃ V, V = (w1.alloc (.cells zH 74)).alloc (.cells #[.int .i64 0, .int .i64 0] 99) := ⟨_, rfl⟩
  have BV : Below w1.heap.size w1 V := by rw [hV]; exact ((Below.refl _ _).alloc (Nat.le_refl _) _).alloc (by simp) _
  have sV : V.heap.size ≤ w1.heap.size + 2 ∧ w1.heap.size + 2 ≤ V.heap.size := by rw [hV]; simp
  have tV : V.there w1.heap.size 0 34 := by
    have := there_new w1 zH 74
    rw [hzs] at this
    rw [hV]
    exact World.there_alloc' this
  have qV : V.cell? ⟨w1.heap.size + 1, 0, none⟩ = some (.int .i64 0) ∧ V.cell? ⟨w1.heap.size + 1, 1, none⟩ = some (.int .i64 0) ∧ V.frozen? ⟨w1.heap.size + 1, 0, none⟩ = false ∧ V.frozen? ⟨w1.heap.size + 1, 1, none⟩ = false := by rw [hV]; exact two_new (by simp)
  have hS := storeH34 V w1.heap.size cs hl h1 tV
  rw [hV] at hS
  obtain ⟨W2, hW2⟩ : ∃ W2, W2 = V.setCells w1.heap.size 0 cs := ⟨_, rfl⟩
  rw [← hV, ← hW2] at hS
  rw [hV] at hS
  have s2 : W2.heap.size ≤ w1.heap.size + 2 ∧ w1.heap.size + 2 ≤ W2.heap.size := by rw [hW2, size_setCells]; exact sV
  have e2 : ∀ j, j ≠ w1.heap.size → W2.heap[j]? = V.heap[j]? := fun j hj => by rw [hW2]; exact heap_setCells _ _ _ _ _ hj
  have x0 : W2.cell? ⟨w1.heap.size + 1, 0, none⟩ = some (.int .i64 0) := (World.cell?_of_block (a := ⟨w1.heap.size + 1, 0, none⟩) (e2 (w1.heap.size + 1) (by omega))).trans qV.1
  have x1 : W2.cell? ⟨w1.heap.size + 1, 1, none⟩ = some (.int .i64 0) := (World.cell?_of_block (a := ⟨w1.heap.size + 1, 1, none⟩) (e2 (w1.heap.size + 1) (by omega))).trans qV.2.1
  have y0 : W2.frozen? ⟨w1.heap.size + 1, 0, none⟩ = false := (World.frozen?_of_block (a := ⟨w1.heap.size + 1, 0, none⟩) (e2 (w1.heap.size + 1) (by omega))).trans qV.2.2.1
  have y1 : W2.frozen? ⟨w1.heap.size + 1, 1, none⟩ = false := (World.frozen?_of_block (a := ⟨w1.heap.size + 1, 1, none⟩) (e2 (w1.heap.size + 1) (by omega))).trans qV.2.2.2
  have r2 : W2.rangeAt w1.heap.size 0 cs := by rw [hW2]; exact World.rangeAt_setCells_same V _ 0 cs (by rw [hl]; exact tV)
  have t2 : W2.there w1.heap.size 0 34 := by rw [hW2]; exact World.there_setCells tV _ _ _
  have B2 : Below w1.heap.size w1 W2 := by rw [hW2]; exact below_setCells BV (Nat.le_refl _) cs 0
  obtain ⟨W3, hW3⟩ : ∃ W3, W3 = (W2.setCell ⟨w1.heap.size + 1, 0, none⟩ (.int .i64 a)).setCell ⟨w1.heap.size + 1, 1, none⟩ (.int .i64 b) := ⟨_, rfl⟩
  have s3 : W3.heap.size ≤ w1.heap.size + 2 ∧ w1.heap.size + 2 ≤ W3.heap.size := by rw [hW3]; simpa using s2
  have B3 : Below w1.heap.size w1 W3 := by rw [hW3]; exact (B2.setCell (p := ⟨w1.heap.size + 1, 0, none⟩) (Nat.le_succ _) _).setCell (p := ⟨w1.heap.size + 1, 1, none⟩) (Nat.le_succ _) _
  have r3 : W3.rangeAt w1.heap.size 0 cs := by rw [hW3]; exact range_otherK (range_otherK r2 (by omega)) (by omega)
  have e3 : W3.heap[w1.heap.size]? = W2.heap[w1.heap.size]? := by rw [hW3, Below.heap_setCell _ _ _ _ (by simp), Below.heap_setCell _ _ _ _ (by simp)]
  have t3 : W3.there w1.heap.size 0 34 := fun j hj => by
    rw [World.cell?_of_block (a := ⟨w1.heap.size, 0 + j, none⟩) e3, World.frozen?_of_block (a := ⟨w1.heap.size, 0 + j, none⟩) e3]
    exact t2 j hj
  have p30 : W3.cell? ⟨w1.heap.size + 1, 0, none⟩ = some (.int .i64 a) := by rw [hW3]; exact cellk_else (cellk_same x0) (by omega)
  have p31 : W3.cell? ⟨w1.heap.size + 1, 1, none⟩ = some (.int .i64 b) := by rw [hW3]; exact cellk_same (cellk_else x1 (by omega))
  have v3 := (r0.same (B1.block _ s0)).same (B3.block _ (by omega))
  have Bw3 := hidE (B0.trans ((B1.trans (B3.mono z1)).mono B0.size))
  have l3 : w.heap.size + 1 < W3.heap.size := by omega
  have l2s : w1.heap.size + 1 < W2.heap.size := by omega
  have l2r : w.heap.size + 1 < W2.heap.size := by omega
  have v2 := (r0.same (B1.block _ s0)).same (B2.block _ (by omega))
  obtain ⟨q0, q1, q2, f0, f1, f2⟩ := v2
  clear hSt hc hW2 r0 hV qV tV BV e2 r2 t2 sV
  have hwo := fun W => implWordOk Z W
  cases hb : is14B h G P O
  · have HS2 := hidE (show writeH h G P O Z = noH ∧ writeHv h G P O Z = -3 by rw [writeH, writeHv, hb]; exact ⟨rfl, rfl⟩)
    have HW3 := hidE hW3
    generalize hca : cs.toArray = ca at hS
    clear hL B3 B2 B1 B0 hl h1 hca r3 t3 e3 p30 p31 v3 hW3
    have hneq : w.heap.size + 1 ≠ w1.heap.size + 1 := by omega
    go_wp2
    refine bodyPost_ret (v := .tuple #[.agg #[.slice none 0 0, .slice none 0 0, .int .i64 0], .int .i64 (-3)]) (by simp [results, Try.results36, go_sem, *]) rfl ?_
    rw [HS2.out.1, HS2.out.2, ← HW3.out]
    exact gives2H_no Bw3.out (Nat.le_succ _) _ _ _
  cases hzb : wordB0 Z
  · have hzb' : okZ Z = false := hzb
    have HS2 := hidE (show writeH h G P O Z = noH ∧ writeHv h G P O Z = -3 by rw [writeH, writeHv, hb, hzb]; exact ⟨rfl, rfl⟩)
    have HW3 := hidE hW3
    generalize hca : cs.toArray = ca at hS
    clear hL B3 B2 B1 B0 hl h1 hca r3 t3 e3 p30 p31 v3 hW3
    have hneq : w.heap.size + 1 ≠ w1.heap.size + 1 := by omega
    rw [hzb'] at hwo
    go_wp2_with (fail)
    refine (hwo _).mono ?_
    rintro e w9 ⟨rfl, rfl⟩
    go_wp2
    refine bodyPost_ret (v := .tuple #[.agg #[.slice none 0 0, .slice none 0 0, .int .i64 0], .int .i64 (-3)]) (by simp [results, Try.results36, go_sem, *]) rfl ?_
    rw [HS2.out.1, HS2.out.2, ← HW3.out]
    exact gives2H_no Bw3.out (Nat.le_succ _) _ _ _
  · have hzb' : okZ Z = true := hzb
    rw [hzb'] at hwo
    obtain ⟨ho, g, p, o, rfl, rfl, rfl, hg, hp, ho4⟩ := is14_parts hb
    obtain ⟨rfl, rfl, L, c, hcsE, hL1, hL2, hL3⟩ := hL hb
    obtain ⟨hf8, hf4, _, hg2, _⟩ := okHost_frames ho
    have hLl := hL2.2.1
    have k3 : HouseW W3 w1.heap.size L c h := ⟨by rw [hcsE] at r3; exact r3, t3, hL2.below B3 hLl (Nat.le_refl _), there_below hL3 B3 hLl, by omega, hf8, hf4, hg2, by omega, by omega⟩
    have hto := implOwn w1.heap.size L c g p h W3 k3 (okHost_of ho) hg hp
    have hF : writeH h (g : Int) (p : Int) (o : Int) Z = wrH h g p o Z ∧ writeHv h (g : Int) (p : Int) (o : Int) Z = zAt h g p o := by rw [writeH, writeHv, hb, hzb, Int.toNat_natCast, Int.toNat_natCast, Int.toNat_natCast]; exact ⟨rfl, rfl⟩
    have kk := okHost_of ho
    obtain ⟨kx, lx, cx, hmx, hwx⟩ := ownP_ok kk hg hp
    obtain ⟨F, hF8, hmF⟩ := okH_fr kx (show g < (ownP h g p).guests.length by omega) hp hmx
    have hzz : (fAt (ownP h g p) F).getD o 0 = zAt h g p o := by
      rw [← zAt_in hmx hmF o, zAt, cx g p hg hp]
      rfl
    have hin : inP (ownP h g p) g p = ownP h g p := by
      have e : ((gOf (ownP h g p) g).maps.getD p noM).1 = true := hmx
      rw [inP, e]
      rfl
    have hwr : wrH h g p o Z = wordP (ownP h g p) F o Z := by rw [wrH, hmF, Int.toNat_natCast]
    have hgx : g < (ownP h g p).guests.length := by omega
    have hfr := fun (W : World) (k : HouseW W w1.heap.size L c (ownP h g p)) => implFrameOf w1.heap.size L c g p (ownP h g p) W k kx hgx hp
    rw [hin, hmF] at hfr
    obtain ⟨zz, hzz2⟩ : ∃ zz, zz = zAt h g p o := ⟨_, rfl⟩
    rw [← hzz2] at hzz hF
    rw [hwr] at hF
    clear hzz2
    have hpw := fun (W : World) (k : HouseW W w1.heap.size L c (ownP h g p)) => implPutW w1.heap.size L c F o Z (ownP h g p) W k hF8 ho4
    rw [hzz] at hpw
    have HF := hidE hF
    have Hv3 := hidE v3
    have hLw : Hid (W0.heap.size ≤ L) := hL1
    generalize hca : cs.toArray = ca at hS
    clear hL B2 B1 B0 hl h1 hca r3 t3 e3 v3 hF hcsE hL2 hL3 k3 hL1 kk kx cx hmx hwx hmF hin hwr
    go_wp2_with (fail)
    refine (hwo _).mono ?_
    rintro e w9 ⟨rfl, rfl⟩
    clear hwo
    go_wp2_with (fail)
    rw [← hW3]
    clear hW3 x0 x1 y0 y1 q0 q1 q2 f0 f1 f2
    refine hto.mono ?_
    rintro e W4 ⟨rfl, k4, U4⟩
    have s4 := U4.size
    have hLw' := hLw.out
    have a40 := (World.cell?_of_block (a := ⟨w1.heap.size + 1, 0, none⟩) (U4.block (w1.heap.size + 1) (by omega) (by omega) (by omega))).trans p30
    have a41 := (World.cell?_of_block (a := ⟨w1.heap.size + 1, 1, none⟩) (U4.block (w1.heap.size + 1) (by omega) (by omega) (by omega))).trans p31
    have hfr4 := hfr W4 k4
    have v4 := hidE (Hv3.out.same (U4.block (w.heap.size + 1) (by omega) (by omega) (by omega)))
    have Bw4 := hidE (show Below w.heap.size w W4 from Bw3.out.trans (U4.below (by omega) (by omega) (by omega)))
    have lA4 : w1.heap.size + 1 < W4.heap.size := by omega
    clear hto k4 U4 hfr p30 p31 Bw3 Hv3
    generalize hox : ownP h g p = hx0 at *
    go_wp2_with (fail)
    refine hfr4.mono ?_
    rintro e W5 ⟨rfl, k5, U5⟩
    have s5 := U5.size
    have v5 := hidE (v4.out.same (U5.block (w.heap.size + 1) (by omega) (by omega) (by omega)))
    have Bw5 := hidE (Bw4.out.trans (U5.below (by omega) (by omega) (by omega)))
    have hpw5 := hpw W5 k5
    clear hfr4 k5 U5 hpw a40 a41 v4 Bw4
    generalize hoy : wordP hx0 F o Z = hx at *
    go_wp2_with (fail)
    refine hpw5.mono ?_
    rintro e W6 ⟨rfl, k6, U6⟩
    have s6 := U6.size
    have v6 := v5.out.same (U6.block (w.heap.size + 1) (by omega) (by omega) (by omega))
    have Bw6 := hidE (Bw5.out.trans (U6.below (by omega) (by omega) (by omega)))
    have hld := k6.give
    have hho := houseHostW k6
    clear hpw5 k6 U6 v5 Bw5
    generalize hcs2 : (houseC hx.frames (.slice (some ⟨L, 0, none⟩) hx.guests.length c) hx.hand).toArray = hs2 at *
    go_wp2_with (fail)
    refine hho.mono ?_
    rintro e w7 ⟨vf, vg, rfl, hO7, B7⟩
    have hO7' := hO7
    obtain ⟨af', cf', m0, m1, rfl, _, _, _, ag', cg', rfl, _⟩ := hO7'
    have z7 := B7.size
    obtain ⟨q0, q1, q2, f0, f1, f2⟩ := v6.same (B7.block _ (by omega))
    have hlt : w.heap.size + 1 < w7.heap.size := by omega
    have HO7 := hidE hO7
    have HB7 := hidE B7
    clear hho hO7 B7 hld v6
    generalize hx.frames.length = lfx at *
    generalize hx.guests.length = lgx at *
    go_wp2
    refine bodyPost_ret (v := .tuple #[.agg #[.slice af' lfx cf', .slice ag' lgx cg', .int .i64 hx.hand], .int .i64 zz]) (by simp [results, Try.results36, go_sem, *]) rfl ?_
    rw [HF.out.1, HF.out.2]
    exact gives2H_ret Bw6.out HO7.out HB7.out (Nat.le_succ _) (by omega) _ _ _
end Go.Proofs.Ytbhenppclgolpaa
