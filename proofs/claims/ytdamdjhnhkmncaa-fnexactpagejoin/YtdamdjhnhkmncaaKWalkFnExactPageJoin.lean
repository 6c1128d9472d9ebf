/-
  The walk of the law FnExactPageJoin: whatever the host and the numbers, both functions give the same; the host is left as it was, and the answer lies in memory of its own.
-/
import Derived.Test.YtdamdjhnhkmncaaKPF
import Derived.Test.YtdamdjhnhkmncaaKPG
import Derived.Test.YtdamdjhnhkmncaaKQ
set_option linter.unusedSimpArgs false
namespace Go.Proofs.Ytdamdjhnhkmncaa
open Go.RowKit

set_option maxRecDepth 100000 in
set_option maxHeartbeats 16000000 in
theorem walk_FnExactPageJoin (vf vg : Value) (h : Hst) (w : World) (hA : ArgHost w vf vg h) :
    Calls Try.prog 7 #[.agg #[vf, vg, .int .i64 h.hand]] w fun e w' => e = .returned (.bool true) ∧ Below w.heap.size w w' := by
  obtain ⟨hH, hL, hwf⟩ := hA
  have hH' := hH
  obtain ⟨⟨a1, c1, rfl, _⟩, a2, c2, rfl, _⟩ := hH'
  obtain ⟨W0, hW0⟩ : ∃ W0, W0 = w.alloc (.cells #[.slice a1 h.frames.length c1, .slice a2 h.guests.length c2, .int .i64 h.hand] 38) := ⟨_, rfl⟩
  have B0 : Below w.heap.size w W0 := by rw [hW0]; exact (Below.refl _ _).alloc (Nat.le_refl _) _
  have s0 : w.heap.size < W0.heap.size := by rw [hW0]; simp
  have x0 : W0.cell? ⟨w.heap.size, 0, none⟩ = some (.slice a1 h.frames.length c1) ∧ W0.cell? ⟨w.heap.size, 1, none⟩ = some (.slice a2 h.guests.length c2) ∧ W0.cell? ⟨w.heap.size, 2, none⟩ = some (.int .i64 h.hand) := by rw [hW0]; simp
  have hc0 := szHost_m 0 w.heap.size _ _ h W0 (hH.same (below_sameIn B0 (Nat.le_refl _))) B0.size hL h.hand
  have hlater : ∀ W' : World, Below w.heap.size w W' → HostIn W' 0 w.heap.size (.slice a1 h.frames.length c1) (.slice a2 h.guests.length c2) h := fun W' B => hH.same (below_sameIn B (Nat.le_refl _))
  have hxs := (shaped_PageJoin (h := h)).small
  have hxc := (shaped_PageJoin (h := h)).cnt
  clear hH hL
  go_enter Try.func7, Try.ntmps7
  generalize hlf : h.frames.length = lf at *
  generalize hlg : h.guests.length = lg at *
  go_wp2_with (fail)
  rw [← hW0]
  clear hW0
  refine hc0.mono ?_
  rintro e w1 ⟨B1, he⟩
  have HB1 : Hid (Below w.heap.size w w1) := B0.trans (B1.mono B0.size)
  have s1 := B1.size
  have hY1 := hidE (cells3 B1 s0 x0)
  clear hc0 B1 B0 x0
  rcases he with rfl | ⟨m, rfl, hS, hcnt⟩
  · go_wp2
    go_ret
    exact ⟨rfl, HB1.out⟩
  have hno : ¬ (m : Int) < 0 := by omega
  have hT := fun (W' : World) (B : Below w.heap.size w W') => toHost_any 0 w.heap.size _ _ h W' (hlater W' B) B.size hS
  rw [hlf, hlg] at hT
  clear hlater
  have hsp := fun lo hi af ag w hH hh => specPageJoinG lo hi af ag lf lf lg lg h w hH hlf hlg hh hS
  have him := fun lo hi af ag w hH hh => implPageJoinG lo hi af ag lf lf lg lg h w hH hh (by rw [hlg]; exact hwf)
  have hmk := fun lo hi k0 vf vg w hO hlo hh hk0 => markHost_any lo hi k0 vf vg h h.hand w hO hlo hh hS hcnt hk0
  have heq := fun lo hi lo' hi' vf vg vf' vg' w k k' hh hh' => eqHost_same lo hi lo' hi' vf vg vf' vg' h w k k' hh hh' hS h.hand
  clear hwf
  generalize (pageJoinH h) = hx at *
  generalize (pageJoinHv h) = vx at *
  have hmkA := fun lo hi k0 vf vg w hO hlo hh hk0 => markHost_any lo hi k0 vf vg hx hx.hand w hO hlo hh hxs (by omega) hk0
  have heqA := fun lo hi lo' hi' vf vg vf' vg' w k k' hh hh' => eqHost_same lo hi lo' hi' vf vg vf' vg' hx w k k' hh hh' hxs hx.hand
  have hheld := fun lo hi vf vg w hk hh => heldHost_any lo hi 1 vf vg hx hx.hand w hk hh hxs (by omega) (by omega)
  generalize cntH h = cn at *
  generalize cntH hx = cx at *
  generalize hhd : hx.hand = hd at *
  have hneg : ¬ ((1 + cn : Nat) : Int) < 0 := by omega
  have hneg2 : ¬ ((1 + cx : Nat) : Int) < 0 := by omega
  have hc1 := hT w1 HB1.out
  obtain ⟨y0, y1, y2⟩ := hY1.out
  go_wp2_with (fail)
  refine hc1.mono ?_
  rintro e w2 ⟨b1, b2, rfl, hO2, B2⟩
  have s2 := B2.size
  have HB2 : Hid (Below w.heap.size w w2) := HB1.out.trans (B2.mono HB1.out.size)
  have hs := hsp w1.heap.size w2.heap.size _ _ w2 hO2.host (Nat.le_refl _)
  have hY2 := hidE (cells3 B2 (show w.heap.size < w1.heap.size by omega) hY1.out)
  clear hc1 hO2 B2 hsp y0 y1 y2 hY1
  go_wp2_with (fail)
  refine hs.mono ?_
  rintro e w3 ⟨aw, lw, cw, bw, mw, dw, rfl, Hw3, B3⟩
  have s3 := B3.size
  have HB3 : Hid (Below w.heap.size w w3) := HB2.out.trans (B3.mono HB2.out.size)
  have hY3 := hidE (cells3 B3 (show w.heap.size < w2.heap.size by omega) hY2.out)
  obtain ⟨W3, hW3⟩ : ∃ W3, W3 = w3.alloc (.cells #[.slice aw lw cw, .slice bw mw dw, .int .i64 hd] 27) := ⟨_, rfl⟩
  have C3 : Below w3.heap.size w3 W3 := by rw [hW3]; exact (Below.refl _ _).alloc (Nat.le_refl _) _
  have t3 : W3.heap.size = w3.heap.size + 1 := by rw [hW3]; simp
  have hV3 : Hid (W3.cell? ⟨w3.heap.size, 0, none⟩ = some (.slice aw lw cw) ∧ W3.cell? ⟨w3.heap.size, 1, none⟩ = some (.slice bw mw dw) ∧ W3.cell? ⟨w3.heap.size, 2, none⟩ = some (.int .i64 hd)) := by rw [hW3]; simp [Hid]
  have HBW3 : Hid (Below w.heap.size w W3) := HB3.out.trans (C3.mono HB3.out.size)
  have Hw4 := Hw3.belowK C3 (Nat.le_refl _)
  have hY4 := hidE (cells3 C3 (show w.heap.size < w3.heap.size by omega) hY3.out)
  have hc3 := hT W3 HBW3.out
  obtain ⟨y0, y1, y2⟩ := hY3.out
  have lY : w.heap.size < W3.heap.size := by omega
  have lY3 : w.heap.size < w3.heap.size := by omega
  clear hs B3 C3 Hw3 hY2
  go_wp2_with (fail)
  rw [← hW3]
  clear hW3
  refine hc3.mono ?_
  rintro e w4 ⟨d1, d2, rfl, O4, B4⟩
  have s4 := B4.size
  have HB4 : Hid (Below w.heap.size w w4) := HBW3.out.trans (B4.mono HBW3.out.size)
  obtain ⟨W5, hW5⟩ : ∃ W5, W5 = w4.alloc (.cells #[.slice (some ⟨d1, 0, none⟩) lf lf, .slice (some ⟨d2, 0, none⟩) lg lg, .int .i64 h.hand] 27) := ⟨_, rfl⟩
  have C5 : Below w4.heap.size w4 W5 := by rw [hW5]; exact (Below.refl _ _).alloc (Nat.le_refl _) _
  have t5 : W5.heap.size = w4.heap.size + 1 := by rw [hW5]; simp
  have hX5 : Hid (W5.cell? ⟨w4.heap.size, 0, none⟩ = some (.slice (some ⟨d1, 0, none⟩) lf lf) ∧ W5.cell? ⟨w4.heap.size, 1, none⟩ = some (.slice (some ⟨d2, 0, none⟩) lg lg) ∧ W5.cell? ⟨w4.heap.size, 2, none⟩ = some (.int .i64 h.hand)) := by rw [hW5]; simp [Hid]
  have HB5 : Hid (Below w.heap.size w W5) := HB4.out.trans (C5.mono HB4.out.size)
  have hY5 := hidE (cells3 C5 (show w.heap.size < w4.heap.size by omega) (cells3 B4 lY hY4.out))
  have hV5 := hidE (cells3 C5 (show w3.heap.size < w4.heap.size by omega) (cells3 B4 (show w3.heap.size < W3.heap.size by omega) hV3.out))
  have O5 := hidE (O4.belowK C5 (Nat.le_refl _))
  have Hw5 := hidE ((Hw4.belowK B4 (by omega)).belowK C5 (by omega))
  have hi5 := him W3.heap.size w4.heap.size _ _ W5 O5.out.host (by omega)
  obtain ⟨x0, x1, x2⟩ := hX5.out
  have lX : w4.heap.size < W5.heap.size := by omega
  clear hc3 O4 B4 C5 Hw4 hY3 hY4 hV3 y0 y1 y2 lY3
  go_wp2_with (fail)
  rw [← hW5]
  clear hW5
  refine hi5.mono ?_
  rintro e w6 ⟨ag, lg', cg, bg, mg, dg, rfl, Og6, B6⟩
  have s6 := B6.size
  have HB6 : Hid (Below w.heap.size w w6) := HB5.out.trans (B6.mono HB5.out.size)
  obtain ⟨W7, hW7⟩ : ∃ W7, W7 = w6.alloc (.cells #[.slice ag lg' cg, .slice bg mg dg, .int .i64 hd] 27) := ⟨_, rfl⟩
  have C7 : Below w6.heap.size w6 W7 := by rw [hW7]; exact (Below.refl _ _).alloc (Nat.le_refl _) _
  have t7 : W7.heap.size = w6.heap.size + 1 := by rw [hW7]; simp
  have hU7 : Hid (W7.cell? ⟨w6.heap.size, 0, none⟩ = some (.slice ag lg' cg) ∧ W7.cell? ⟨w6.heap.size, 1, none⟩ = some (.slice bg mg dg) ∧ W7.cell? ⟨w6.heap.size, 2, none⟩ = some (.int .i64 hd)) := by rw [hW7]; simp [Hid]
  have HB7 : Hid (Below w.heap.size w W7) := HB6.out.trans (C7.mono HB6.out.size)
  have hY7 := hidE (cells3 C7 (show w.heap.size < w6.heap.size by omega) (cells3 B6 (show w.heap.size < W5.heap.size by omega) hY5.out))
  have hV7 := hidE (cells3 C7 (show w3.heap.size < w6.heap.size by omega) (cells3 B6 (show w3.heap.size < W5.heap.size by omega) hV5.out))
  have hX7 := hidE (cells3 C7 (show w4.heap.size < w6.heap.size by omega) (cells3 B6 (show w4.heap.size < W5.heap.size by omega) hX5.out))
  have O7 := hidE ((O5.out.belowK B6 (by omega)).belowK C7 (by omega))
  have Hw7 := hidE ((Hw5.out.belowK B6 (by omega)).belowK C7 (by omega))
  have Og7 := hidE (Og6.belowK C7 (Nat.le_refl _))
  have he7 := heqA _ _ _ _ _ _ _ _ W7 Og7.out.host Hw7.out (by omega) (by omega)
  obtain ⟨u0, u1, u2⟩ := hU7.out
  obtain ⟨v0, v1, v2⟩ := hV7.out
  have lU : w6.heap.size < W7.heap.size := by omega
  have lV : w3.heap.size < W7.heap.size := by omega
  have lV6 : w3.heap.size < w6.heap.size := by omega
  obtain ⟨v60, v61, v62⟩ := cells3 B6 (show w3.heap.size < W5.heap.size by omega) hV5.out
  clear hi5 Og6 B6 C7 O5 Hw5 hY5 hV5 hX5 x0 x1 x2
  go_wp2_with (fail)
  rw [← hW7]
  clear hW7
  refine he7.mono ?_
  rintro e w8 ⟨rfl, B8⟩
  have s8 := B8.size
  have HB8 : Hid (Below w.heap.size w w8) := HB7.out.trans (B8.mono HB7.out.size)
  have hY8 := hidE (cells3 B8 (show w.heap.size < W7.heap.size by omega) hY7.out)
  have hV8 := hidE (cells3 B8 lV hV7.out)
  have hX8 := hidE (cells3 B8 (show w4.heap.size < W7.heap.size by omega) hX7.out)
  have hU8 := hidE (cells3 B8 lU hU7.out)
  have O8 := hidE (O7.out.belowK B8 (by omega))
  have Hw8 := hidE (Hw7.out.belowK B8 (by omega))
  have Og8 := hidE (Og7.out.belowK B8 (by omega))
  have hc8 := hT w8.drew HB8.out.drew
  have hT8 : Calls Try.prog 22 #[.agg #[.slice a1 lf c1, .slice a2 lg c2, .int .i64 h.hand]] w8.drew fun e w' => ∃ b1 b2, e = .returned (.agg #[.slice (some ⟨b1, 0, none⟩) lf lf, .slice (some ⟨b2, 0, none⟩) lg lg, .int .i64 h.hand]) ∧ w'.cell? ⟨w4.heap.size, 0, none⟩ = some (.slice (some ⟨d1, 0, none⟩) lf lf) ∧ w'.cell? ⟨w4.heap.size, 1, none⟩ = some (.slice (some ⟨d2, 0, none⟩) lg lg) ∧ w'.cell? ⟨w4.heap.size, 2, none⟩ = some (.int .i64 h.hand) ∧
      Calls Try.prog 24 #[.agg #[.slice (some ⟨d1, 0, none⟩) lf lf, .slice (some ⟨d2, 0, none⟩) lg lg, .int .i64 h.hand], .agg #[.slice (some ⟨b1, 0, none⟩) lf lf, .slice (some ⟨b2, 0, none⟩) lg lg, .int .i64 h.hand]] w' fun e w'' => e = .returned (.bool true) ∧ Hid (Below w8.heap.size w8 w'') := by
    refine hc8.mono ?_
    rintro e w9 ⟨b1, b2, rfl, hO9, B9⟩
    have s9 := B9.size
    rw [World.size_drew] at s9
    have B9' : Below w8.heap.size w8 w9 := ⟨B9.os, B9.tape, B9.output, s9, fun k hk => B9.block k (by rw [World.size_drew]; exact hk)⟩
    obtain ⟨q0, q1, q2⟩ := cells3 B9' (show w4.heap.size < w8.heap.size by omega) hX8.out
    refine ⟨b1, b2, rfl, q0, q1, q2, ?_⟩
    refine (heq W3.heap.size w4.heap.size _ w9.heap.size _ _ _ _ w9 (O8.out.host.belowK B9' (by omega)) hO9.host (by omega) (Nat.le_refl _)).mono ?_
    rintro e w10 ⟨rfl, B10⟩
    exact ⟨rfl, B9'.trans (B10.mono s9)⟩
  obtain ⟨x0, x1, x2⟩ := hX8.out
  obtain ⟨y0, y1, y2⟩ := hY8.out
  have l4 : w4.heap.size < w8.heap.size := by omega
  have l0 : w.heap.size < w8.heap.size := by omega
  have hTH : Hid (∀ (W' : World), Below w.heap.size w W' → Calls Try.prog 22 #[.agg #[.slice a1 lf c1, .slice a2 lg c2, .int .i64 h.hand]] W' fun e w' => ∃ b1 b2, e = .returned (.agg #[.slice (some ⟨b1, 0, none⟩) lf lf, .slice (some ⟨b2, 0, none⟩) lg lg, .int .i64 h.hand]) ∧ OwnHost w' W'.heap.size w'.heap.size (.slice (some ⟨b1, 0, none⟩) lf lf) (.slice (some ⟨b2, 0, none⟩) lg lg) h ∧ Below W'.heap.size W' w') := hT
  clear hc8 O7 Hw7 Og7 heq hT he7 B8 hY7 hV7 hX7 hU7 u0 u1 u2 v0 v1 v2 v60 v61 v62
  go_wp2_with (fail)
  go_region_with (first | (go_at_call 22; refine hT8.mono ?_; rintro e w9 ⟨b1, b2, rfl, z0, z1, z2, hE⟩) | (go_at_call 24; refine hE.mono ?_; rintro e w10 ⟨rfl, HB10⟩))
  all_goals
    have B10 := HB10.out
    have s10 := B10.size
    have HBa : Hid (Below w.heap.size w w10) := HB8.out.trans (B10.mono HB8.out.size)
    have hYa := hidE (cells3 B10 l0 hY8.out)
    have hVa := hidE (cells3 B10 (show w3.heap.size < w8.heap.size by omega) hV8.out)
    have hXa := hidE (cells3 B10 l4 hX8.out)
    have hUa := hidE (cells3 B10 (show w6.heap.size < w8.heap.size by omega) hU8.out)
    have Oa := hidE (O8.out.belowK B10 (by omega))
    have Hwa := hidE (Hw8.out.belowK B10 (by omega))
    have Oga := hidE (Og8.out.belowK B10 (by omega))
    have hma := hmk W3.heap.size w4.heap.size 1 _ _ w10 Oa.out s4 (by omega) (by omega)
    have la : w4.heap.size < w10.heap.size := by omega
    try clear hT8 hE
    try clear z0 z1 z2
    clear x0 x1 x2 y0 y1 y2
    obtain ⟨x0, x1, x2⟩ := hXa.out
    clear B10 HB10 hY8 hV8 hX8 hU8 O8 Hw8 Og8 hmk
    go_wp2_with (fail)
    refine hma.mono ?_
    rintro e w11 ⟨rfl, _, B11, S11⟩
    have s11 := B11.size
    have HB11 : Hid (Below w.heap.size w w11) := HBa.out.trans (B11.mono (by omega))
    have hY11 := hidE (cells3 B11 lY hYa.out)
    have hV11 := hidE (cells3 B11 (show w3.heap.size < W3.heap.size by omega) hVa.out)
    have hU11 := hidE (cells3S S11 (show w4.heap.size ≤ w6.heap.size by omega) (show w6.heap.size < w10.heap.size by omega) hUa.out)
    have Hw11 := hidE (Hwa.out.same (below_sameIn B11 (by omega)))
    have Og11 := hidE (Oga.out.same (S11.part (show w4.heap.size ≤ W5.heap.size by omega) (show w6.heap.size ≤ w10.heap.size by omega)))
    have he11 := heqA _ _ _ _ _ _ _ _ w11 Og11.out.host Hw11.out (by omega) (by omega)
    have lU11 : w6.heap.size < w11.heap.size := by omega
    have lV11 : w3.heap.size < w11.heap.size := by omega
    obtain ⟨u0, u1, u2⟩ := hU11.out
    obtain ⟨v0, v1, v2⟩ := hV11.out
    clear hma B11 S11 Oa hXa hYa hVa hUa Hwa Oga x0 x1 x2
    go_wp2_with (fail)
    refine he11.mono ?_
    rintro e w12 ⟨rfl, B12⟩
    have s12 := B12.size
    have HB12 : Hid (Below w.heap.size w w12) := HB11.out.trans (B12.mono (by omega))
    have hY12 := hidE (cells3 B12 (show w.heap.size < w11.heap.size by omega) hY11.out)
    have hV12 := hidE (cells3 B12 lV11 hV11.out)
    have hU12 := hidE (cells3 B12 lU11 hU11.out)
    have Hw12 := hidE (Hw11.out.belowK B12 (by omega))
    have Og12 := hidE (Og11.out.belowK B12 (by omega))
    have hm12 := hmkA W5.heap.size w6.heap.size 1 _ _ w12 Og12.out s6 (by omega) (by omega)
    have lU12 : w6.heap.size < w12.heap.size := by omega
    clear u0 u1 u2 v0 v1 v2
    obtain ⟨u0, u1, u2⟩ := hU12.out
    clear he11 B12 hY11 hV11 hU11 Hw11 Og11
    go_wp2_with (fail)
    refine hm12.mono ?_
    rintro e w13 ⟨rfl, Ok13, B13, S13⟩
    have s13 := B13.size
    have HB13 : Hid (Below w.heap.size w w13) := HB12.out.trans (B13.mono (by omega))
    have hY13 := hidE (cells3 B13 (show w.heap.size < W5.heap.size by omega) hY12.out)
    have hV13 := hidE (cells3 B13 (show w3.heap.size < W5.heap.size by omega) hV12.out)
    have hU13 := hidE (cells3S S13 (Nat.le_refl _) lU12 hU12.out)
    have Hw13 := hidE (Hw12.out.same (below_sameIn B13 (by omega)))
    have Hk13 := hidE (Ok13.host)
    have hh13 := hheld _ _ _ _ w13 Hk13.out (by omega)
    have lU13 : w6.heap.size < w13.heap.size := by omega
    clear u0 u1 u2
    obtain ⟨u0, u1, u2⟩ := hU13.out
    clear hm12 B13 S13 Ok13 hY12 hV12 hU12 Hw12 Og12 hmkA
    go_wp2_with (fail)
    refine hh13.mono ?_
    rintro e w14 ⟨rfl, B14⟩
    have s14 := B14.size
    have HB14 : Hid (Below w.heap.size w w14) := HB13.out.trans (B14.mono (by omega))
    have hY14 := hidE (cells3 B14 (show w.heap.size < w13.heap.size by omega) hY13.out)
    have hV14 := hidE (cells3 B14 (show w3.heap.size < w13.heap.size by omega) hV13.out)
    have hU14 := hidE (cells3 B14 lU13 hU13.out)
    have Hw14 := hidE (Hw13.out.belowK B14 (by omega))
    have Hk14 := hidE (Hk13.out.belowK B14 (by omega))
    have hc14 := hTH.out w14 HB14.out
    have lY14 : w.heap.size < w14.heap.size := by omega
    clear u0 u1 u2
    obtain ⟨y0, y1, y2⟩ := hY14.out
    clear hh13 B14 hY13 hV13 hU13 Hw13 Hk13
    go_wp2_with (fail)
    refine hc14.mono ?_
    rintro e w15 ⟨f1, f2, rfl, O15, B15⟩
    have s15 := B15.size
    have HB15 : Hid (Below w.heap.size w w15) := HB14.out.trans (B15.mono (by omega))
    have hV15 := hidE (cells3 B15 (show w3.heap.size < w14.heap.size by omega) hV14.out)
    have hU15 := hidE (cells3 B15 (show w6.heap.size < w14.heap.size by omega) hU14.out)
    have Hw15 := hidE (Hw14.out.belowK B15 (by omega))
    have Hk15 := hidE (Hk14.out.belowK B15 (by omega))
    have hi15 := him _ _ _ _ w15 O15.host (Nat.le_refl _)
    clear hc14 B15 O15 him y0 y1 y2 hY14 hV14 hU14 Hw14 Hk14
    go_wp2_with (fail)
    refine hi15.mono ?_
    rintro e w16 ⟨ah, lh, ch, bh, mh, dh, rfl, Oh16, B16⟩
    have s16 := B16.size
    have HB16 : Hid (Below w.heap.size w w16) := HB15.out.trans (B16.mono (by omega))
    obtain ⟨W17, hW17⟩ : ∃ W17, W17 = w16.alloc (.cells #[.slice ah lh ch, .slice bh mh dh, .int .i64 hd] 27) := ⟨_, rfl⟩
    have C17 : Below w16.heap.size w16 W17 := by rw [hW17]; exact (Below.refl _ _).alloc (Nat.le_refl _) _
    have t17 : W17.heap.size = w16.heap.size + 1 := by rw [hW17]; simp
    have HB17 : Hid (Below w.heap.size w W17) := HB16.out.trans (C17.mono HB16.out.size)
    have hV16 := hidE (cells3 B16 (show w3.heap.size < w15.heap.size by omega) hV15.out)
    have hU17 := hidE (cells3 C17 (show w6.heap.size < w16.heap.size by omega) (cells3 B16 (show w6.heap.size < w15.heap.size by omega) hU15.out))
    have Hw17 := hidE ((Hw15.out.belowK B16 (by omega)).belowK C17 (by omega))
    have Hk17 := hidE ((Hk15.out.belowK B16 (by omega)).belowK C17 (by omega))
    have Oh17 := hidE (Oh16.belowK C17 (Nat.le_refl _))
    have he17 := heqA _ _ _ _ _ _ _ _ W17 Oh17.out.host Hw17.out (by omega) (by omega)
    obtain ⟨v0, v1, v2⟩ := hV16.out
    have lV16 : w3.heap.size < w16.heap.size := by omega
    clear hi15 B16 C17 Oh16 hV15 hU15 Hw15 Hk15
    go_wp2_with (fail)
    rw [← hW17]
    clear hW17
    refine he17.mono ?_
    rintro e w18 ⟨rfl, B18⟩
    have s18 := B18.size
    have HB18 : Hid (Below w.heap.size w w18) := HB17.out.trans (B18.mono (by omega))
    have hU18 := hidE (cells3 B18 (show w6.heap.size < W17.heap.size by omega) hU17.out)
    have Hk18 := hidE (Hk17.out.belowK B18 (by omega))
    have hh18 := hheld _ _ _ _ w18 Hk18.out (by omega)
    have lU18 : w6.heap.size < w18.heap.size := by omega
    obtain ⟨u0, u1, u2⟩ := hU18.out
    clear he17 B18 hU17 Hk17 Hw17 Oh17 v0 v1 v2
    go_wp2_with (fail)
    refine hh18.mono ?_
    rintro e w19 ⟨rfl, B19⟩
    have HB19 : Hid (Below w.heap.size w w19) := HB18.out.trans (B19.mono (by omega))
    clear hh18 B19
    go_wp2
    go_ret
    exact ⟨rfl, HB19.out⟩
end Go.Proofs.Ytdamdjhnhkmncaa
