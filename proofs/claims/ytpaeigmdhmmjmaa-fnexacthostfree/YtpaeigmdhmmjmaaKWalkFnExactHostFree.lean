/-
  The walk of the law FnExactHostFree: whatever the host, both functions give the same; the host is left as it was, and the answer lies in memory of its own.
-/
import Derived.Test.YtpaeigmdhmmjmaaKHostFree1
import Derived.Test.YtpaeigmdhmmjmaaKSzHost1
set_option linter.unusedSimpArgs false
namespace Go.Proofs.Ytpaeigmdhmmjmaa
open Go.RowKit

/-- A list of words that is a call's own, by its parts. -/
def OwnJ (w : World) (lo hi : Nat) (a : Option Addr) (L : Nat) (zs : List Int) : Prop := zs.length = L ∧ (L = 0 ∨ ∃ b, a = some ⟨b, 0, none⟩ ∧ lo ≤ b ∧ b < hi ∧ Ints w b 0 zs ∧ Room w b L)
theorem OwnI.parts {w : World} {lo hi : Nat} {v : Value} {zs : List Int} (h : OwnI w lo hi v zs) : ∃ a c, v = .slice a zs.length c ∧ OwnJ w lo hi a zs.length zs := by
  obtain ⟨a, c, e, hd⟩ := h
  exact ⟨a, c, e, rfl, hd⟩
theorem OwnJ.mem {w : World} {lo hi : Nat} {a : Option Addr} {L : Nat} {zs : List Int} (h : OwnJ w lo hi a L zs) : IsInts w lo hi a L zs := by
  obtain ⟨hl, hd⟩ := h
  rcases hd with h0 | ⟨b, e, h1, h2, h3, _⟩
  · exact ⟨hl, Or.inl h0⟩
  · exact ⟨hl, Or.inr ⟨b, 0, e, h1, h2, h3⟩⟩
theorem OwnJ.same {w w' : World} {lo hi : Nat} {a : Option Addr} {L : Nat} {zs : List Int} (h : OwnJ w lo hi a L zs) (s : SameIn lo hi w w') : OwnJ w' lo hi a L zs := by
  obtain ⟨hl, hd⟩ := h
  rcases hd with h0 | ⟨b, e, h1, h2, h3, h4⟩
  · exact ⟨hl, Or.inl h0⟩
  · exact ⟨hl, Or.inr ⟨b, e, h1, h2, fun i hi => (s.cell h1 h2).trans (h3 i hi), h4.same s h1 h2⟩⟩
theorem eqJ_same (lo hi lo' hi' : Nat) (a a' : Option Addr) (len cap cap' : Nat) (zs : List Int) (w : World) (h : IsInts w lo hi a len zs) (h' : IsInts w lo' hi' a' len zs) (hn : len ≤ 1048576) :
    Calls Try.prog 28 #[.slice a len cap, .slice a' len cap'] w fun e w' => e = .returned (.bool true) ∧ Below w.heap.size w w' := by
  refine (eqIntS_same lo hi lo' hi' a a' len cap cap' zs w h h' hn).mono ?_
  rintro e w' ⟨rfl, m, rfl⟩
  refine ⟨rfl, ?_⟩
  (repeat' (with_reducible (first | exact Below.refl _ _ | apply Below.setCell | apply Below.alloc | apply below_drewN | apply Below.drew | refine Below.trans ?_ (Below.mono (by assumption) ?_)))) <;> (first | exact Nat.le_refl _ | (simp; done) | (simp; omega) | (simp at *; omega))
set_option maxHeartbeats 1000000 in
theorem markIntS_zero (a : Option Addr) (cap k0 : Nat) (w : World) :
    Calls Try.prog 29 #[.slice a 0 cap, .int .i64 k0] w fun e w' => e = .returned (.int .i64 (k0 : Int)) ∧ w' = w := by
  go_enter Try.func29, Try.ntmps29
  go_wp2
  go_loopw [1, 5] (fun n i wr => i = .int .i64 0 ∧ n = .int .i64 (k0 : Int) ∧ wr = w) (fun _ _ _ => 0)
  case atStart => exact ⟨rfl, rfl, rfl⟩
  case round =>
    obtain ⟨rfl, rfl, rfl⟩ := hrel
    go_wp2
    go_ret
    exact ⟨rfl, rfl⟩
theorem markJ (lo hi : Nat) (a : Option Addr) (L cap k0 : Nat) (zs : List Int) (w : World) (h : OwnJ w lo hi a L zs) (hn : L ≤ 1000) (hk0 : k0 ≤ 1000) :
    Calls Try.prog 29 #[.slice a L cap, .int .i64 k0] w fun e w' => e = .returned (.int .i64 ((k0 + L : Nat) : Int)) ∧ OwnJ w' lo hi a L (mk k0 L) ∧ Amid lo hi w w' := by
  obtain ⟨hl, hd⟩ := h
  rcases hd with h0 | ⟨b, rfl, h1, h2, h3, h4⟩
  · subst h0
    refine (markIntS_zero a cap k0 w).mono ?_
    rintro e w' ⟨rfl, rfl⟩
    exact ⟨rfl, ⟨mk_len _ _, Or.inl rfl⟩, Amid.refl _ _ _⟩
  · refine (markIntS_any b L cap k0 w h4 (by omega) (by omega)).mono ?_
    rintro e w' ⟨rfl, g1, g2, g3⟩
    exact ⟨rfl, ⟨mk_len _ _, Or.inr ⟨b, rfl, h1, h2, g1, g2⟩⟩, g3.wide h1 (by omega)⟩

set_option maxRecDepth 100000 in
set_option maxHeartbeats 16000000 in
theorem walk_FnExactHostFree (vf vg : Value) (h : Hst) (w : World) (hA : ArgHost w vf vg h) :
    Calls Try.prog 7 #[.agg #[vf, vg, .int .i64 h.hand]] w fun e w' => e = .returned (.bool true) ∧ Below w.heap.size w w' := by
  obtain ⟨hH, hL, hwf⟩ := hA
  have hH' := hH
  obtain ⟨⟨a1, c1, rfl, _⟩, a2, c2, rfl, _⟩ := hH'
  obtain ⟨W0, hW0⟩ : ∃ W0, W0 = w.alloc (.cells #[.slice a1 h.frames.length c1, .slice a2 h.guests.length c2, .int .i64 h.hand] 33) := ⟨_, rfl⟩
  have B0 : Below w.heap.size w W0 := by rw [hW0]; exact (Below.refl _ _).alloc (Nat.le_refl _) _
  have s0 : w.heap.size < W0.heap.size := by rw [hW0]; simp
  have x0 : W0.cell? ⟨w.heap.size, 0, none⟩ = some (.slice a1 h.frames.length c1) ∧ W0.cell? ⟨w.heap.size, 1, none⟩ = some (.slice a2 h.guests.length c2) ∧ W0.cell? ⟨w.heap.size, 2, none⟩ = some (.int .i64 h.hand) := by rw [hW0]; simp
  have hc0 := szHost_m 0 w.heap.size _ _ h W0 (hH.same (below_sameIn B0 (Nat.le_refl _))) B0.size hL h.hand
  have hlater : ∀ W' : World, Below w.heap.size w W' → HostIn W' 0 w.heap.size (.slice a1 h.frames.length c1) (.slice a2 h.guests.length c2) h := fun W' B => hH.same (below_sameIn B (Nat.le_refl _))
  have hs6 := freeH_len h
  clear hH hL
  go_enter Try.func7, Try.ntmps7
  generalize hlf : h.frames.length = lf at *
  generalize hlg : h.guests.length = lg at *
  go_wp2_with (fail)
  rw [← hW0]
  clear hW0
  refine hc0.mono ?_
  rintro e w1 ⟨B1, he⟩
  have HB1 : Hid (Below w.heap.size w w1) := B0.trans (B1.mono B0.size)
  have s1 := B1.size
  obtain ⟨y0, y1, y2⟩ := cells3 B1 s0 x0
  clear hc0 B1 B0 x0
  rcases he with rfl | ⟨m, rfl, hS, hcnt⟩
  · go_wp2
    go_ret
    exact ⟨rfl, HB1.out⟩
  have hno : ¬ (m : Int) < 0 := by omega
  have hT := fun (W' : World) (B : Below w.heap.size w W') => toHost_any 0 w.heap.size _ _ h W' (hlater W' B) B.size hS
  rw [hlf, hlg] at hT
  clear hlater
  have hsp := fun lo hi af ag w hH hh => specHostFree lo hi af ag lf lf lg lg h w hH hlf hlg hh hS
  have him := fun lo hi af ag w hH hh => implHostFree lo hi af ag lf lf lg lg h w hH hh (by rw [hlg]; exact hwf)
  have hmk := fun lo hi k0 vf vg w hO hlo hh hk0 => markHost_any lo hi k0 vf vg h h.hand w hO hlo hh hS hcnt hk0
  have heq := fun lo hi lo' hi' vf vg vf' vg' w k k' hh hh' => eqHost_same lo hi lo' hi' vf vg vf' vg' h w k k' hh hh' hS h.hand
  clear hwf
  generalize freeH h = sm at *
  generalize hsm : sm.length = L at *
  generalize cntH h = cn at *
  have hneg : ¬ ((1 + cn : Nat) : Int) < 0 := by omega
  have hneg2 : ¬ ((1 + L : Nat) : Int) < 0 := by omega
  have hc1 := hT w1 HB1.out
  go_wp2_with (fail)
  refine hc1.mono ?_
  rintro e w2 ⟨b1, b2, rfl, hO2, B2⟩
  have s2 := B2.size
  have HB2 : Hid (Below w.heap.size w w2) := HB1.out.trans (B2.mono HB1.out.size)
  have hs := hsp w1.heap.size w2.heap.size _ _ w2 hO2.host (Nat.le_refl _)
  have y := cells3 B2 (show w.heap.size < w1.heap.size by omega) ⟨y0, y1, y2⟩
  clear hc1 hO2 B2 hsp y0 y1 y2
  go_wp2_with (fail)
  refine hs.mono ?_
  rintro e w3 ⟨vw3, rfl, MwZ, B3⟩
  obtain ⟨aw, cw, rfl, Mw⟩ := MwZ.parts
  rw [hsm] at Mw
  clear MwZ
  have Mw := Mw.mem
  have s3 := B3.size
  have HB3 : Hid (Below w.heap.size w w3) := HB2.out.trans (B3.mono HB2.out.size)
  have y := cells3 B3 (show w.heap.size < w2.heap.size by omega) y
  obtain ⟨y0, y1, y2⟩ := y
  have hc3 := hT w3 HB3.out
  have l3 : w.heap.size < w3.heap.size := by omega
  clear hs B3
  go_wp2_with (fail)
  refine hc3.mono ?_
  rintro e w4 ⟨d1, d2, rfl, O4, B4⟩
  have s4 := B4.size
  have HB4 : Hid (Below w.heap.size w w4) := HB3.out.trans (B4.mono HB3.out.size)
  obtain ⟨W5, hW5⟩ : ∃ W5, W5 = w4.alloc (.cells #[.slice (some ⟨d1, 0, none⟩) lf lf, .slice (some ⟨d2, 0, none⟩) lg lg, .int .i64 h.hand] 25) := ⟨_, rfl⟩
  have B5 : Below w4.heap.size w4 W5 := by rw [hW5]; exact (Below.refl _ _).alloc (Nat.le_refl _) _
  have s5 : w4.heap.size < W5.heap.size := by rw [hW5]; simp
  have HB5 : Hid (Below w.heap.size w W5) := HB4.out.trans (B5.mono HB4.out.size)
  have x5 : W5.cell? ⟨w4.heap.size, 0, none⟩ = some (.slice (some ⟨d1, 0, none⟩) lf lf) ∧ W5.cell? ⟨w4.heap.size, 1, none⟩ = some (.slice (some ⟨d2, 0, none⟩) lg lg) ∧ W5.cell? ⟨w4.heap.size, 2, none⟩ = some (.int .i64 h.hand) := by rw [hW5]; simp
  have y5 := cells3 B5 (show w.heap.size < w4.heap.size by omega) (cells3 B4 l3 ⟨y0, y1, y2⟩)
  have O5 := O4.belowK B5 (Nat.le_refl _)
  have Mw5 := (Mw.same (below_sameIn B4 (Nat.le_refl _))).same (below_sameIn B5 s4)
  have hi5 := him w3.heap.size w4.heap.size _ _ W5 O5.host (Nat.le_of_lt s5)
  clear hc3 O4 B4 B5 Mw y0 y1 y2
  go_wp2_with (fail)
  rw [← hW5]
  clear hW5
  refine hi5.mono ?_
  rintro e w6 ⟨vw6, rfl, MgZ, B6⟩
  obtain ⟨ag, cg, rfl, Mg⟩ := MgZ.parts
  rw [hsm] at Mg
  clear MgZ
  have s6 := B6.size
  have HB6 : Hid (Below w.heap.size w w6) := HB5.out.trans (B6.mono HB5.out.size)
  have x6 := cells3 B6 s5 x5
  have y6 := cells3 B6 (show w.heap.size < W5.heap.size by omega) y5
  have O6 := O5.belowK B6 (Nat.le_of_lt s5)
  have Mw6 := Mw5.same (below_sameIn B6 (show w3.heap.size ≤ W5.heap.size by omega))
  have he6 := eqJ_same _ _ _ _ ag aw L cg cw sm w6 Mg.mem Mw6 (by omega)
  clear hi5 B6 x5 y5 O5 Mw5
  go_wp2_with (fail)
  refine he6.mono ?_
  rintro e w7 ⟨rfl, B7⟩
  have s7 := B7.size
  have HB7 : Hid (Below w.heap.size w w7) := HB6.out.trans (B7.mono HB6.out.size)
  have x7 := cells3 B7 (show w4.heap.size < w6.heap.size by omega) x6
  have y7 := cells3 B7 (show w.heap.size < w6.heap.size by omega) y6
  have O7 := O6.belowK B7 (show w4.heap.size ≤ w6.heap.size by omega)
  have Mw7 := Mw6.same (below_sameIn B7 (show w3.heap.size ≤ w6.heap.size by omega))
  have Mg7 := Mg.same (below_sameIn B7 (Nat.le_refl _))
  clear he6 B7 x6 y6 O6 Mw6 Mg
  have hc7 := hT w7.drew HB7.out.drew
  have hT7 : Calls Try.prog 15 #[.agg #[.slice a1 lf c1, .slice a2 lg c2, .int .i64 h.hand]] w7.drew fun e w' => ∃ b1 b2, e = .returned (.agg #[.slice (some ⟨b1, 0, none⟩) lf lf, .slice (some ⟨b2, 0, none⟩) lg lg, .int .i64 h.hand]) ∧ w'.cell? ⟨w4.heap.size, 0, none⟩ = some (.slice (some ⟨d1, 0, none⟩) lf lf) ∧ w'.cell? ⟨w4.heap.size, 1, none⟩ = some (.slice (some ⟨d2, 0, none⟩) lg lg) ∧ w'.cell? ⟨w4.heap.size, 2, none⟩ = some (.int .i64 h.hand) ∧
      Calls Try.prog 10 #[.agg #[.slice (some ⟨d1, 0, none⟩) lf lf, .slice (some ⟨d2, 0, none⟩) lg lg, .int .i64 h.hand], .agg #[.slice (some ⟨b1, 0, none⟩) lf lf, .slice (some ⟨b2, 0, none⟩) lg lg, .int .i64 h.hand]] w' fun e w'' => e = .returned (.bool true) ∧ Hid (Below w7.heap.size w7 w'') := by
    refine hc7.mono ?_
    rintro e w8 ⟨b1, b2, rfl, hO8, B8⟩
    have s8 := B8.size
    rw [World.size_drew] at s8
    have B8' : Below w7.heap.size w7 w8 := ⟨B8.os, B8.tape, B8.output, s8, fun k hk => B8.block k (by rw [World.size_drew]; exact hk)⟩
    obtain ⟨q0, q1, q2⟩ := cells3 B8' (show w4.heap.size < w7.heap.size by omega) x7
    refine ⟨b1, b2, rfl, q0, q1, q2, ?_⟩
    refine (heq w3.heap.size w4.heap.size _ w8.heap.size _ _ _ _ w8 (O7.host.belowK B8' (by omega)) hO8.host (by omega) (Nat.le_refl _)).mono ?_
    rintro e w9 ⟨rfl, B9⟩
    exact ⟨rfl, B8'.trans (B9.mono s8)⟩
  have HX7 : Hid (w7.cell? ⟨w4.heap.size, 0, none⟩ = some (.slice (some ⟨d1, 0, none⟩) lf lf) ∧ w7.cell? ⟨w4.heap.size, 1, none⟩ = some (.slice (some ⟨d2, 0, none⟩) lg lg) ∧ w7.cell? ⟨w4.heap.size, 2, none⟩ = some (.int .i64 h.hand)) := x7
  have HY7 : Hid (w7.cell? ⟨w.heap.size, 0, none⟩ = some (.slice a1 lf c1) ∧ w7.cell? ⟨w.heap.size, 1, none⟩ = some (.slice a2 lg c2) ∧ w7.cell? ⟨w.heap.size, 2, none⟩ = some (.int .i64 h.hand)) := y7
  obtain ⟨x70, x71, x72⟩ := x7
  obtain ⟨y70, y71, y72⟩ := y7
  have l4 : w4.heap.size < w7.heap.size := by omega
  have l0 : w.heap.size < w7.heap.size := by omega
  have HO7 : Hid (OwnHost w7 w3.heap.size w4.heap.size (.slice (some ⟨d1, 0, none⟩) lf lf) (.slice (some ⟨d2, 0, none⟩) lg lg) h) := O7
  have HMw7 : Hid (IsInts w7 w2.heap.size w3.heap.size aw L sm) := Mw7
  have HMg7 : Hid (OwnJ w7 W5.heap.size w6.heap.size ag L sm) := Mg7
  have Hhyp : Hid (∀ (W' : World), Below w.heap.size w W' → Calls Try.prog 15 #[.agg #[.slice a1 lf c1, .slice a2 lg c2, .int .i64 h.hand]] W' fun e w' => ∃ b1 b2, e = .returned (.agg #[.slice (some ⟨b1, 0, none⟩) lf lf, .slice (some ⟨b2, 0, none⟩) lg lg, .int .i64 h.hand]) ∧ OwnHost w' W'.heap.size w'.heap.size (.slice (some ⟨b1, 0, none⟩) lf lf) (.slice (some ⟨b2, 0, none⟩) lg lg) h ∧ Below W'.heap.size W' w') := hT
  clear hc7 O7 Mw7 Mg7 heq hT
  go_wp2_with (fail)
  go_region_with (first | (go_at_call 15; refine hT7.mono ?_; rintro e w8 ⟨b1, b2, rfl, z0, z1, z2, hE⟩) | (go_at_call 10; refine hE.mono ?_; rintro e w9 ⟨rfl, HB9⟩))
  all_goals
    have B9 := HB9.out
    have s9 := B9.size
    have HB9w : Hid (Below w.heap.size w w9) := HB7.out.trans (B9.mono HB7.out.size)
    obtain ⟨x90, x91, x92⟩ := cells3 B9 l4 HX7.out
    have y9 := cells3 B9 l0 HY7.out
    have O9 := HO7.out.belowK B9 (show w4.heap.size ≤ w7.heap.size by omega)
    have Mw9 := HMw7.out.same (below_sameIn B9 (show w3.heap.size ≤ w7.heap.size by omega))
    have Mg9 := HMg7.out.same (below_sameIn B9 (show w6.heap.size ≤ w7.heap.size by omega))
    have hm9 := hmk w3.heap.size w4.heap.size 1 _ _ w9 O9 s4 (by omega) (by omega)
    have l9 : w4.heap.size < w9.heap.size := by omega
    try clear hT7 hE
    try clear z0 z1 z2
    clear HX7 HY7 HO7 HMw7 HMg7 B9 O9 hmk x70 x71 x72 y70 y71 y72
    go_wp2_with (fail)
    refine hm9.mono ?_
    rintro e w10 ⟨rfl, _, B10, S10⟩
    have s10 := B10.size
    have HB10 : Hid (Below w.heap.size w w10) := HB9w.out.trans (B10.mono (by omega))
    have y10 := cells3 B10 l3 y9
    have Mw10 := Mw9.same (below_sameIn B10 (Nat.le_refl _))
    have Mg10 := Mg9.same (S10.part (show w4.heap.size ≤ W5.heap.size by omega) (show w6.heap.size ≤ w9.heap.size by omega))
    have he10 := eqJ_same _ _ _ _ ag aw L cg cw sm w10 Mg10.mem Mw10 (by omega)
    clear hm9 B10 S10 Mw9 Mg9 y9 x90 x91 x92
    go_wp2_with (fail)
    refine he10.mono ?_
    rintro e w11 ⟨rfl, B11⟩
    have s11 := B11.size
    have HB11 : Hid (Below w.heap.size w w11) := HB10.out.trans (B11.mono (by omega))
    have y11 := cells3 B11 (show w.heap.size < w10.heap.size by omega) y10
    have Mw11 := Mw10.same (below_sameIn B11 (show w3.heap.size ≤ w10.heap.size by omega))
    have Mg11 := Mg10.same (below_sameIn B11 (show w6.heap.size ≤ w10.heap.size by omega))
    have hm11 := markJ _ _ ag L cg 1 sm w11 Mg11 (by omega) (by omega)
    clear he10 B11 Mw10 Mg10 y10
    go_wp2_with (fail)
    refine hm11.mono ?_
    rintro e w12 ⟨rfl, Mk, A12⟩
    have s12 := A12.size
    have HB12 : Hid (Below w.heap.size w w12) := HB11.out.trans (A12.below (by omega))
    have y12 := cells3 (A12.below (Nat.le_refl _)) (show w.heap.size < W5.heap.size by omega) y11
    have Mw12 := Mw11.same (A12.same (Or.inl (by omega)))
    have hh12 := heldIntS_any _ _ ag L cg 1 w12 Mk.mem (by omega) (by omega)
    have hc12 := Hhyp.out w12 HB12.out
    have l12 : w.heap.size < w12.heap.size := by omega
    obtain ⟨y120, y121, y122⟩ := y12
    clear hm11 A12 Mw11 Mg11 y11
    go_wp2_with (fail)
    refine hh12.mono ?_
    rintro e w13 ⟨rfl, rfl⟩
    go_wp2_with (fail)
    refine hc12.mono ?_
    rintro e w14 ⟨f1, f2, rfl, O14, B14⟩
    have s14 := B14.size
    have HB14 : Hid (Below w.heap.size w w14) := HB12.out.trans (B14.mono (by omega))
    have Mw14 := Mw12.same (below_sameIn B14 (show w3.heap.size ≤ w13.heap.size by omega))
    have Mk14 := Mk.same (below_sameIn B14 (show w6.heap.size ≤ w13.heap.size by omega))
    have hi14 := him _ _ _ _ w14 O14.host (Nat.le_refl _)
    clear hc12 hh12 B14 Mw12 Mk O14 him y120 y121 y122
    go_wp2_with (fail)
    refine hi14.mono ?_
    rintro e w15 ⟨vw15, rfl, MhZ, B15⟩
    obtain ⟨ah, ch, rfl, Mh⟩ := MhZ.parts
    rw [hsm] at Mh
    clear MhZ
    have s15 := B15.size
    have HB15 : Hid (Below w.heap.size w w15) := HB14.out.trans (B15.mono (by omega))
    have Mw15 := Mw14.same (below_sameIn B15 (show w3.heap.size ≤ w14.heap.size by omega))
    have Mk15 := Mk14.same (below_sameIn B15 (show w6.heap.size ≤ w14.heap.size by omega))
    have he15 := eqJ_same _ _ _ _ ah aw L ch cw sm w15 Mh.mem Mw15 (by omega)
    clear hi14 B15 Mw14 Mk14
    go_wp2_with (fail)
    refine he15.mono ?_
    rintro e w16 ⟨rfl, B16⟩
    have HB16 : Hid (Below w.heap.size w w16) := HB15.out.trans (B16.mono (by omega))
    have Mk16 := Mk15.same (below_sameIn B16 (show w6.heap.size ≤ w15.heap.size by omega))
    have hh16 := heldIntS_any _ _ ag L cg 1 w16 Mk16.mem (by omega) (by omega)
    clear he15 B16 Mk15 Mw15 Mh
    go_wp2_with (fail)
    refine hh16.mono ?_
    rintro e w17 ⟨rfl, rfl⟩
    clear hh16
    go_wp2
    go_ret
    exact ⟨rfl, HB16.out⟩
end Go.Proofs.Ytpaeigmdhmmjmaa
