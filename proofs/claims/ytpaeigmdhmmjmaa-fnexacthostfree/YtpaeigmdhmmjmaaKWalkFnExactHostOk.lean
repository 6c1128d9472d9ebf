/-
  The walk of the law FnExactHostOk: whatever the host, both functions give the same, and the host is left as it was.
-/
import Derived.Test.YtpaeigmdhmmjmaaKHostArg0
import Derived.Test.YtpaeigmdhmmjmaaKToHost2
import Derived.Test.YtpaeigmdhmmjmaaKHostOk1
import Derived.Test.YtpaeigmdhmmjmaaKH
import Derived.Test.YtpaeigmdhmmjmaaKM
set_option linter.unusedSimpArgs false
namespace Go.Proofs.Ytpaeigmdhmmjmaa
open Go.RowKit

/-- Three cells of a block, kept. -/
theorem cells3 {N : Nat} {w w' : World} (hB : Below N w w') {b : Nat} (hb : b < N) {v0 v1 v2 : Value} (h : w.cell? ⟨b, 0, none⟩ = some v0 ∧ w.cell? ⟨b, 1, none⟩ = some v1 ∧ w.cell? ⟨b, 2, none⟩ = some v2) : w'.cell? ⟨b, 0, none⟩ = some v0 ∧ w'.cell? ⟨b, 1, none⟩ = some v1 ∧ w'.cell? ⟨b, 2, none⟩ = some v2 :=
  ⟨(hB.cell (p := ⟨b, 0, none⟩) hb).trans h.1, (hB.cell (p := ⟨b, 1, none⟩) hb).trans h.2.1, (hB.cell (p := ⟨b, 2, none⟩) hb).trans h.2.2⟩

theorem HostIn.parts {w : World} {lo hi : Nat} {af ag : Option Addr} {lf cf n cg : Nat} {h : Hst} (k : HostIn w lo hi (.slice af lf cf) (.slice ag n cg) h) : IsMem w lo hi af lf h.frames ∧ IsGuests w lo hi ag n h.guests := by
  obtain ⟨⟨a, c, e1, hF⟩, a', c', e2, hG⟩ := k
  cases e1
  cases e2
  exact ⟨hF, hG⟩

set_option maxRecDepth 100000 in
set_option maxHeartbeats 8000000 in
theorem walk_FnExactHostOk (vf vg : Value) (h : Hst) (w : World) (hA : ArgHost w vf vg h) :
    Calls Try.prog 4 #[.agg #[vf, vg, .int .i64 h.hand]] w fun e w' => e = .returned (.bool true) ∧ Below w.heap.size w w' := by
  obtain ⟨hH, hL, hwf⟩ := hA
  have hH' := hH
  obtain ⟨⟨a1, c1, rfl, _⟩, a2, c2, rfl, _⟩ := hH'
  obtain ⟨W0, hW0⟩ : ∃ W0, W0 = w.alloc (.cells #[.slice a1 h.frames.length c1, .slice a2 h.guests.length c2, .int .i64 h.hand] 33) := ⟨_, rfl⟩
  have B0 : Below w.heap.size w W0 := by rw [hW0]; exact (Below.refl _ _).alloc (Nat.le_refl _) _
  have s0 : w.heap.size < W0.heap.size := by rw [hW0]; simp
  have x0 : W0.cell? ⟨w.heap.size, 0, none⟩ = some (.slice a1 h.frames.length c1) ∧ W0.cell? ⟨w.heap.size, 1, none⟩ = some (.slice a2 h.guests.length c2) ∧ W0.cell? ⟨w.heap.size, 2, none⟩ = some (.int .i64 h.hand) := by rw [hW0]; simp
  have hc0 := szHost_any 0 w.heap.size _ _ h W0 (hH.same (below_sameIn B0 (Nat.le_refl _))) B0.size hL h.hand
  have hlater : ∀ W' : World, Below w.heap.size w W' → HostIn W' 0 w.heap.size (.slice a1 h.frames.length c1) (.slice a2 h.guests.length c2) h := fun W' B => hH.same (below_sameIn B (Nat.le_refl _))
  clear hH hL
  go_enter Try.func4, Try.ntmps4
  generalize hlf : h.frames.length = lf at *
  generalize hlg : h.guests.length = lg at *
  go_wp2_with (fail)
  rw [← hW0]
  clear hW0
  refine hc0.mono ?_
  rintro e w1 ⟨B1, he⟩
  have HB1 : Hid (Below w.heap.size w w1) := B0.trans (B1.mono B0.size)
  have s1 := B1.size
  obtain ⟨y0, y1, y2⟩ := cells3 B1 s0 x0
  clear hc0 B1 B0 x0
  rcases he with rfl | ⟨m, rfl, hS⟩
  · go_wp2
    go_ret
    exact ⟨rfl, HB1.out⟩
  have hno : ¬ (m : Int) < 0 := by omega
  have hT := fun (W' : World) (B : Below w.heap.size w W') => toHost_any 0 w.heap.size _ _ h W' (hlater W' B) B.size hS
  rw [hlf, hlg] at hT
  clear hlater
  have hc1 := hT w1 HB1.out
  go_wp2_with (fail)
  refine hc1.mono ?_
  rintro e w2 ⟨b1, b2, rfl, hO2, B2⟩
  have hI2 := hO2.host
  obtain ⟨hF2, hG2⟩ := hI2.parts
  have s2 := B2.size
  have HB2 : Hid (Below w.heap.size w w2) := HB1.out.trans (B2.mono HB1.out.size)
  have hs := hostOk_core w1.heap.size w2.heap.size _ _ lf lf lg lg h w2 hlf hF2 hlg hG2 (Nat.le_refl _) hS
  obtain ⟨y0, y1, y2⟩ := cells3 B2 (show w.heap.size < w1.heap.size by omega) ⟨y0, y1, y2⟩
  clear hc1 hO2 hI2 B2 hF2 hG2
  go_wp2_with (fail)
  refine hs.mono ?_
  rintro e w3 ⟨rfl, B3⟩
  have s3 := B3.size
  have HB3 : Hid (Below w.heap.size w w3) := HB2.out.trans (B3.mono HB2.out.size)
  obtain ⟨y0, y1, y2⟩ := cells3 B3 (show w.heap.size < w2.heap.size by omega) ⟨y0, y1, y2⟩
  have hc3 := hT w3 HB3.out
  clear hs B3
  go_wp2_with (fail)
  refine hc3.mono ?_
  rintro e w4 ⟨d1, d2, rfl, hO4, B4⟩
  have s4 := B4.size
  have HB4 : Hid (Below w.heap.size w w4) := HB3.out.trans (B4.mono HB3.out.size)
  obtain ⟨W5, hW5⟩ : ∃ W5, W5 = w4.alloc (.cells #[.slice (some ⟨d1, 0, none⟩) lf lf, .slice (some ⟨d2, 0, none⟩) lg lg, .int .i64 h.hand] 25) := ⟨_, rfl⟩
  have s5 : W5.heap.size = w4.heap.size + 1 := by rw [hW5]; simp
  have B5 : Below w4.heap.size w4 W5 := by rw [hW5]; exact (Below.refl _ _).alloc (Nat.le_refl _) _
  have HB5 : Hid (Below w.heap.size w W5) := HB4.out.trans (B5.mono HB4.out.size)
  have x5 : W5.cell? ⟨w4.heap.size, 0, none⟩ = some (.slice (some ⟨d1, 0, none⟩) lf lf) ∧ W5.cell? ⟨w4.heap.size, 1, none⟩ = some (.slice (some ⟨d2, 0, none⟩) lg lg) ∧ W5.cell? ⟨w4.heap.size, 2, none⟩ = some (.int .i64 h.hand) := by rw [hW5]; simp
  have y5 := cells3 B5 (show w.heap.size < w4.heap.size by omega) (cells3 B4 (show w.heap.size < w3.heap.size by omega) ⟨y0, y1, y2⟩)
  have hI5 := hO4.host.belowK B5 (Nat.le_refl _)
  have hi5 := implHostOk w3.heap.size w4.heap.size _ _ lf lf lg lg h W5 hI5 (by omega) (by rw [hlg]; exact hwf)
  clear hc3 hO4 B4 B5
  go_wp2_with (fail)
  rw [← hW5]
  clear hW5
  refine hi5.mono ?_
  rintro e w6 ⟨rfl, B6⟩
  have s6 := B6.size
  have HB6 : Hid (Below w.heap.size w w6) := HB5.out.trans (B6.mono HB5.out.size)
  have x6 := cells3 B6 (show w4.heap.size < W5.heap.size by omega) x5
  obtain ⟨y0, y1, y2⟩ := cells3 B6 (show w.heap.size < W5.heap.size by omega) y5
  have hI6 := hI5.belowK B6 (by omega)
  have hc6 := hT w6.drew HB6.out.drew
  have hT6 : Calls Try.prog 15 #[.agg #[.slice a1 lf c1, .slice a2 lg c2, .int .i64 h.hand]] w6.drew fun e w' => ∃ b1 b2, e = .returned (.agg #[.slice (some ⟨b1, 0, none⟩) lf lf, .slice (some ⟨b2, 0, none⟩) lg lg, .int .i64 h.hand]) ∧ w'.cell? ⟨w4.heap.size, 0, none⟩ = some (.slice (some ⟨d1, 0, none⟩) lf lf) ∧ w'.cell? ⟨w4.heap.size, 1, none⟩ = some (.slice (some ⟨d2, 0, none⟩) lg lg) ∧ w'.cell? ⟨w4.heap.size, 2, none⟩ = some (.int .i64 h.hand) ∧
      Calls Try.prog 10 #[.agg #[.slice (some ⟨d1, 0, none⟩) lf lf, .slice (some ⟨d2, 0, none⟩) lg lg, .int .i64 h.hand], .agg #[.slice (some ⟨b1, 0, none⟩) lf lf, .slice (some ⟨b2, 0, none⟩) lg lg, .int .i64 h.hand]] w' fun e w'' => e = .returned (.bool true) ∧ Hid (Below w.heap.size w w'') := by
    refine hc6.mono ?_
    rintro e w7 ⟨b1, b2, rfl, hO7, B7⟩
    have s7 := B7.size
    rw [World.size_drew] at s7
    have B7' : Below w6.heap.size w6 w7 := ⟨B7.os, B7.tape, B7.output, s7, fun k hk => B7.block k (by rw [World.size_drew]; exact hk)⟩
    obtain ⟨q0, q1, q2⟩ := cells3 B7' (show w4.heap.size < w6.heap.size by omega) x6
    refine ⟨b1, b2, rfl, q0, q1, q2, ?_⟩
    refine (eqHost_same w3.heap.size w4.heap.size _ w7.heap.size _ _ _ _ h w7 (hI6.belowK B7' (by omega)) hO7.host (by omega) (Nat.le_refl _) hS h.hand).mono ?_
    rintro e w8 ⟨rfl, B8⟩
    have b67 := HB6.out.trans (B7'.mono HB6.out.size)
    exact ⟨rfl, b67.trans (B8.mono b67.size)⟩
  obtain ⟨x60, x61, x62⟩ := x6
  have l4 : w4.heap.size < w6.heap.size := by omega
  have l0 : w.heap.size < w6.heap.size := by omega
  clear hi5 hT hc6 hI6 hI5 B6 x5 y5 hS hwf
  generalize okHost h = ok at *
  go_wp2_with (fail)
  go_region_with (first | (go_at_call 15; refine hT6.mono ?_; rintro e w7 ⟨b1, b2, rfl, z0, z1, z2, hE⟩) | (go_at_call 10; refine hE.mono ?_; rintro e w8 ⟨rfl, HB8⟩))
  all_goals
    go_wp2
    go_ret
    exact ⟨rfl, HB8.out⟩
end Go.Proofs.Ytpaeigmdhmmjmaa
