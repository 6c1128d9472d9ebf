/-
  What the laws' own comparing of hosts does where both hold the same.
-/
import Derived.Test.YtdamdjhnhkmncaaKA
import Derived.Test.YtdamdjhnhkmncaaKE
namespace Go.Proofs.Ytdamdjhnhkmncaa
open Go.RowKit

/-- How great a host may be that is looked at. -/
def SmallG (g : Gst) : Prop := g.maps.length ≤ 1048576 ∧ g.shades.length ≤ 1048576 ∧ g.disk.length ≤ 1048576 ∧ ∀ j, j < g.disk.length → (g.disk.getD j []).length ≤ 1048576
def SmallH (h : Hst) : Prop := h.frames.length ≤ 1048576 ∧ (∀ i, i < h.frames.length → (h.frames.getD i []).length ≤ 1048576) ∧ h.guests.length ≤ 1048576 ∧ ∀ i, i < h.guests.length → SmallG (h.guests.getD i noG)

set_option maxHeartbeats 400000 in
theorem eqMap_same (h : Bool) (p : Int) (b : Bool) (w : World) :
    Calls Try.prog 148 #[.agg #[.bool h, .int .i64 p, .bool b], .agg #[.bool h, .int .i64 p, .bool b]] w fun e w' => e = .returned (.bool true) ∧ ∃ o1 o2, w' = (w.alloc o1).alloc o2 := by
  go_enter Try.func148, Try.ntmps148
  go_wp2
  go_ret
  exact ⟨rfl, _, _, rfl⟩
set_option maxHeartbeats 400000 in
theorem eqShade_same (h : Bool) (p f : Int) (b : Bool) (w : World) :
    Calls Try.prog 149 #[.agg #[.bool h, .int .i64 p, .int .i64 f, .bool b], .agg #[.bool h, .int .i64 p, .int .i64 f, .bool b]] w fun e w' => e = .returned (.bool true) ∧ ∃ o1 o2, w' = (w.alloc o1).alloc o2 := by
  go_enter Try.func149, Try.ntmps149
  go_wp2
  go_ret
  exact ⟨rfl, _, _, rfl⟩

set_option maxHeartbeats 1000000 in
theorem eqMapS_same (lo hi lo' hi' : Nat) (a a' : Option Addr) (len cap cap' : Nat) (es : List E3) (w : World) (h : IsMaps w lo hi a len es) (h' : IsMaps w lo' hi' a' len es) (hh : hi ≤ w.heap.size) (hh' : hi' ≤ w.heap.size) (hm : len ≤ 1048576) :
    Calls Try.prog 134 #[.slice a len cap, .slice a' len cap'] w fun e w' => e = .returned (.bool true) ∧ Below w.heap.size w w' := by
  go_enter Try.func134, Try.ntmps134
  go_wp2
  go_loopw [5] (fun i wr => ∃ k : Nat, k ≤ len ∧ i = .int .i64 k ∧ Below w.heap.size w wr) (fun i _ => len - (intOf i).toNat)
  case atStart => exact ⟨0, Nat.zero_le _, rfl, Below.refl _ _⟩
  case round =>
    obtain ⟨k, hk, rfl, hB⟩ := hrel
    have hs := hB.size
    by_cases hlt : k < len
    · obtain ⟨b, o, rfl, _, hb2, q0, q1, q2⟩ := h.get hlt
      obtain ⟨b', o', rfl, _, hb2', r0, r1, r2⟩ := h'.get hlt
      generalize es.getD k noM = ek at q0 q1 q2 r0 r1 r2
      obtain ⟨eh, ep, eb⟩ := ek
      have hb : b < w.heap.size := by omega
      have hb' : b' < w.heap.size := by omega
      have c0 := (hB.cell (p := ⟨b, o + k * 3, none⟩) hb).trans q0
      have c1 := (hB.cell (p := ⟨b, o + k * 3 + 1, none⟩) hb).trans q1
      have c2 := (hB.cell (p := ⟨b, o + k * 3 + 2, none⟩) hb).trans q2
      have d0 := (hB.cell (p := ⟨b', o' + k * 3, none⟩) hb').trans r0
      have d1 := (hB.cell (p := ⟨b', o' + k * 3 + 1, none⟩) hb').trans r1
      have d2 := (hB.cell (p := ⟨b', o' + k * 3 + 2, none⟩) hb').trans r2
      have hlti : (k : Int) < (len : Int) := by omega
      clear q0 q1 q2 r0 r1 r2
      go_wp2_with (fail)
      go_region_with (go_at_call 148; refine (eqMap_same _ _ _ _).mono ?_; rintro e w' ⟨rfl, o1, o2, rfl⟩)
      all_goals
        go_wp2
        go_roundw
        case rel =>
          refine ⟨k + 1, by omega, by go_num, ?_⟩
          (repeat' (with_reducible (first | exact Below.refl _ _ | apply Below.setCell | apply Below.alloc | apply below_drewN | apply Below.drew | refine Below.trans ?_ (Below.mono (by assumption) ?_)))) <;> (first | exact Nat.le_refl _ | (simp; done) | (simp; omega) | (simp at *; omega))
        case measure => simp [intOf]; omega
    · go_wp2
      go_ret
      exact ⟨rfl, hB⟩

set_option maxHeartbeats 1000000 in
theorem eqShadeS_same (lo hi lo' hi' : Nat) (a a' : Option Addr) (len cap cap' : Nat) (ss : List S4) (w : World) (h : IsShades w lo hi a len ss) (h' : IsShades w lo' hi' a' len ss) (hh : hi ≤ w.heap.size) (hh' : hi' ≤ w.heap.size) (hm : len ≤ 1048576) :
    Calls Try.prog 135 #[.slice a len cap, .slice a' len cap'] w fun e w' => e = .returned (.bool true) ∧ Below w.heap.size w w' := by
  go_enter Try.func135, Try.ntmps135
  go_wp2
  go_loopw [5] (fun i wr => ∃ k : Nat, k ≤ len ∧ i = .int .i64 k ∧ Below w.heap.size w wr) (fun i _ => len - (intOf i).toNat)
  case atStart => exact ⟨0, Nat.zero_le _, rfl, Below.refl _ _⟩
  case round =>
    obtain ⟨k, hk, rfl, hB⟩ := hrel
    have hs := hB.size
    by_cases hlt : k < len
    · obtain ⟨b, o, rfl, _, hb2, q0, q1, q2, q3⟩ := h.get hlt
      obtain ⟨b', o', rfl, _, hb2', r0, r1, r2, r3⟩ := h'.get hlt
      generalize ss.getD k noS = ek at q0 q1 q2 q3 r0 r1 r2 r3
      obtain ⟨eh, ep, ef, eb⟩ := ek
      have hb : b < w.heap.size := by omega
      have hb' : b' < w.heap.size := by omega
      have c0 := (hB.cell (p := ⟨b, o + k * 4, none⟩) hb).trans q0
      have c1 := (hB.cell (p := ⟨b, o + k * 4 + 1, none⟩) hb).trans q1
      have c2 := (hB.cell (p := ⟨b, o + k * 4 + 2, none⟩) hb).trans q2
      have c3 := (hB.cell (p := ⟨b, o + k * 4 + 3, none⟩) hb).trans q3
      have d0 := (hB.cell (p := ⟨b', o' + k * 4, none⟩) hb').trans r0
      have d1 := (hB.cell (p := ⟨b', o' + k * 4 + 1, none⟩) hb').trans r1
      have d2 := (hB.cell (p := ⟨b', o' + k * 4 + 2, none⟩) hb').trans r2
      have d3 := (hB.cell (p := ⟨b', o' + k * 4 + 3, none⟩) hb').trans r3
      have hlti : (k : Int) < (len : Int) := by omega
      clear q0 q1 q2 q3 r0 r1 r2 r3
      go_wp2_with (fail)
      go_region_with (go_at_call 149; refine (eqShade_same _ _ _ _ _).mono ?_; rintro e w' ⟨rfl, o1, o2, rfl⟩)
      all_goals
        go_wp2
        go_roundw
        case rel =>
          refine ⟨k + 1, by omega, by go_num, ?_⟩
          (repeat' (with_reducible (first | exact Below.refl _ _ | apply Below.setCell | apply Below.alloc | apply below_drewN | apply Below.drew | refine Below.trans ?_ (Below.mono (by assumption) ?_)))) <;> (first | exact Nat.le_refl _ | (simp; done) | (simp; omega) | (simp at *; omega))
        case measure => simp [intOf]; omega
    · go_wp2
      go_ret
      exact ⟨rfl, hB⟩

set_option maxHeartbeats 1000000 in
theorem eqGuest_same (lo hi lo' hi' : Nat) (vm vd vs vm' vd' vs' : Value) (g : Gst) (w : World) (h : GuestIn w lo hi vm vd vs g) (h' : GuestIn w lo' hi' vm' vd' vs' g) (hh : hi ≤ w.heap.size) (hh' : hi' ≤ w.heap.size) (hS : SmallG g) :
    Calls Try.prog 105 #[.agg #[vm, vd, vs], .agg #[vm', vd', vs']] w fun e w' => e = .returned (.bool true) ∧ Below w.heap.size w w' := by
  obtain ⟨⟨a1, c1, rfl, h1⟩, ⟨a2, c2, rfl, h2⟩, a3, c3, rfl, h3⟩ := h
  obtain ⟨⟨b1, d1, rfl, g1⟩, ⟨b2, d2, rfl, g2⟩, b3, d3, rfl, g3⟩ := h'
  obtain ⟨S1, S2, S3, S4⟩ := hS
  obtain ⟨W, hW⟩ : ∃ W, W = (w.alloc (.cells #[.slice a1 g.maps.length c1, .slice a2 g.disk.length c2, .slice a3 g.shades.length c3] 63)).alloc (.cells #[.slice b1 g.maps.length d1, .slice b2 g.disk.length d2, .slice b3 g.shades.length d3] 63) := ⟨_, rfl⟩
  have B0 : Below w.heap.size w W := by rw [hW]; exact ((Below.refl _ _).alloc (Nat.le_refl _) _).alloc (by simp) _
  have hsW : W.heap.size = w.heap.size + 1 + 1 := by rw [hW]; simp
  have k0 : W.cell? ⟨w.heap.size, 0, none⟩ = some (.slice a1 g.maps.length c1) := by rw [hW]; simp
  have k1 : W.cell? ⟨w.heap.size, 1, none⟩ = some (.slice a2 g.disk.length c2) := by rw [hW]; simp
  have k2 : W.cell? ⟨w.heap.size, 2, none⟩ = some (.slice a3 g.shades.length c3) := by rw [hW]; simp
  have l0 : W.cell? ⟨w.heap.size + 1, 0, none⟩ = some (.slice b1 g.maps.length d1) := by rw [hW]; simp
  have l1 : W.cell? ⟨w.heap.size + 1, 1, none⟩ = some (.slice b2 g.disk.length d2) := by rw [hW]; simp
  have l2 : W.cell? ⟨w.heap.size + 1, 2, none⟩ = some (.slice b3 g.shades.length d3) := by rw [hW]; simp
  have h1 := h1.same (below_sameIn B0 hh)
  have h2 := h2.same (below_sameIn B0 hh)
  have h3 := h3.same (below_sameIn B0 hh)
  have g1 := g1.same (below_sameIn B0 hh')
  have g2 := g2.same (below_sameIn B0 hh')
  have g3 := g3.same (below_sameIn B0 hh')
  generalize g.maps.length = lm at k0 l0 h1 g1 S1 hW
  generalize g.disk.length = ld at k1 l1 h2 g2 S3 S4 hW
  generalize g.shades.length = ls at k2 l2 h3 g3 S2 hW
  go_enter Try.func105, Try.ntmps105
  go_wp2_with (fail)
  rw [← hW]
  clear hW
  refine (eqMapS_same lo hi lo' hi' a1 b1 lm c1 d1 g.maps W h1 g1 (by omega) (by omega) S1).mono ?_
  rintro e w1 ⟨rfl, B1⟩
  have h2 := h2.same (below_sameIn B1 (by omega))
  have h3 := h3.same (below_sameIn B1 (by omega))
  have g2 := g2.same (below_sameIn B1 (by omega))
  have g3 := g3.same (below_sameIn B1 (by omega))
  have k1 := (B1.cell (p := ⟨w.heap.size, 1, none⟩) (by simp; omega)).trans k1
  have k2 := (B1.cell (p := ⟨w.heap.size, 2, none⟩) (by simp; omega)).trans k2
  have l1 := (B1.cell (p := ⟨w.heap.size + 1, 1, none⟩) (by simp; omega)).trans l1
  have l2 := (B1.cell (p := ⟨w.heap.size + 1, 2, none⟩) (by simp; omega)).trans l2
  have s1 := B1.size
  have B01 := B0.trans (B1.mono B0.size)
  clear k0 l0 h1 g1 B1 B0
  go_wp2_with (fail)
  refine (eqIntSS_same lo hi lo' hi' a2 b2 ld c2 d2 g.disk w1 h2 g2 (by omega) (by omega) S3 S4).mono ?_
  rintro e w2 ⟨rfl, B2⟩
  have h3 := h3.same (below_sameIn B2 (by omega))
  have g3 := g3.same (below_sameIn B2 (by omega))
  have k2 := (B2.cell (p := ⟨w.heap.size, 2, none⟩) (by simp; omega)).trans k2
  have l2 := (B2.cell (p := ⟨w.heap.size + 1, 2, none⟩) (by simp; omega)).trans l2
  have s2 := B2.size
  have B02 := B01.trans (B2.mono B01.size)
  clear k1 l1 h2 g2 B2 B01
  go_wp2_with (fail)
  refine (eqShadeS_same lo hi lo' hi' a3 b3 ls c3 d3 g.shades w2 h3 g3 (by omega) (by omega) S2).mono ?_
  rintro e w3 ⟨rfl, B3⟩
  have B03 := B02.trans (B3.mono B02.size)
  clear k2 l2 h3 g3 B3 B02
  go_wp2
  go_ret
  exact ⟨rfl, B03⟩

set_option maxRecDepth 100000 in
set_option maxHeartbeats 2000000 in
theorem eqGuestS_same (lo hi lo' hi' : Nat) (a a' : Option Addr) (len cap cap' : Nat) (gs : List Gst) (w : World) (h : IsGuests w lo hi a len gs) (h' : IsGuests w lo' hi' a' len gs) (hh : hi ≤ w.heap.size) (hh' : hi' ≤ w.heap.size) (hm : len ≤ 1048576) (hS : ∀ i, i < len → SmallG (gs.getD i noG)) :
    Calls Try.prog 66 #[.slice a len cap, .slice a' len cap'] w fun e w' => e = .returned (.bool true) ∧ Below w.heap.size w w' := by
  go_enter Try.func66, Try.ntmps66
  go_wp2
  go_loopw [5] (fun i wr => ∃ k : Nat, k ≤ len ∧ i = .int .i64 k ∧ Below w.heap.size w wr) (fun i _ => len - (intOf i).toNat)
  case atStart => exact ⟨0, Nat.zero_le _, rfl, Below.refl _ _⟩
  case round =>
    obtain ⟨k, hk, rfl, hB⟩ := hrel
    have hs := hB.size
    by_cases hlt : k < len
    · obtain ⟨_, hd⟩ := h.same (below_sameIn hB hh)
      obtain ⟨_, hd'⟩ := h'.same (below_sameIn hB hh')
      rcases hd with h0 | ⟨b, o, rfl, _, hb2, hc⟩
      · omega
      rcases hd' with h0 | ⟨b', o', rfl, _, hb2', hc'⟩
      · omega
      obtain ⟨vm, vd, vs, c0, c1, c2, hG⟩ := hc k hlt
      obtain ⟨vm', vd', vs', d0, d1, d2, hG'⟩ := hc' k hlt
      have hE : ∀ W, Below wr.heap.size wr W → Calls Try.prog 105 #[.agg #[vm, vd, vs], .agg #[vm', vd', vs']] W fun e w' => e = .returned (.bool true) ∧ Below W.heap.size W w' := fun W hW =>
        eqGuest_same lo hi lo' hi' _ _ _ _ _ _ _ W (hG.same (below_sameIn hW (by omega))) (hG'.same (below_sameIn hW (by omega))) (by have := hW.size; omega) (by have := hW.size; omega) (hS k hlt)
      obtain ⟨⟨x1, y1, rfl, _⟩, ⟨x2, y2, rfl, _⟩, x3, y3, rfl, _⟩ := hG
      obtain ⟨⟨x1', y1', rfl, _⟩, ⟨x2', y2', rfl, _⟩, x3', y3', rfl, _⟩ := hG'
      have hlti : (k : Int) < (len : Int) := by omega
      generalize (gs.getD k noG).maps.length = lm at *
      generalize (gs.getD k noG).disk.length = ld at *
      generalize (gs.getD k noG).shades.length = ls at *
      clear hc hc'
      go_wp2_with (fail)
      go_region_with (go_at_call 105; refine (hE _ ((Below.refl _ _).drew)).mono ?_; rintro e w' ⟨rfl, B1⟩)
      all_goals
        have B01 : Below w.heap.size w w' := hB.trans ((((Below.refl wr.heap.size wr).drew).trans B1).mono hs)
        clear B1 hE
        go_wp2
        go_roundw
        case rel =>
          refine ⟨k + 1, by omega, by go_num, ?_⟩
          (repeat' (with_reducible (first | exact Below.refl _ _ | apply Below.setCell | apply Below.alloc | apply below_drewN | apply Below.drew | refine Below.trans ?_ (Below.mono (by assumption) ?_)))) <;> (first | exact Nat.le_refl _ | (simp; done) | (simp; omega) | (simp at *; omega))
        case measure => simp [intOf]; omega
    · go_wp2
      go_ret
      exact ⟨rfl, hB⟩

set_option maxHeartbeats 1000000 in
theorem eqHost_same (lo hi lo' hi' : Nat) (vf vg vf' vg' : Value) (h : Hst) (w : World) (k : HostIn w lo hi vf vg h) (k' : HostIn w lo' hi' vf' vg' h) (hh : hi ≤ w.heap.size) (hh' : hi' ≤ w.heap.size) (hS : SmallH h) (z : Int) :
    Calls Try.prog 24 #[.agg #[vf, vg, .int .i64 z], .agg #[vf', vg', .int .i64 z]] w fun e w' => e = .returned (.bool true) ∧ Below w.heap.size w w' := by
  obtain ⟨⟨a1, c1, rfl, h1⟩, a2, c2, rfl, h2⟩ := k
  obtain ⟨⟨b1, d1, rfl, g1⟩, b2, d2, rfl, g2⟩ := k'
  obtain ⟨S1, S2, S3, S4⟩ := hS
  obtain ⟨W, hW⟩ : ∃ W, W = (w.alloc (.cells #[.slice a1 h.frames.length c1, .slice a2 h.guests.length c2, .int .i64 z] 27)).alloc (.cells #[.slice b1 h.frames.length d1, .slice b2 h.guests.length d2, .int .i64 z] 27) := ⟨_, rfl⟩
  have B0 : Below w.heap.size w W := by rw [hW]; exact ((Below.refl _ _).alloc (Nat.le_refl _) _).alloc (by simp) _
  have hsW : W.heap.size = w.heap.size + 1 + 1 := by rw [hW]; simp
  have k1 : W.cell? ⟨w.heap.size, 1, none⟩ = some (.slice a2 h.guests.length c2) := by rw [hW]; simp
  have k2 : W.cell? ⟨w.heap.size, 2, none⟩ = some (.int .i64 z) := by rw [hW]; simp
  have l1 : W.cell? ⟨w.heap.size + 1, 1, none⟩ = some (.slice b2 h.guests.length d2) := by rw [hW]; simp
  have l2 : W.cell? ⟨w.heap.size + 1, 2, none⟩ = some (.int .i64 z) := by rw [hW]; simp
  have h1 := h1.same (below_sameIn B0 hh)
  have h2 := h2.same (below_sameIn B0 hh)
  have g1 := g1.same (below_sameIn B0 hh')
  have g2 := g2.same (below_sameIn B0 hh')
  generalize h.frames.length = lf at h1 g1 S1 S2 hW
  generalize h.guests.length = lg at k1 l1 h2 g2 S3 S4 hW
  go_enter Try.func24, Try.ntmps24
  go_wp2_with (fail)
  rw [← hW]
  clear hW
  refine (eqIntSS_same lo hi lo' hi' a1 b1 lf c1 d1 h.frames W h1 g1 (by omega) (by omega) S1 S2).mono ?_
  rintro e w1 ⟨rfl, B1⟩
  have h2 := h2.same (below_sameIn B1 (by omega))
  have g2 := g2.same (below_sameIn B1 (by omega))
  have k1 := (B1.cell (p := ⟨w.heap.size, 1, none⟩) (by simp; omega)).trans k1
  have k2 := (B1.cell (p := ⟨w.heap.size, 2, none⟩) (by simp; omega)).trans k2
  have l1 := (B1.cell (p := ⟨w.heap.size + 1, 1, none⟩) (by simp; omega)).trans l1
  have l2 := (B1.cell (p := ⟨w.heap.size + 1, 2, none⟩) (by simp; omega)).trans l2
  have s1 := B1.size
  have B01 := B0.trans (B1.mono B0.size)
  clear h1 g1 B1 B0
  go_wp2_with (fail)
  refine (eqGuestS_same lo hi lo' hi' a2 b2 lg c2 d2 h.guests w1 h2 g2 (by omega) (by omega) S3 S4).mono ?_
  rintro e w2 ⟨rfl, B2⟩
  have k2 := (B2.cell (p := ⟨w.heap.size, 2, none⟩) (by simp; omega)).trans k2
  have l2 := (B2.cell (p := ⟨w.heap.size + 1, 2, none⟩) (by simp; omega)).trans l2
  have s2 := B2.size
  have B02 := B01.trans (B2.mono B01.size)
  clear k1 l1 h2 g2 B2 B01
  go_wp2
  go_ret
  exact ⟨rfl, B02⟩
end Go.Proofs.Ytdamdjhnhkmncaa
