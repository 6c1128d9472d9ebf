/-
  What the laws' own looking at two guests does where both hold the same.
-/
import Derived.Test.YtdamdjhnhkmncaaKHostEq0
import Derived.Test.YtdamdjhnhkmncaaKLkMem0
import Derived.BigQuiet
set_option linter.unusedSimpArgs false
namespace Go.Proofs.Ytdamdjhnhkmncaa
open Go.RowKit

set_option maxRecDepth 100000 in
set_option maxHeartbeats 4000000 in
theorem lkGuest_same (lo hi lo' hi' : Nat) (vm vd vs vm' vd' vs' : Value) (g : Gst) (w : World) (h : GuestIn w lo hi vm vd vs g) (h' : GuestIn w lo' hi' vm' vd' vs' g) (hh : hi ≤ w.heap.size) (hh' : hi' ≤ w.heap.size) (hS : SmallG g) :
    Calls Try.prog 49 #[.agg #[vm, vd, vs], .agg #[vm', vd', vs']] w fun e w' => e = .returned (.bool true) ∧ Below w.heap.size w w' := by
  obtain ⟨⟨a1, c1, rfl, h1⟩, ⟨a2, c2, rfl, h2⟩, a3, c3, rfl, h3⟩ := h
  obtain ⟨⟨b1, d1, rfl, g1⟩, ⟨b2, d2, rfl, g2⟩, b3, d3, rfl, g3⟩ := h'
  obtain ⟨S1, S2, S3, S4⟩ := hS
  obtain ⟨W, hW⟩ : ∃ W, W = (w.alloc (.cells #[.slice a1 g.maps.length c1, .slice a2 g.disk.length c2, .slice a3 g.shades.length c3] 63)).alloc (.cells #[.slice b1 g.maps.length d1, .slice b2 g.disk.length d2, .slice b3 g.shades.length d3] 63) := ⟨_, rfl⟩
  have B0 : Below w.heap.size w W := by rw [hW]; exact ((Below.refl _ _).alloc (Nat.le_refl _) _).alloc (by simp) _
  have hsW : W.heap.size = w.heap.size + 1 + 1 := by rw [hW]; simp
  have k0 : W.cell? ⟨w.heap.size, 0, none⟩ = some (.slice a1 g.maps.length c1) := by rw [hW]; simp
  have k2 : W.cell? ⟨w.heap.size, 2, none⟩ = some (.slice a3 g.shades.length c3) := by rw [hW]; simp
  have l0 : W.cell? ⟨w.heap.size + 1, 0, none⟩ = some (.slice b1 g.maps.length d1) := by rw [hW]; simp
  have l2 : W.cell? ⟨w.heap.size + 1, 2, none⟩ = some (.slice b3 g.shades.length d3) := by rw [hW]; simp
  have h1 := h1.same (below_sameIn B0 hh)
  have h2 := h2.same (below_sameIn B0 hh)
  have h3 := h3.same (below_sameIn B0 hh)
  have g1 := g1.same (below_sameIn B0 hh')
  have g2 := g2.same (below_sameIn B0 hh')
  have g3 := g3.same (below_sameIn B0 hh')
  have hlk := lkMem_same lo hi lo' hi' a2 b2 g.disk.length c2 d2 g.disk W h2 g2 (by omega) (by omega) S3 S4
  generalize g.maps.length = lm at k0 l0 h1 g1 S1 hW
  generalize g.disk.length = ld at h2 g2 S3 S4 hW hlk
  generalize g.shades.length = ls at k2 l2 h3 g3 S2 hW
  have hx1 : w.heap.size < W.heap.size := by omega
  have hx2 : w.heap.size + 1 < W.heap.size := by omega
  clear h2 g2
  go_enter Try.func49, Try.ntmps49
  go_wp2_with (fail)
  rw [← hW]
  clear hW
  refine hlk.mono ?_
  rintro e w1 ⟨rfl, B1⟩
  have s1 := B1.size
  have k0 := (B1.cell (p := ⟨w.heap.size, 0, none⟩) (by show w.heap.size < _; omega)).trans k0
  have k2 := (B1.cell (p := ⟨w.heap.size, 2, none⟩) (by show w.heap.size < _; omega)).trans k2
  have l0 := (B1.cell (p := ⟨w.heap.size + 1, 0, none⟩) (by show w.heap.size + 1 < _; omega)).trans l0
  have l2 := (B1.cell (p := ⟨w.heap.size + 1, 2, none⟩) (by show w.heap.size + 1 < _; omega)).trans l2
  have h1 := h1.same (below_sameIn B1 (by omega))
  have h3 := h3.same (below_sameIn B1 (by omega))
  have g1 := g1.same (below_sameIn B1 (by omega))
  have g3 := g3.same (below_sameIn B1 (by omega))
  have HB1 : Hid (Below w.heap.size w w1) := B0.trans (B1.mono (by omega))
  clear hlk B1 B0
  go_wp2
  go_loopw [5] (fun i wr => ∃ k m : Nat, k ≤ lm ∧ i = .int .i64 k ∧ wr = w1.drewN m) (fun i _ => lm - (intOf i).toNat)
  case atStart => exact ⟨0, 0, Nat.zero_le _, rfl, rfl⟩
  case round =>
    obtain ⟨k, m, hk, rfl, rfl⟩ := hrel
    by_cases hkl : k < lm
    · have hki : (k : Int) < (lm : Int) := by omega
      obtain ⟨bm, om, rfl, _, _, q0, q1, q2⟩ := h1.get hkl
      obtain ⟨bm', om', rfl, _, _, q0', q1', q2'⟩ := g1.get hkl
      clear h1 g1 h3 g3
      generalize g.maps.getD k noM = mm at *
      obtain ⟨mi, mf, mw⟩ := mm
      simp only at q0 q1 q2 q0' q1' q2'
      go_wp2_with (fail)
      go_quiet (fail)
      go_wp2
      go_roundw
      case rel => exact ⟨k + 1, _, by omega, by go_num, rfl⟩
      case measure => simp [intOf]; omega
    · have hk0 : k = lm := by omega
      clear h1 g1
      go_wp2
      go_loopw [6] (fun i wr => ∃ k m : Nat, k ≤ ls ∧ i = .int .i64 k ∧ wr = w1.drewN m) (fun i _ => ls - (intOf i).toNat)
      case atStart => exact ⟨0, m, Nat.zero_le _, rfl, rfl⟩
      case round =>
        obtain ⟨k, m, hk, rfl, rfl⟩ := hrel
        by_cases hkl : k < ls
        · have hki : (k : Int) < (ls : Int) := by omega
          obtain ⟨bm, om, rfl, _, _, q0, q1, q2, q3⟩ := h3.get hkl
          obtain ⟨bm', om', rfl, _, _, q0', q1', q2', q3'⟩ := g3.get hkl
          clear h3 g3
          generalize g.shades.getD k noS = mm at *
          obtain ⟨si, sp, sf, sw⟩ := mm
          simp only at q0 q1 q2 q3 q0' q1' q2' q3'
          go_wp2_with (fail)
          go_quiet (fail)
          go_wp2
          go_roundw
          case rel => exact ⟨k + 1, _, by omega, by go_num, rfl⟩
          case measure => simp [intOf]; omega
        · go_wp2
          go_ret
          refine ⟨rfl, ?_⟩
          have := HB1.out
          (repeat' (with_reducible (first | exact Below.refl _ _ | apply Below.setCell | apply Below.alloc | apply below_drewN | apply Below.drew | refine Below.trans ?_ (Below.mono (by assumption) ?_)))) <;> (first | exact Nat.le_refl _ | (simp; done) | (simp; omega) | (simp at *; omega))
end Go.Proofs.Ytdamdjhnhkmncaa
