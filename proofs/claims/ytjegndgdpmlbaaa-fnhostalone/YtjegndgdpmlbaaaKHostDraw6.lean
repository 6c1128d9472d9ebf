/-
  What the drawing of a host alone gives, and of a host and a guest.
-/
import Derived.Test.YtjegndgdpmlbaaaKHL
set_option linter.unusedSimpArgs false
namespace Go.Proofs.Ytjegndgdpmlbaaa
open Go.RowKit
attribute [local go_sem ↓] Go.wp_at_zero Go.wp_at_succ

set_option maxRecDepth 100000 in
set_option maxHeartbeats 4000000 in
theorem drawOk (a : Option Addr) (len cap : Nat) (zs : List Int) (w : World) (h0 : IsRow .u8 w a len cap zs) :
    Calls Try.prog 17 #[.slice a len cap] w fun e w' => ∃ vf vg h, e = .returned (.agg #[vf, vg, .int .i64 h.hand]) ∧ HostD w w' vf vg h ∧ Below w.heap.size w w' := by
  obtain ⟨W0, hW0⟩ : ∃ W0, W0 = w.alloc (.cells #[.slice none 0 0, .slice none 0 0, .int .i64 0] 26) := ⟨_, rfl⟩
  have B0 : Below w.heap.size w W0 := by rw [hW0]; exact (Below.refl _ _).alloc (Nat.le_refl _) _
  have s0 : W0.heap.size = w.heap.size + 1 := by rw [hW0]; simp
  have r0 : Var3 W0 w.heap.size (.slice none 0 0) (.slice none 0 0) (.int .i64 0) := by rw [hW0]; exact var3_new w _ _ _ _
  have hrow : IsRow .u8 W0 a len cap zs := by rw [hW0]; exact h0.alloc _
  have r0 := hidE r0
  have B0 := hidE B0
  have s0 := hidE s0
  go_enter Try.func17, Try.ntmps17
  go_wp2_with (fail)
  rw [← hW0]
  clear hW0
  refine (open_any a len cap zs W0 hrow).mono ?_
  rintro e w1 ⟨rfl, len', hl', rfl⟩
  have hr := rd_new hrow hl' 0 98
  obtain ⟨W1, hW1⟩ : ∃ W1, W1 = W0.alloc (.cells #[.slice a len' cap, .int .i64 ((0 : Nat) : Int)] 98) := ⟨_, rfl⟩
  have B1 : Below W0.heap.size W0 W1 := by rw [hW1]; exact (Below.refl _ _).alloc (Nat.le_refl _) _
  have s1 : W1.heap.size = W0.heap.size + 1 := by rw [hW1]; simp
  rw [← hW1, s0.out] at hr
  have e1 : W0.alloc (.cells #[.slice a len' cap, .int .i64 0] 98) = W1 := hW1.symm
  rw [e1, s0.out]
  replace B1 := hidE B1
  replace s1 := hidE s1
  clear hW1 e1 hrow h0
  go_wp2_with (fail)
  refine (drawHost (w.heap.size + 1) 0 W1 hr (by omega)).mono ?_
  rintro e w2 ⟨vf, vg, h, rfl, hd, ⟨k2, hr2, hk2⟩, ha2, hg1, hg4⟩
  obtain ⟨⟨af, cf, rfl, hF⟩, ag, cg, rfl, hG⟩ := hd.1
  have hA2 : Adv (w.heap.size + 1) W0 w2 := ((Adv.refl _ _).then_belowA B1.out).trans ha2
  have s2 := hA2.size
  obtain ⟨r1, r2, r3, f1, f2, f3⟩ := r0.out.same (hA2.block w.heap.size (by have := s0.out; omega) (by omega))
  have lR : w.heap.size < w2.heap.size := by have := s0.out; omega
  have hfin := hidE (show HostD w (((w2.setCell ⟨w.heap.size, 0, none⟩ (.slice af h.frames.length cf)).setCell ⟨w.heap.size, 1, none⟩ (.slice ag h.guests.length cg)).setCell ⟨w.heap.size, 2, none⟩ (.int .i64 h.hand)) (.slice af h.frames.length cf) (.slice ag h.guests.length cg) h from by
    obtain ⟨d1, d2, d3, _⟩ := (hd.ret (R := w.heap.size) (by have := s0.out; have := s1.out; omega) (.slice af h.frames.length cf) (.slice ag h.guests.length cg) (.int .i64 h.hand))
    exact ⟨d1.wide (by have := s0.out; have := s1.out; omega) (Nat.le_refl _), d2, d3, hg1, hg4⟩)
  have hBf := hidE (show Below w.heap.size w (((w2.setCell ⟨w.heap.size, 0, none⟩ (.slice af h.frames.length cf)).setCell ⟨w.heap.size, 1, none⟩ (.slice ag h.guests.length cg)).setCell ⟨w.heap.size, 2, none⟩ (.int .i64 h.hand)) from by
    have hB : Below w.heap.size w w2 := ⟨hA2.os.trans B0.out.os, hA2.tape.trans B0.out.tape, hA2.output.trans B0.out.output, Nat.le_trans B0.out.size hA2.size, fun j hj => (hA2.block j (by have := s0.out; omega) (by omega)).trans (B0.out.block j hj)⟩
    exact ((hB.setCell (p := ⟨w.heap.size, 0, none⟩) (Nat.le_refl _) _).setCell (p := ⟨w.heap.size, 1, none⟩) (Nat.le_refl _) _).setCell (p := ⟨w.heap.size, 2, none⟩) (Nat.le_refl _) _)
  clear hr2 ha2 hA2 hd hF hG s2
  go_wp2_with (fail)
  refine bodyPost_ret (v := .agg #[.slice af h.frames.length cf, .slice ag h.guests.length cg, .int .i64 h.hand]) (by simp [results, Try.results17, go_sem, *]) rfl ?_
  exact ⟨_, _, h, rfl, hfin.out, hBf.out⟩
end Go.Proofs.Ytjegndgdpmlbaaa
