/-
  What the given HostWrite does.
-/
import Derived.Test.YtbhenppclgolpaaKAC
import Derived.Test.YtbhenppclgolpaaKSpecWrite0
set_option linter.unusedSimpArgs false
namespace Go.Proofs.Ytbhenppclgolpaa
open Go.RowKit
attribute [local go_sem ↓] Go.wp_at_zero Go.wp_at_succ exec_app
attribute [local go_sem] bigNext_ok

def wordB0 (Z : Int) : Bool := decide (0 ≤ Z) && decide (Z ≤ 63)
def writeH (h : Hst) (G P O Z : Int) : Hst := bif is14B h G P O && wordB0 Z then wrH h G.toNat P.toNat O.toNat Z else noH
def writeHv (h : Hst) (G P O Z : Int) : Int := bif is14B h G P O && wordB0 Z then zAt h G.toNat P.toNat O.toNat else -3
theorem shaped_HostWrite {h : Hst} {G P O Z : Int} : Shaped (writeH h G P O Z) := by
  rw [writeH]
  cases hb : is14B h G P O
  · exact shaped_no
  · cases hz : wordB0 Z
    · exact shaped_no
    · obtain ⟨ho, g, p, o, rfl, rfl, rfl, hg, hp, _⟩ := is14_parts hb
      simp only [wordB0, Bool.and_eq_true, decide_eq_true_eq] at hz
      rw [Int.toNat_natCast, Int.toNat_natCast, Int.toNat_natCast]
      exact shaped_ok (okHost_mk (wrH_ok (okHost_of ho) (o := o) hg hp hz.1 hz.2).1)

set_option maxRecDepth 100000 in
set_option maxHeartbeats 8000000 in
theorem specHostWriteG (lo hi : Nat) (af ag : Option Addr) (lf cf n cg : Nat) (h : Hst) (G P O Z : Int) (w : World) (hH : HostIn w lo hi (.slice af lf cf) (.slice ag n cg) h) (hlf : h.frames.length = lf) (hn : h.guests.length = n) (hh : hi ≤ w.heap.size) (hS : SmallH h) :
    Calls Try.prog 35 #[.agg #[.slice af lf cf, .slice ag n cg, .int .i64 h.hand], .int .i64 G, .int .i64 P, .int .i64 O, .int .i64 Z] w fun e w' => Gives2I w w' e (writeH h G P O Z) (.int .i64 (writeHv h G P O Z)) := by
  obtain ⟨W0, hW0⟩ : ∃ W0, W0 = (w.alloc (.cells #[.slice af lf cf, .slice ag n cg, .int .i64 h.hand] 27)).alloc (.cells #[.slice none 0 0, .slice none 0 0, .int .i64 0] 27) := ⟨_, rfl⟩
  have B0 : Below w.heap.size w W0 := by rw [hW0]; exact ((Below.refl _ _).alloc (Nat.le_refl _) _).alloc (by simp) _
  have s0 : w.heap.size + 1 < W0.heap.size := by rw [hW0]; simp
  have p0 : Var3 W0 w.heap.size (.slice af lf cf) (.slice ag n cg) (.int .i64 h.hand) := by rw [hW0]; exact (var3_new w _ _ _ _).allocK _
  have r0 : Var3 W0 (w.heap.size + 1) (.slice none 0 0) (.slice none 0 0) (.int .i64 0) := by rw [hW0]; exact var3_newK (by simp)
  have hc := specIs14 lo hi af ag lf cf n cg h G P O W0 (hH.same (below_sameIn B0 hh)) hlf hn (Nat.le_trans hh B0.size) hS
  obtain ⟨p00, p01, p02, _, _, _⟩ := p0
  have hl0 : w.heap.size < W0.heap.size := by omega
  have hI1 := fun W => specIn Z 0 63 W
  cases hb : is14B h G P O
  · have hS : writeH h G P O Z = noH ∧ writeHv h G P O Z = -3 := by rw [writeH, writeHv, hb]; exact ⟨rfl, rfl⟩
    rw [hS.1, hS.2]
    rw [hb] at hc
    go_enter Try.func35, Try.ntmps35
    go_wp2_with (fail)
    rw [← hW0]
    clear hW0
    refine hc.mono ?_
    rintro e w1 ⟨rfl, B1⟩
    have HB : Hid (Below w.heap.size w w1) := B0.trans (B1.mono B0.size)
    obtain ⟨q0, q1, q2, f0, f1, f2⟩ := r0.same (B1.block _ s0)
    have hlt : w.heap.size + 1 < w1.heap.size := Nat.lt_of_lt_of_le s0 B1.size
    clear hc B0 B1 r0 p00 p01 p02 hI1
    go_wp2
    refine bodyPost_ret (v := .tuple #[.agg #[.slice none 0 0, .slice none 0 0, .int .i64 0], .int .i64 (-3)]) (by simp [results, Try.results35, go_sem, *]) rfl ?_
    exact (gives2H_no HB.out (Nat.le_succ _) _ _ _).toI
  cases hzb : wordB0 Z
  · have hS : writeH h G P O Z = noH ∧ writeHv h G P O Z = -3 := by rw [writeH, writeHv, hb, hzb]; exact ⟨rfl, rfl⟩
    rw [hS.1, hS.2]
    rw [hb] at hc
    rw [show (decide (0 ≤ Z) && decide (Z ≤ 63)) = false from hzb] at hI1
    go_enter Try.func35, Try.ntmps35
    go_wp2_with (fail)
    rw [← hW0]
    clear hW0
    refine hc.mono ?_
    rintro e w1 ⟨rfl, B1⟩
    have HB : Hid (Below w.heap.size w w1) := B0.trans (B1.mono B0.size)
    obtain ⟨q0, q1, q2, f0, f1, f2⟩ := r0.same (B1.block _ s0)
    have hlt : w.heap.size + 1 < w1.heap.size := Nat.lt_of_lt_of_le s0 B1.size
    clear hc B0 B1 r0 p00 p01 p02
    go_wp2_with (fail)
    refine (hI1 _).mono ?_
    rintro e w2 ⟨rfl, rfl⟩
    go_wp2
    refine bodyPost_ret (v := .tuple #[.agg #[.slice none 0 0, .slice none 0 0, .int .i64 0], .int .i64 (-3)]) (by simp [results, Try.results35, go_sem, *]) rfl ?_
    exact (gives2H_no HB.out (Nat.le_succ _) _ _ _).toI
  · obtain ⟨ho, g, p, o, rfl, rfl, rfl, hg, hp, ho4⟩ := is14_parts hb
    have hF : writeH h (g : Int) (p : Int) (o : Int) Z = wrH h g p o Z ∧ writeHv h (g : Int) (p : Int) (o : Int) Z = zAt h g p o := by rw [writeH, writeHv, hb, hzb, Int.toNat_natCast, Int.toNat_natCast, Int.toNat_natCast]; exact ⟨rfl, rfl⟩
    obtain ⟨hf8, hf4, hg1, hg2, _⟩ := okHost_frames ho
    rw [hF.1, hF.2]
    rw [hb] at hc
    rw [show (decide (0 ≤ Z) && decide (Z ≤ 63)) = true from hzb] at hI1
    obtain rfl : lf = 8 := by omega
    obtain ⟨hFm, hGm⟩ := hH.parts
    have hcp := fun (W : World) (B : Below w.heap.size w W) => specHostCopy lo hi af ag cf n cg h W (hFm.same (below_sameIn B hh)) (hGm.same (below_sameIn B hh)) (Nat.le_trans hh B.size) ho hn
    have kk := okHost_of ho
    obtain ⟨zz, hzz⟩ : ∃ zz, zz = zAt h g p o := ⟨_, rfl⟩
    rw [← hzz]
    clear hH hFm hGm
    go_enter Try.func35, Try.ntmps35
    go_wp2_with (fail)
    rw [← hW0]
    clear hW0
    refine hc.mono ?_
    rintro e w1 ⟨rfl, B1⟩
    have s01 := B1.size
    have B01 : Below w.heap.size w w1 := B0.trans (B1.mono B0.size)
    have hcp1 := hcp w1 B01
    have r1 := r0.same (B1.block _ s0)
    obtain ⟨p10, p11, p12⟩ := cells3 B1 hl0 ⟨p00, p01, p02⟩
    have hl1 : w.heap.size < w1.heap.size := by omega
    clear hc hcp p00 p01 p02 r0
    go_wp2_with (fail)
    refine (hI1 _).mono ?_
    rintro e w1' ⟨rfl, rfl⟩
    clear hI1
    go_wp2_with (fail)
    refine hcp1.mono ?_
    rintro e w2 ⟨vf, T, c, rfl, hO2, hR2, B2⟩
    have s12 := B2.size
    have r2 := r1.same (B2.block _ (by omega))
    obtain ⟨A, cf2, rfl, hAT, k2⟩ := sep_of_own hO2 hR2 ho hn (Nat.le_refl _)
    have hfo := specWrite14 w1'.heap.size A h g p o Z n cf2 c w2 k2 kk hn (by omega) hp ho4 s12
    rw [hAT, ← hzz] at hfo
    clear hcp1 hO2 hR2 hzz
    go_wp2_with (fail)
    refine hfo.mono ?_
    rintro e w3 ⟨rfl, A', M3⟩
    have hI3 := M3.sep.hostIn cf2 c
    rw [M3.fr, M3.gs, M3.len, hAT] at hI3
    have B3 := M3.bel
    have X3 := M3.keep
    have HI3 := hidE hI3
    have B13 : Hid (Below w1'.heap.size w1' w3) := B2.trans B3
    have HB01 : Hid (Below w.heap.size w w1') := B01
    obtain ⟨q0, q1, q2, f0, f1, f2⟩ := r2.same (X3 _ (by omega) (fun x hx => by have := (k2.low x (by rw [hn]; exact hx)).1; omega))
    have hlt : w.heap.size + 1 < w3.heap.size := by have := B13.out.size; omega
    clear hfo hI3 B3 B2 r2 r1 B1 B01 B0 p10 p11 p12 k2 M3 X3
    go_wp2
    refine bodyPost_ret (v := .tuple #[.agg #[.slice (some ⟨A .fr, 0, none⟩) 8 cf2, .slice (some ⟨T, 0, none⟩) n c, .int .i64 (wrH h g p o Z).hand], .int .i64 zz]) (by simp [results, Try.results35, go_sem, *]) rfl ?_
    exact gives2I_ret (h := wrH h g p o Z) HB01.out HI3.out B13.out (Nat.le_succ _) (by omega) _ _ _
end Go.Proofs.Ytbhenppclgolpaa
