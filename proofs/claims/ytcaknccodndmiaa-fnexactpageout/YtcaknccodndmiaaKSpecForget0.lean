/-
  What the given l13Is, l14Forget and HostForget do.
-/
import Derived.Test.YtcaknccodndmiaaKSpecCopy1
import Derived.Test.YtcaknccodndmiaaKImplForget0
import Derived.Test.YtcaknccodndmiaaKSpecSee0
set_option linter.unusedSimpArgs false
namespace Go.Proofs.Ytcaknccodndmiaa
open Go.RowKit
attribute [local go_sem ↓] Go.wp_at_zero Go.wp_at_succ exec_app
attribute [local go_sem] bigNext_ok

def isB (h : Hst) (G P : Int) : Bool := seeB h G && (decide (0 ≤ P) && decide (P ≤ 5))
set_option maxRecDepth 100000 in
set_option maxHeartbeats 8000000 in
theorem specIs13 (lo hi : Nat) (af ag : Option Addr) (lf cf n cg : Nat) (h : Hst) (G P : Int) (w : World) (hH : HostIn w lo hi (.slice af lf cf) (.slice ag n cg) h) (hlf : h.frames.length = lf) (hn : h.guests.length = n) (hh : hi ≤ w.heap.size) (hS : SmallH h) :
    Calls Try.prog 69 #[.agg #[.slice af lf cf, .slice ag n cg, .int .i64 h.hand], .int .i64 G, .int .i64 P] w fun e w' => e = .returned (.bool (isB h G P)) ∧ Below w.heap.size w w' := by
  obtain ⟨W1, hW1⟩ : ∃ W1, W1 = w.alloc (.cells #[.slice af lf cf, .slice ag n cg, .int .i64 h.hand] 27) := ⟨_, rfl⟩
  have s1 : W1.heap.size = w.heap.size + 1 := by rw [hW1]; simp
  have B1 : Below w.heap.size w W1 := by rw [hW1]; exact (Below.refl _ _).alloc (Nat.le_refl _) _
  have x1 : W1.cell? ⟨w.heap.size, 0, none⟩ = some (.slice af lf cf) ∧ W1.cell? ⟨w.heap.size, 1, none⟩ = some (.slice ag n cg) ∧ W1.cell? ⟨w.heap.size, 2, none⟩ = some (.int .i64 h.hand) := by rw [hW1]; simp
  obtain ⟨hF, hG⟩ := hH.parts
  have hok := fun (W : World) (B : Below w.heap.size w W) => hostOk_core lo hi af ag lf cf n cg h W hlf (hF.same (below_sameIn B hh)) hn (hG.same (below_sameIn B hh)) (Nat.le_trans hh B.size) hS
  obtain ⟨x10, x11, x12⟩ := x1
  have hlt1 : w.heap.size < W1.heap.size := by omega
  have hI1 := fun W => specIn G 0 ((n : Int) - 1) W
  have hI2 := fun W => specIn P 0 5 W
  have hn1 : okHost h = true → 1 ≤ n ∧ n ≤ 2 := fun e => by obtain ⟨_, _, a, b, _⟩ := okHost_frames e; omega
  have he : isB h G P = (okHost h && ((decide (0 ≤ G) && decide (G ≤ (n : Int) - 1)) && (decide (0 ≤ P) && decide (P ≤ 5)))) := by
    rw [isB, seeB, hn, show (decide (G < (n : Int))) = decide (G ≤ (n : Int) - 1) by congr 1; apply propext; constructor <;> intro h <;> omega, Bool.and_assoc]
  rw [he]
  have hok1 := hok W1 B1
  clear hok hF hG hH he hS hlf hn
  generalize okHost h = ob at *
  generalize (decide (0 ≤ G) && decide (G ≤ (n : Int) - 1)) = gb at *
  generalize (decide (0 ≤ P) && decide (P ≤ 5)) = pb at *
  go_enter Try.func69, Try.ntmps69
  go_wp2_with (fail)
  rw [← hW1]
  clear hW1
  refine hok1.mono ?_
  rintro e w2 ⟨rfl, B2⟩
  have HB2 : Hid (Below w.heap.size w w2) := B1.trans (B2.mono B1.size)
  have y1 := (B2.cell (p := ⟨w.heap.size, 1, none⟩) (show w.heap.size < W1.heap.size by omega)).trans x11
  have hlt2 : w.heap.size < w2.heap.size := by have := B2.size; omega
  clear B2 hok1 x10 x11 x12 B1
  cases ob
  · go_wp2
    go_ret
    exact ⟨rfl, HB2.out⟩
  · have hn1 := hn1 rfl
    have hwr : IntKind.i64.wrap ((n : Int) - 1) = (n : Int) - 1 := wrap_small _ (by omega) (by omega)
    go_wp2_with (fail)
    refine (hI1 _).mono ?_
    rintro e w3 ⟨rfl, rfl⟩
    cases gb
    · go_wp2
      go_ret
      exact ⟨rfl, HB2.out⟩
    · go_wp2_with (fail)
      refine (hI2 _).mono ?_
      rintro e w4 ⟨rfl, rfl⟩
      cases pb
      · go_wp2
        go_ret
        exact ⟨rfl, HB2.out⟩
      · go_wp2
        go_ret
        exact ⟨rfl, HB2.out⟩

/-- A host whose guest's shades are other ones, in a block of their own. -/
theorem own_shades {w : World} {N hi : Nat} {vf : Value} {h : Hst} {T cg : Nat} (hO : OwnHost w N hi vf (.slice (some ⟨T, 0, none⟩) h.guests.length cg) h) {G : Nat} (hG : G < h.guests.length) {w' : World} {bs c : Nat} {ss : List S4} (hs : hi ≤ w'.heap.size) (hB : ∀ j, j < hi → j ≠ T → w'.heap[j]? = w.heap[j]?)
    (hC : ∀ i v, w.cell? ⟨T, i, none⟩ = some v → w'.cell? ⟨T, i, none⟩ = some (if i = G * 3 + 2 then .slice (some ⟨bs, 0, none⟩) ss.length c else v)) (hb : hi ≤ bs) (hb' : bs < w'.heap.size) (hQ : Quads w' bs 0 ss) : HostIn w' N w'.heap.size vf (.slice (some ⟨T, 0, none⟩) h.guests.length cg) (setG h G { h.guests.getD G noG with shades := ss }) := by
  obtain ⟨af, cf, m0, m1, rfl, hM, l1, l2, ag, cg', e2, hGs⟩ := hO
  cases e2
  have hlen : (setG h G { h.guests.getD G noG with shades := ss }).guests.length = h.guests.length := List.length_set
  rcases hGs with h0 | ⟨T', g0, e, t1, t2, t3, t4, t5, ps, qs, u1, u2, u3⟩
  · omega
  cases e
  refine ⟨⟨af, cf, rfl, ?_⟩, _, cg, by rw [hlen], rfl, Or.inr ⟨T, 0, rfl, t1, by omega, fun i hi => ?_⟩⟩
  · exact (hM.same (fun j j1 j2 => hB j (by omega) (by omega))).mem.wide l1 (by omega)
  · rw [hlen] at hi
    obtain ⟨vm, vd, vs, c0, c1, c2, hU⟩ := u3 i hi
    obtain ⟨a, b, d⟩ := u1 i hi
    have hU' := (hU.same (w' := w') (fun j j1 j2 => hB j (by omega) (by omega))).guest.wide (lo' := N) (hi' := w'.heap.size) (by omega) (by omega)
    have k0 := hC _ _ c0
    have k1 := hC _ _ c1
    have k2 := hC _ _ c2
    rw [if_neg (by omega)] at k0 k1
    by_cases hiG : i = G
    · subst hiG
      have e : (setG h i { h.guests.getD i noG with shades := ss }).guests.getD i noG = { h.guests.getD i noG with shades := ss } := getD_set_same _ _ _ _ hi
      rw [if_pos rfl] at k2
      refine ⟨_, _, _, by simpa using k0, by simpa using k1, by simpa using k2, ?_⟩
      rw [e]
      exact ⟨hU'.1, hU'.2.1, _, _, rfl, rfl, Or.inr ⟨bs, 0, rfl, by omega, hb', hQ⟩⟩
    · have e : (setG h G { h.guests.getD G noG with shades := ss }).guests.getD i noG = h.guests.getD i noG := getD_set_ne _ _ _ hiG
      rw [if_neg (by omega)] at k2
      refine ⟨_, _, _, by simpa using k0, by simpa using k1, by simpa using k2, ?_⟩
      rw [e]
      exact hU'

set_option maxRecDepth 100000 in
set_option maxHeartbeats 8000000 in
theorem specForget14 (N hi n : Nat) (af : Option Addr) (lf cf : Nat) (T cg : Nat) (h : Hst) (G : Nat) (w : World) (hO : OwnHost w N hi (.slice af lf cf) (.slice (some ⟨T, 0, none⟩) n cg) h) (hR : Room w T (n * 3)) (hn : h.guests.length = n) (hG : G < n) (hhi : hi ≤ w.heap.size) (hN : N ≤ hi) (hT : N ≤ T ∧ T < hi) :
    Calls Try.prog 99 #[.agg #[.slice af lf cf, .slice (some ⟨T, 0, none⟩) n cg, .int .i64 h.hand], .int .i64 G] w fun e w' => e = .returned (.agg #[.slice af lf cf, .slice (some ⟨T, 0, none⟩) n cg, .int .i64 h.hand]) ∧ HostIn w' N w'.heap.size (.slice af lf cf) (.slice (some ⟨T, 0, none⟩) n cg) (setG h G { h.guests.getD G noG with shades := noSs }) ∧ Below N w w' := by
  obtain ⟨mk24, h24⟩ : ∃ c, c = madeCells #[.bool false, .int .i64 0, .int .i64 0, .bool false] 24 := ⟨_, rfl⟩
  have hb24 : ∀ (V : World) (b : Nat), V.heap.size = b → MadeQ (V.alloc (.cells mk24 91)) b := fun V b e => by rw [h24]; exact madeQ_of V e
  have hm2 : ∀ w : World, (Instr.makeSlice 65 (.int .i64 6) (.int .i64 6)).run Try.prog w = .ok (.slice (some ⟨w.heap.size, 0, none⟩) 6 6) (w.alloc (.cells mk24 91)) := fun w => by rw [h24]; exact make_shades 6 (by omega) w
  clear h24
  obtain ⟨W2, hW2⟩ : ∃ W2, W2 = (w.alloc (.cells #[.slice af lf cf, .slice (some ⟨T, 0, none⟩) n cg, .int .i64 h.hand] 27)).alloc (.cells #[.slice none 0 0, .slice none 0 0, .int .i64 0] 27) := ⟨_, rfl⟩
  have B2 : Below w.heap.size w W2 := by rw [hW2]; exact ((Below.refl _ _).alloc (Nat.le_refl _) _).alloc (by simp) _
  have s2 : W2.heap.size ≤ w.heap.size + 2 ∧ w.heap.size + 2 ≤ W2.heap.size := by rw [hW2]; simp
  have p2 : Var3 W2 w.heap.size (.slice af lf cf) (.slice (some ⟨T, 0, none⟩) n cg) (.int .i64 h.hand) := by rw [hW2]; exact (var3_new w _ _ _ _).allocK _
  have r2 : Var3 W2 (w.heap.size + 1) (.slice none 0 0) (.slice none 0 0) (.int .i64 0) := by rw [hW2]; exact var3_newK (by simp)
  have hRT := hR.below B2 (by omega)
  obtain ⟨⟨vt, ht⟩, ft⟩ := hRT (G * 3 + 2) (by omega)
  obtain ⟨x0, x1, x2, _, _, _⟩ := p2
  obtain ⟨y0, y1, y2, z0, z1, z2⟩ := r2
  have hl3 : w.heap.size + 1 < W2.heap.size := by omega
  have HO : Hid (OwnHost w N hi (.slice af lf cf) (.slice (some ⟨T, 0, none⟩) n cg) h) := hO
  clear hO
  have hl1 : w.heap.size < W2.heap.size := by omega
  have hlT : T < W2.heap.size := by omega
  have hGi : (G : Int) < (n : Int) := by omega
  have hne1 : T ≠ w.heap.size := by omega
  have hne2 : T ≠ w.heap.size + 1 := by omega
  go_enter Try.func99, Try.ntmps99
  go_wp2_with (fail)
  rw [← hW2]
  clear hW2
  go_region_with (fail)
  all_goals go_wp2_with fail
  all_goals
    refine bodyPost_ret (v := .agg #[.slice af lf cf, .slice (some ⟨T, 0, none⟩) n cg, .int .i64 h.hand]) (by simp [results, Try.results99, go_sem, *]) rfl ?_
    go_light
    refine ⟨rfl, ?_, ?_⟩
    · have hO := HO.out
      rw [← hn] at hO ⊢
      have hQ24 := (hb24 ((((W2.setCell ⟨T, G * 3 + 2, none⟩ (.slice (some ⟨W2.heap.size, 0, none⟩) 6 6)).setCell ⟨w.heap.size + 1, 0, none⟩ (.slice af lf cf)).setCell ⟨w.heap.size + 1, 1, none⟩ (.slice (some ⟨T, 0, none⟩) h.guests.length cg)).setCell ⟨w.heap.size + 1, 2, none⟩ (.int .i64 h.hand)) W2.heap.size (by simp)).drewK
      refine own_shades (c := 6) hO (by omega) (by simp; omega) (fun j j1 j2 => ?_) (fun i v hv => ?_) (show hi ≤ W2.heap.size by omega) (by simp) hQ24.1
      · rw [show ∀ V : World, V.drew.heap = V.heap from fun _ => rfl, ((Below.refl W2.heap.size _).alloc (by simp) _).block j (by omega), Below.heap_setCell _ _ _ _ (by simp; omega), Below.heap_setCell _ _ _ _ (by simp; omega), Below.heap_setCell _ _ _ _ (by simp; omega), Below.heap_setCell _ _ _ _ (by simpa using j2)]
        exact B2.block j (by omega)
      · have hv2 := (B2.cell (p := ⟨T, i, none⟩) (by show T < w.heap.size; omega)).trans hv
        have k1 := cell_put (j := G * 3 + 2) (u := .slice (some ⟨W2.heap.size, 0, none⟩) 6 6) hv2
        exact cellk_drewK (cellk_alloc (cellk_offK (cellk_offK (cellk_offK k1 (by omega)) (by omega)) (by omega)) _)
    · have BN : Below N w W2 := B2.mono (by omega)
      refine Below.drew (Below.alloc ?_ (by simp; omega) _)
      exact (((BN.setCell (p := ⟨T, G * 3 + 2, none⟩) hT.1 _).setCell (p := ⟨w.heap.size + 1, 0, none⟩) (show N ≤ w.heap.size + 1 by omega) _).setCell (p := ⟨w.heap.size + 1, 1, none⟩) (show N ≤ w.heap.size + 1 by omega) _).setCell (p := ⟨w.heap.size + 1, 2, none⟩) (show N ≤ w.heap.size + 1 by omega) _
theorem isB_zero (h : Hst) (G : Int) : isB h G 0 = seeB h G := by simp [isB]
theorem givesI_ret {w w0 w' : World} {h : Hst} {a1 a2 : Option Addr} {l1 c1 l2 c2 : Nat} (hB : Below w.heap.size w w0) (hO : HostIn w' w0.heap.size w'.heap.size (.slice a1 l1 c1) (.slice a2 l2 c2) h) (hB' : Below w0.heap.size w0 w') {R : Nat} (hR : w.heap.size ≤ R) (hR' : R < w0.heap.size) (x y z : Value) :
    GivesI w (ret3 w' R x y z) (.returned (.agg #[.slice a1 l1 c1, .slice a2 l2 c2, .int .i64 h.hand])) h :=
  ⟨_, _, _, _, _, _, rfl, by rw [ret3_size]; exact (hO.same (ret3_same w' R x y z (Or.inl hR'))).wide hB.size (Nat.le_refl _), ret3_below (hB.trans (hB'.mono hB.size)) hR x y z⟩

set_option maxRecDepth 100000 in
set_option maxHeartbeats 8000000 in
theorem specHostForgetG (lo hi : Nat) (af ag : Option Addr) (lf cf n cg : Nat) (h : Hst) (G : Int) (w : World) (hH : HostIn w lo hi (.slice af lf cf) (.slice ag n cg) h) (hlf : h.frames.length = lf) (hn : h.guests.length = n) (hh : hi ≤ w.heap.size) (hS : SmallH h) :
    Calls Try.prog 46 #[.agg #[.slice af lf cf, .slice ag n cg, .int .i64 h.hand], .int .i64 G] w fun e w' => GivesI w w' e (forgetH h G) := by
  obtain ⟨W0, hW0⟩ : ∃ W0, W0 = (w.alloc (.cells #[.slice af lf cf, .slice ag n cg, .int .i64 h.hand] 27)).alloc (.cells #[.slice none 0 0, .slice none 0 0, .int .i64 0] 27) := ⟨_, rfl⟩
  have B0 : Below w.heap.size w W0 := by rw [hW0]; exact ((Below.refl _ _).alloc (Nat.le_refl _) _).alloc (by simp) _
  have s0 : w.heap.size + 1 < W0.heap.size := by rw [hW0]; simp
  have p0 : Var3 W0 w.heap.size (.slice af lf cf) (.slice ag n cg) (.int .i64 h.hand) := by rw [hW0]; exact (var3_new w _ _ _ _).allocK _
  have r0 : Var3 W0 (w.heap.size + 1) (.slice none 0 0) (.slice none 0 0) (.int .i64 0) := by rw [hW0]; exact var3_newK (by simp)
  have hc := specIs13 lo hi af ag lf cf n cg h G 0 W0 (hH.same (below_sameIn B0 hh)) hlf hn (Nat.le_trans hh B0.size) hS
  rw [isB_zero] at hc
  obtain ⟨p00, p01, p02, _, _, _⟩ := p0
  have hl0 : w.heap.size < W0.heap.size := by omega
  cases hb : seeB h G
  · have hS : forgetH h G = noH := by rw [forgetH, hb]; rfl
    rw [hS]
    rw [hb] at hc
    go_enter Try.func46, Try.ntmps46
    go_wp2_with (fail)
    rw [← hW0]
    clear hW0
    refine hc.mono ?_
    rintro e w1 ⟨rfl, B1⟩
    have HB : Hid (Below w.heap.size w w1) := B0.trans (B1.mono B0.size)
    obtain ⟨q0, q1, q2, f0, f1, f2⟩ := r0.same (B1.block _ s0)
    have hlt : w.heap.size + 1 < w1.heap.size := Nat.lt_of_lt_of_le s0 B1.size
    clear hc B0 B1 r0 p00 p01 p02
    go_wp2
    refine bodyPost_ret (v := .agg #[.slice none 0 0, .slice none 0 0, .int .i64 0]) (by simp [results, Try.results46, go_sem, *]) rfl ?_
    exact (givesH_no HB.out (Nat.le_succ _) _ _ _).toI
  · have hF : forgetH h G = setG h G.toNat { h.guests.getD G.toNat noG with shades := noSs } := by rw [forgetH, hb]; rfl
    have hp := hb
    simp only [seeB, Bool.and_eq_true, decide_eq_true_eq] at hp
    obtain ⟨ho, h0, h1⟩ := hp
    obtain ⟨G', rfl⟩ := Int.eq_ofNat_of_zero_le h0
    obtain ⟨hf8, hf4, hg1, hg2, _⟩ := okHost_frames ho
    rw [Int.toNat_natCast] at hF
    rw [hF]
    rw [hb] at hc
    obtain rfl : lf = 8 := by omega
    obtain ⟨hFm, hGm⟩ := hH.parts
    have hcp := fun (W : World) (B : Below w.heap.size w W) => specHostCopy lo hi af ag cf n cg h W (hFm.same (below_sameIn B hh)) (hGm.same (below_sameIn B hh)) (Nat.le_trans hh B.size) ho hn
    clear hH hFm hGm
    go_enter Try.func46, Try.ntmps46
    go_wp2_with (fail)
    rw [← hW0]
    clear hW0
    refine hc.mono ?_
    rintro e w1 ⟨rfl, B1⟩
    have s01 := B1.size
    have B01 : Below w.heap.size w w1 := B0.trans (B1.mono B0.size)
    have hcp1 := hcp w1 B01
    have r1 := r0.same (B1.block _ s0)
    obtain ⟨p10, p11, p12⟩ := cells3 B1 hl0 ⟨p00, p01, p02⟩
    have hl1 : w.heap.size < w1.heap.size := by omega
    clear hc hcp p00 p01 p02 r0
    go_wp2_with (fail)
    refine hcp1.mono ?_
    rintro e w2 ⟨vf, T, c, rfl, hO2, hR2, B2⟩
    have s12 := B2.size
    have r2 := r1.same (B2.block _ (by omega))
    have hO2' := hO2
    obtain ⟨af2, cf2, m0, m1, rfl, _, _, _, ag2, cg2, e2, hT⟩ := hO2'
    have hT' : w1.heap.size ≤ T ∧ T < w2.heap.size := by
      rcases hT with h0 | ⟨T', g0, e3, t1, t2, _⟩
      · omega
      · rw [e3] at e2
        cases e2
        exact ⟨t1, t2⟩
    rw [hf8] at hO2 ⊢
    have hfo := specForget14 w1.heap.size w2.heap.size n af2 8 cf2 T c h G' w2 hO2 hR2 hn (by omega) (Nat.le_refl _) s12 hT'
    clear hcp1 hO2 hR2 e2 hT
    go_wp2_with (fail)
    refine hfo.mono ?_
    rintro e w3 ⟨rfl, hI3, B3⟩
    have HI3 : Hid (HostIn w3 w1.heap.size w3.heap.size (.slice af2 8 cf2) (.slice (some ⟨T, 0, none⟩) n c) (setG h G' { h.guests.getD G' noG with shades := noSs })) := hI3
    have B13 : Hid (Below w1.heap.size w1 w3) := B2.trans B3
    have HB01 : Hid (Below w.heap.size w w1) := B01
    obtain ⟨q0, q1, q2, f0, f1, f2⟩ := r2.same (B3.block _ (by omega))
    have hlt : w.heap.size + 1 < w3.heap.size := by have := B13.out.size; omega
    clear hfo hI3 B3 B2 r2 r1 B1 B01 B0 p10 p11 p12
    go_wp2
    refine bodyPost_ret (v := .agg #[.slice af2 8 cf2, .slice (some ⟨T, 0, none⟩) n c, .int .i64 h.hand]) (by simp [results, Try.results46, go_sem, *]) rfl ?_
    exact givesI_ret (h := setG h G' { h.guests.getD G' noG with shades := noSs }) HB01.out HI3.out B13.out (Nat.le_succ _) (by omega) _ _ _
end Go.Proofs.Ytcaknccodndmiaa
