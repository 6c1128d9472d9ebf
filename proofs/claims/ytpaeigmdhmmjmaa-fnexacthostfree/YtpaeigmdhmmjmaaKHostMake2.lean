/-
  What the given HostLoad and HostNew do, at every argument.
-/
import Derived.Test.YtpaeigmdhmmjmaaKHostMake1
set_option linter.unusedSimpArgs false
namespace Go.Proofs.Ytpaeigmdhmmjmaa
open Go.RowKit
attribute [local go_sem ↓] Go.wp_at_zero Go.wp_at_succ exec_app
attribute [local go_sem] bigNext_ok

theorem specHostLoad (lo hi : Nat) (a : Option Addr) (len cap : Nat) (ms : List (List Int)) (w : World) (h : IsMem w lo hi a len ms) (hh : hi ≤ w.heap.size) (hn : len ≤ 1048576) (hcap : len ≤ cap) (hL : ∀ i, i < len → (ms.getD i []).length ≤ 1048576) :
    Calls Try.prog 23 #[.slice a len cap] w fun e w' => ∃ vf vg, e = .returned (.tuple #[.agg #[vf, vg, .int .i64 0], .bool (loadB ms)]) ∧ OwnHost w' w.heap.size w'.heap.size vf vg (loadH ms) ∧ Below w.heap.size w w' := by
  cases hb : loadB ms
  · rw [loadH_no hb]
    refine (specHostLoad_no lo hi a len cap ms w h hh hn hL hb).mono ?_
    rintro e w' ⟨rfl, hB⟩
    exact ⟨_, _, rfl, ownHost_none w' hB.size, hB⟩
  · obtain ⟨n, rfl, h1, h2, ho⟩ := (loadB_nat h.1).1 hb
    rw [loadH_yes h.1 hb]
    have h' := h
    obtain ⟨_, hd⟩ := h'
    rcases hd with h0 | ⟨b, o, rfl, _⟩
    · omega
    · exact specHostLoad_yes lo hi b o n cap ms w h hh ho h1 h2 hcap

theorem newH_guests (n : Nat) (i : Nat) (hi : i < n) : ((List.range n).map (ldG (zeroM (n * 6)))).getD i noG = outG (zeroM 6) := by
  simp only [List.getD_eq_getElem?_getD, List.getElem?_map, List.getElem?_range hi, Option.map_some, Option.getD_some, ldG, outG, zeroM, List.drop_replicate, List.take_replicate]
  congr 2
  have := Nat.mul_le_mul_right 6 (show i + 1 ≤ n by omega)
  omega

set_option maxRecDepth 100000 in
set_option maxHeartbeats 8000000 in
theorem specHostNew (n : Int) (w : World) :
    Calls Try.prog 8 #[.int .i64 n] w fun e w' => ∃ vf vg, e = .returned (.tuple #[.agg #[vf, vg, .int .i64 0], .bool (newB n)]) ∧ OwnHost w' w.heap.size w'.heap.size vf vg (newH n) ∧ Below w.heap.size w w' := by
  have hI := specIn n 1 2
  rw [show (decide (1 ≤ n) && decide (n ≤ 2)) = newB n from rfl] at hI
  cases hb : newB n
  · rw [show newH n = noH by rw [newH, hb]; rfl]
    rw [hb] at hI
    go_enter Try.func8, Try.ntmps8
    go_wp2_with (fail)
    refine (hI _).mono ?_
    rintro e w1 ⟨rfl, rfl⟩
    go_wp2
    refine bodyPost_ret (v := .tuple #[.agg #[.slice none 0 0, .slice none 0 0, .int .i64 0], .bool false]) (by simp [results, Try.results8, go_sem, *]) rfl ⟨_, _, rfl, ownHost_none _ (by simp), ?_⟩
    (repeat' (with_reducible (first | exact Below.refl _ _ | apply Below.setCell | apply Below.alloc | apply below_drewN | apply Below.drew))) <;> (first | exact Nat.le_refl _ | (simp; done) | (simp; omega))
  · rw [hb] at hI
    have hn : 1 ≤ n ∧ n ≤ 2 := by simpa [newB] using hb
    obtain ⟨N, rfl⟩ := Int.eq_ofNat_of_zero_le (show 0 ≤ n by omega)
    have hN1 : 1 ≤ N := by omega
    have hN2 : N ≤ 2 := by omega
    have hlb : loadB (zeroM (N * 6)) = true := (loadB_nat (by simp [zeroM])).2 ⟨N, rfl, hN1, hN2, okM_zero _⟩
    rw [show newH (N : Int) = ⟨zeroM 8, (List.range N).map (ldG (zeroM (N * 6))), 0⟩ by rw [newH, hb, Int.toNat_natCast, cond_true, loadH_yes (n := N) (by simp [zeroM]) hlb]]
    have hgs : ∀ k, k < N → ((List.range N).map (ldG (zeroM (N * 6)))).getD k noG = outG (zeroM 6) := fun i hi => newH_guests N i hi
    have hgl : ((List.range N).map (ldG (zeroM (N * 6)))).length = N := by simp
    generalize (List.range N).map (ldG (zeroM (N * 6))) = gs at hgs hgl
    have B0 : Below w.heap.size w (w.alloc (.cells #[.slice none 0 0, .slice none 0 0, .int .i64 0] 25)) := (Below.refl _ _).alloc (Nat.le_refl _) _
    clear hb hn hlb
    go_enter Try.func8, Try.ntmps8
    go_wp2_with (fail)
    refine (hI _).mono ?_
    rintro e w1 ⟨rfl, rfl⟩
    go_wp2_with (fail)
    refine (specNew _).mono ?_
    rintro e w2 ⟨af, cf, rfl, hM2, B2⟩
    rw [World.size_alloc] at hM2 B2
    clear hI
    go_wp2_with (fail)
    go_loopw [5] (fun i wr => ∃ k : Nat, ∃ ag cg, k ≤ N ∧ i = .int .i64 k ∧ Hid (LoadUp w wr w2.heap.size k af cf ag cg gs)) (fun i _ => N - (intOf i).toNat)
    case atStart =>
      go_light
      have hs2 := B2.size
      rw [World.size_alloc] at hs2
      refine ⟨0, none, 0, Nat.zero_le _, rfl, var3_newK rfl, ?_, ?_, by simp, by omega, ?_, [], World.ownsRow_nil _ _ _ _, GuestsVs.nil _ _ _ _ _ _⟩
      · exact Var3.allocK ((var3_new w (.slice none 0 0) (.slice none 0 0) (.int .i64 0) 25).same (B2.block _ (by omega))) _
      · exact hM2.same (below_sameIn ((Below.refl _ _).alloc (Nat.le_refl _) _) (Nat.le_refl _))
      · exact (B0.trans (B2.mono (Nat.le_succ _))).alloc (by omega) _
    case round =>
      obtain ⟨k, ag, cg, hk, rfl, hU⟩ := hrel
      by_cases hkl : k < N
      · have hki : (k : Int) < (N : Int) := by omega
        have hU' := hU.out
        obtain ⟨⟨x0, x1, x2, y0, y1, y2⟩, _, _, hXl, hwX, hB, _⟩ := hU'
        have hCm : ∀ W, Below wr.heap.size wr W → W.heap.size = wr.heap.size → Calls Try.prog 34 #[.int .i64 6] W fun e w' => ∃ a c, e = .returned (.slice a 6 c) ∧ w'.cell? ⟨w2.heap.size, 1, none⟩ = some (.slice ag k cg) ∧ w2.heap.size < w'.heap.size ∧ Hid (Below W.heap.size W w') ∧ Hid (OwnMem w' wr.heap.size w'.heap.size a 6 (zeroM 6)) := fun W hBW hsW => by
          refine (specMemNew_yes 6 W (by omega)).mono ?_
          rintro e w' ⟨a, c, rfl, hM, _, B'⟩
          rw [hsW] at hM
          have hBB := hBW.trans (B'.mono (Nat.le_of_eq hsW.symm))
          exact ⟨a, c, rfl, (hBB.cell (p := ⟨w2.heap.size, 1, none⟩) hXl).trans x1, Nat.lt_of_lt_of_le hXl hBB.size, B', hM⟩
        have hCg : ∀ (W W' : World) (a : Option Addr) (c : Nat), Below wr.heap.size wr W → W.heap.size = wr.heap.size → Below W.heap.size W W' → OwnMem W' wr.heap.size W'.heap.size a 6 (zeroM 6) → Calls Try.prog 33 #[.slice a 6 c] W' fun e w' => ∃ bm cm ad cd bs cs, e = .returned (.agg #[.slice (some ⟨bm, 0, none⟩) 6 cm, .slice ad 6 cd, .slice (some ⟨bs, 0, none⟩) 6 cs]) ∧ w'.cell? ⟨w2.heap.size, 1, none⟩ = some (.slice ag k cg) ∧ w2.heap.size < w'.heap.size ∧ ∃ g cap w1, appRun Try.prog 23 23 (.slice ag k cg) (.slice (some ⟨w'.heap.size, 0, none⟩) 1 1) (w'.alloc (.cells #[.slice (some ⟨bm, 0, none⟩) 6 cm, .slice ad 6 cd, .slice (some ⟨bs, 0, none⟩) 6 cs] 54)) = .ok (.slice (some ⟨g, 0, none⟩) (k + 1) cap) w1 ∧
            w1.cell? ⟨w2.heap.size, 1, none⟩ = some (.slice ag k cg) ∧ w1.frozen? ⟨w2.heap.size, 1, none⟩ = false ∧ Hid (LoadUp w (w1.setCell ⟨w2.heap.size, 1, none⟩ (.slice (some ⟨g, 0, none⟩) (k + 1) cap)) w2.heap.size (k + 1) af cf (some ⟨g, 0, none⟩) cap gs) := fun W W' a c hBW hsW BWW hMW => by
          refine (specGuest12 wr.heap.size W'.heap.size a c (zeroM 6) W' hMW.mem (Nat.le_refl _) (fun i hi => by rw [zeroM_get hi]; simp)).mono ?_
          rintro e w' ⟨vm, vd, vs, rfl, hG, B'⟩
          have hG' := hG
          obtain ⟨bm, bs, cm, cs, ad, cd, d0, d1, rfl, rfl, rfl, _⟩ := hG'
          have hsWW := BWW.size
          have hG2 : OwnGuest w' W.heap.size w'.heap.size (.slice (some ⟨bm, 0, none⟩) 6 cm) (.slice ad 6 cd) (.slice (some ⟨bs, 0, none⟩) 6 cs) (gs.getD k noG) := by
            rw [hgs k hkl]
            exact hG.wide hsWW (Nat.le_refl _)
          obtain ⟨q1, q2, q3⟩ := loadUp_app hU.out (by omega) hBW hsW (BWW.trans (B'.mono hsWW)) hG2
          exact ⟨bm, cm, ad, cd, bs, cs, rfl, q1, q2, q3⟩
        go_wp2_with (fail)
        go_region_with (first | (go_at_call 34; refine (hCm _ ((Below.refl _ _).drew) rfl).mono ?_; rintro e w4 ⟨a4, c4, rfl, z3, z4, HB4, HM4⟩) | (go_at_call 33; refine (hCg wr.drew _ _ _ ((Below.refl _ _).drew) rfl HB4.out HM4.out).mono ?_; rintro e w5 ⟨bm, cm, ad, cd, bs, cs, rfl, z1, z2, g, cp, w6, hApp, x6, f6, HN⟩))
        all_goals
          clear hApp hCg hCm
          go_wp2
          go_roundw
          case rel => exact ⟨k + 1, _, _, by omega, by go_num, HN⟩
          case measure => simp [intOf]; omega
      · have hkk : k = N := by omega
        subst hkk
        obtain ⟨⟨x0, x1, x2, y0, y1, y2⟩, ⟨d0, d1, d2, e0, e1, e2⟩, hM, hXl, hwX, hB, vs, hown, hgv⟩ := hU.out
        obtain ⟨T, cg', e, hT1, hT2⟩ := hown.form (by omega)
        cases e
        have hwb : w.heap.size < wr.heap.size := by omega
        have HO : Hid (OwnHost wr (w.heap.size + 1) wr.heap.size (.slice af 8 cf) (.slice (some ⟨T, 0, none⟩) k cg) ⟨zeroM 8, gs, 0⟩) :=
          ⟨af, cf, _, _, rfl, hM, Nat.le_refl _, by omega, _, cg, by rw [hgl], Or.inr ⟨T, w2.heap.size + 1, rfl, by omega, hT2, Or.inr (by omega), by omega, by omega, by rw [hgl]; exact hgv.guests hown⟩⟩
        clear hM hown hgv hU
        go_wp2
        refine bodyPost_ret (v := .tuple #[.agg #[.slice af 8 cf, .slice (some ⟨T, 0, none⟩) k cg, .int .i64 0], .bool true]) (by simp [results, Try.results8, go_sem, *]) rfl ?_
        have s5 : SameIn (w.heap.size + 1) wr.heap.size wr (((wr.setCell ⟨w.heap.size, 0, none⟩ (.slice af 8 cf)).setCell ⟨w.heap.size, 1, none⟩ (.slice (some ⟨T, 0, none⟩) k cg)).setCell ⟨w.heap.size, 2, none⟩ (.int .i64 0)) := fun j k1 k2 => by
          rw [Below.heap_setCell _ _ _ _ (by simp; omega), Below.heap_setCell _ _ _ _ (by simp; omega), Below.heap_setCell _ _ _ _ (by simp; omega)]
        refine ⟨_, _, rfl, OwnHost.wide (lo := w.heap.size + 1) (hi := wr.heap.size) (OwnHost.same s5 HO.out) (by omega) (by simp), ?_⟩
        exact ((hB.setCell (p := ⟨w.heap.size, 0, none⟩) (Nat.le_refl _) _).setCell (p := ⟨w.heap.size, 1, none⟩) (Nat.le_refl _) _).setCell (p := ⟨w.heap.size, 2, none⟩) (Nat.le_refl _) _
end Go.Proofs.Ytpaeigmdhmmjmaa
