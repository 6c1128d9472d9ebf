/-
  What the given HostCarry does.
-/
import Derived.Test.YtjegndgdpmlbaaaKOW
import Derived.Test.YtjegndgdpmlbaaaKOY
import Derived.Test.YtjegndgdpmlbaaaKOM
set_option linter.unusedSimpArgs false
namespace Go.Proofs.Ytjegndgdpmlbaaa
open Go.RowKit
attribute [local go_sem ↓] Go.wp_at_zero Go.wp_at_succ exec_app
attribute [local go_sem] bigNext_ok

/-- All guests, carried. -/
def carG (h : Hst) : List Gst := h.guests.map fun g => outG (seeM h.frames g)
theorem carG_get (h : Hst) {k : Nat} (hk : k < h.guests.length) : (carG h).getD k noG = outG (seeM h.frames (h.guests.getD k noG)) := by
  simp [carG, List.getD_eq_getElem?_getD, hk]

theorem loadUp_app2 {w wr w' : World} {X k : Nat} {af : Option Addr} {cf : Nat} {ag : Option Addr} {cg : Nat} {gs : List Gst} (h : LoadUp w wr X k af cf ag cg gs) (hk : k ≤ 1000) {N : Nat} (hN : wr.heap.size ≤ N) (B : Below wr.heap.size wr w') {bm cm cd bs cs : Nat} {ad : Option Addr}
    (hG : OwnGuest w' N w'.heap.size (.slice (some ⟨bm, 0, none⟩) 6 cm) (.slice ad 6 cd) (.slice (some ⟨bs, 0, none⟩) 6 cs) (gs.getD k noG)) :
    w'.cell? ⟨X, 1, none⟩ = some (.slice ag k cg) ∧ X < w'.heap.size ∧ ∃ g cap w1, appRun Try.prog 24 24 (.slice ag k cg) (.slice (some ⟨w'.heap.size, 0, none⟩) 1 1) (w'.alloc (.cells #[.slice (some ⟨bm, 0, none⟩) 6 cm, .slice ad 6 cd, .slice (some ⟨bs, 0, none⟩) 6 cs] 39)) = .ok (.slice (some ⟨g, 0, none⟩) (k + 1) cap) w1 ∧
      w1.cell? ⟨X, 1, none⟩ = some (.slice ag k cg) ∧ w1.frozen? ⟨X, 1, none⟩ = false ∧ Hid (LoadUp w (w1.setCell ⟨X, 1, none⟩ (.slice (some ⟨g, 0, none⟩) (k + 1) cap)) X (k + 1) af cf (some ⟨g, 0, none⟩) cap gs) :=
  loadUp_app h hk (Below.refl _ _) rfl B (hG.wide hN (Nat.le_refl _))

set_option maxRecDepth 100000 in
set_option maxHeartbeats 8000000 in
theorem specCarry21R (lo hi : Nat) (af ag : Option Addr) (cf n cg : Nat) (h : Hst) (w : World) (hF : IsMem w lo hi af 8 h.frames) (hG : IsGuests w lo hi ag n h.guests) (hh : hi ≤ w.heap.size) (ho : okHost h = true) (hn : h.guests.length = n) :
    Calls Try.prog 111 #[.agg #[.slice af 8 cf, .slice ag n cg, .int .i64 h.hand]] w fun e w' => ∃ vf vg, e = .returned (.agg #[vf, vg, .int .i64 0]) ∧ OwnHost w' w.heap.size w'.heap.size vf vg ⟨zeroM 8, carG h, 0⟩ ∧ Below w.heap.size w w' ∧ ∃ T c, vg = .slice (some ⟨T, 0, none⟩) n c ∧ n ≤ c ∧ Room w' T (c * 3) := by
  obtain ⟨W1, hW1⟩ : ∃ W1, W1 = w.alloc (.cells #[.slice af 8 cf, .slice ag n cg, .int .i64 h.hand] 26) := ⟨_, rfl⟩
  have s1 : W1.heap.size = w.heap.size + 1 := by rw [hW1]; simp
  have B1 : Below w.heap.size w W1 := by rw [hW1]; exact (Below.refl _ _).alloc (Nat.le_refl _) _
  have x1 : W1.cell? ⟨w.heap.size, 0, none⟩ = some (.slice af 8 cf) ∧ W1.cell? ⟨w.heap.size, 1, none⟩ = some (.slice ag n cg) ∧ W1.cell? ⟨w.heap.size, 2, none⟩ = some (.int .i64 h.hand) := by rw [hW1]; simp
  obtain ⟨_, _, hg1, hg2, _⟩ := okHost_frames ho
  have hgs := fun k (hk : k < n) => carG_get h (by omega : k < h.guests.length)
  have hgl : (carG h).length = n := by simp [carG, hn]
  have hp4 : ∀ k, k < n → ∀ i, i < 6 → ((seeM h.frames (h.guests.getD k noG)).getD i []).length = 4 := fun k hk i hi => by rw [seeM_get _ _ hi]; exact pageM_len ho (by omega) hi
  generalize carG h = gs at hgs hgl
  go_enter Try.func111, Try.ntmps111
  go_wp2_with (fail)
  rw [← hW1, ← s1]
  have B0 : Below W1.heap.size W1 (W1.alloc (.cells #[.slice none 0 0, .slice none 0 0, .int .i64 0] 26)) := (Below.refl _ _).alloc (Nat.le_refl _) _
  refine (specNew _).mono ?_
  rintro e w2 ⟨aF, cF, rfl, hM2, B2⟩
  rw [World.size_alloc] at hM2 B2
  have hs2 := B2.size
  rw [World.size_alloc] at hs2
  clear hW1
  go_wp2_with (fail)
  go_loopw [4] (fun i wr => ∃ k : Nat, ∃ aG cG, k ≤ n ∧ i = .int .i64 k ∧ Hid (LoadUp W1 wr w2.heap.size k aF cF aG cG gs)) (fun i _ => n - (intOf i).toNat)
  case atStart =>
    go_light
    refine ⟨0, none, 0, Nat.zero_le _, rfl, var3_newK rfl, ?_, ?_, by simp, by omega, ?_, [], World.ownsRow_nil _ _ _ _, GuestsVs.nil _ _ _ _ _ _⟩
    · exact Var3.allocK ((var3_new W1 (.slice none 0 0) (.slice none 0 0) (.int .i64 0) 26).same (B2.block _ (by omega))) _
    · exact hM2.same (below_sameIn ((Below.refl _ _).alloc (Nat.le_refl _) _) (Nat.le_refl _))
    · exact (B0.trans (B2.mono (Nat.le_succ _))).alloc (by omega) _
  case round =>
    obtain ⟨k, aG, cG, hk, rfl, hU⟩ := hrel
    have hU' := hU.out
    obtain ⟨⟨x0, x1', x2, y0, y1, y2⟩, ⟨d0, d1, d2, e0, e1, e2⟩, hM, hXl, hwX, hB, vs, hown, hgv⟩ := hU'
    obtain ⟨z0, z1, z2⟩ := cells3 hB (by omega : w.heap.size < W1.heap.size) x1
    have hlw : w.heap.size < wr.heap.size := by omega
    by_cases hkl : k < n
    · have hki : (k : Int) < (n : Int) := by omega
      have BW : Below w.heap.size w wr := B1.trans (hB.mono (by omega))
      have hSee : ∀ W, Below wr.heap.size wr W → Calls Try.prog 57 #[.agg #[.slice af 8 cf, .slice ag n cg, .int .i64 h.hand], .int .i64 k] W fun e w' => ∃ a c, e = .returned (.slice a 6 c) ∧ w'.cell? ⟨w2.heap.size, 1, none⟩ = some (.slice aG k cG) ∧ w2.heap.size < w'.heap.size ∧
          Calls Try.prog 107 #[.slice a 6 c] w' fun e w'' => ∃ bm cm ad cd bs cs, e = .returned (.agg #[.slice (some ⟨bm, 0, none⟩) 6 cm, .slice ad 6 cd, .slice (some ⟨bs, 0, none⟩) 6 cs]) ∧ w''.cell? ⟨w2.heap.size, 1, none⟩ = some (.slice aG k cG) ∧ w2.heap.size < w''.heap.size ∧ ∃ g cap w1, appRun Try.prog 24 24 (.slice aG k cG) (.slice (some ⟨w''.heap.size, 0, none⟩) 1 1) (w''.alloc (.cells #[.slice (some ⟨bm, 0, none⟩) 6 cm, .slice ad 6 cd, .slice (some ⟨bs, 0, none⟩) 6 cs] 39)) = .ok (.slice (some ⟨g, 0, none⟩) (k + 1) cap) w1 ∧
          w1.cell? ⟨w2.heap.size, 1, none⟩ = some (.slice aG k cG) ∧ w1.frozen? ⟨w2.heap.size, 1, none⟩ = false ∧ Hid (LoadUp W1 (w1.setCell ⟨w2.heap.size, 1, none⟩ (.slice (some ⟨g, 0, none⟩) (k + 1) cap)) w2.heap.size (k + 1) aF cF (some ⟨g, 0, none⟩) cap gs) := fun W hBW => by
        have hBB := BW.trans (hBW.mono BW.size)
        refine (specSee12 lo hi af ag cf n cg k h W (hF.same (below_sameIn hBB hh)) (hG.same (below_sameIn hBB hh)) (Nat.le_trans hh hBB.size) ho hn hkl).mono ?_
        rintro e w' ⟨a, c, rfl, hO, B'⟩
        have hBw' : Below wr.heap.size wr w' := hBW.trans (B'.mono hBW.size)
        refine ⟨a, c, rfl, (hBw'.cell (p := ⟨w2.heap.size, 1, none⟩) hXl).trans x1', Nat.lt_of_lt_of_le hXl hBw'.size, ?_⟩
        refine (specGuest12 W.heap.size w'.heap.size a c _ w' (OwnMem.mem hO) (Nat.le_refl _) (fun i hi => ?_)).mono ?_
        · rw [hp4 k hkl i hi]; omega
        · rintro e w'' ⟨vm, vd, vs, rfl, hG1, B''⟩
          have hG' := hG1
          obtain ⟨bm, bs, cm, cs, ad, cd, d0, d1, rfl, rfl, rfl, _⟩ := hG'
          have hd6 : (outG (seeM h.frames (h.guests.getD k noG))).disk.length = 6 := seeM_len _ _
          rw [hd6] at hG1
          have hG2 : OwnGuest w'' w'.heap.size w''.heap.size (.slice (some ⟨bm, 0, none⟩) 6 cm) (.slice ad 6 cd) (.slice (some ⟨bs, 0, none⟩) 6 cs) (gs.getD k noG) := by
            rw [hgs k hkl]
            exact hG1
          obtain ⟨q1, q2, q3⟩ := loadUp_app2 hU.out (by omega) hBw'.size (hBw'.trans (B''.mono hBw'.size)) hG2
          exact ⟨bm, cm, ad, cd, bs, cs, by rw [hd6]; rfl, q1, q2, q3⟩
      clear hM hown hgv hU d0 d1 d2 e0 e1 e2
      go_wp2_with (fail)
      go_region_with (first | (go_at_call 57; refine (hSee _ ((Below.refl _ _).drew)).mono ?_; rintro e w4 ⟨a4, c4, rfl, z4, l4, hGst⟩) | (go_at_call 107; refine hGst.mono ?_; rintro e w5 ⟨bm, cm, ad, cd, bs, cs, rfl, z1, z2, g, cp, w6, hApp, x6, f6, HN⟩; clear hGst) | fail)
      all_goals
        clear hApp hSee
        go_wp2
        go_roundw
        case rel => exact ⟨k + 1, _, _, by omega, by go_num, HN⟩
        case measure => simp [intOf]; omega
    · have hkk : k = n := by omega
      subst hkk
      obtain ⟨T, cg', e, hT1, hT2⟩ := hown.form (by omega)
      cases e
      have hwb : W1.heap.size < wr.heap.size := by omega
      have HO : Hid (OwnHost wr (W1.heap.size + 1) wr.heap.size (.slice aF 8 cF) (.slice (some ⟨T, 0, none⟩) k cG) ⟨zeroM 8, gs, 0⟩) :=
        ⟨aF, cF, _, _, rfl, hM, Nat.le_refl _, by omega, _, cG, by rw [hgl], Or.inr ⟨T, w2.heap.size + 1, rfl, by omega, hT2, Or.inr (by omega), by omega, by omega, by rw [hgl]; exact hgv.guests hown⟩⟩
      have HB := hidE (B1.trans (hB.mono (by omega)))
      rw [s1] at d0 d1 d2 e0 e1 e2 hwb HO
      have HRm := (show Hid (k ≤ cG ∧ Room wr T (cG * 3)) from own_roomV hown)
      have hTl : w.heap.size + 1 < T := by omega
      clear hM hown hgv hU hwX hB x1
      have hlw2 : w.heap.size + 1 < wr.heap.size := hwb
      go_wp2
      refine bodyPost_ret (v := .agg #[.slice aF 8 cF, .slice (some ⟨T, 0, none⟩) k cG, .int .i64 0]) (by simp [results, Try.results111, go_sem, *]) rfl ?_
      have s5 : SameIn (w.heap.size + 1 + 1) wr.heap.size wr (((wr.setCell ⟨w.heap.size + 1, 0, none⟩ (.slice aF 8 cF)).setCell ⟨w.heap.size + 1, 1, none⟩ (.slice (some ⟨T, 0, none⟩) k cG)).setCell ⟨w.heap.size + 1, 2, none⟩ (.int .i64 0)) := fun j k1 k2 => by
        rw [Below.heap_setCell _ _ _ _ (by simp; omega), Below.heap_setCell _ _ _ _ (by simp; omega), Below.heap_setCell _ _ _ _ (by simp; omega)]
      refine ⟨_, _, rfl, OwnHost.wide (lo := w.heap.size + 1 + 1) (hi := wr.heap.size) (OwnHost.same s5 HO.out) (by omega) (by simp), ?_, T, cG, rfl, HRm.out.1, Room.same (lo := T) (hi := T + 1) (fun j k1 k2 => by rw [Below.heap_setCell _ _ _ _ (by simp; omega), Below.heap_setCell _ _ _ _ (by simp; omega), Below.heap_setCell _ _ _ _ (by simp; omega)]) HRm.out.2 (Nat.le_refl _) (Nat.lt_succ_self _)⟩
      exact ((HB.out.setCell (p := ⟨w.heap.size + 1, 0, none⟩) (Nat.le_succ _) _).setCell (p := ⟨w.heap.size + 1, 1, none⟩) (Nat.le_succ _) _).setCell (p := ⟨w.heap.size + 1, 2, none⟩) (Nat.le_succ _) _

end Go.Proofs.Ytjegndgdpmlbaaa
