/-
  What the program's own HostForget answers.
-/
import Derived.Test.YtcaknccodndmiaaKM
set_option linter.unusedSimpArgs false
namespace Go.Proofs.Ytcaknccodndmiaa
open Go.RowKit
attribute [local go_sem ↓] Go.wp_at_zero Go.wp_at_succ exec_app exec_lod exec_house exec_mapsA exec_allocL exec_storeL exec_buildL exec_idxM exec_look exec_upd exec_allocH exec_buildH exec_storeH exec_bsL
attribute [local go_sem] bigNext_ok bigSkip_ok

def noSs : List S4 := List.replicate 6 noS
def forgetH (h : Hst) (G : Int) : Hst := bif seeB h G then setG h G.toNat { h.guests.getD G.toNat noG with shades := noSs } else noH
theorem shaped_HostForget {h : Hst} {G : Int} : Shaped (forgetH h G) := by
  rw [forgetH]
  cases hb : seeB h G
  · exact shaped_no
  · simp only [seeB, Bool.and_eq_true, decide_eq_true_eq] at hb
    obtain ⟨ho, h0, h1⟩ := hb
    obtain ⟨⟨s1, s2, s3, s4⟩, _⟩ := okHost_guest ho (show G.toNat < h.guests.length by omega)
    exact shaped_setG (shaped_ok ho) ⟨s1, s2, s3, rfl⟩

theorem exec_storeQ (ρ : Operand → Value) (dst : Option Tmp) (ty : TypeId) (pos : String) (after : Array _) (guard : Option _) (a x : Operand) (w : World) :
    (execOp ρ ⟨dst, .store 92 a x, ty, pos, after, guard⟩).run Try.prog w = bigSkip (bigStore Try.prog 92 (ρ a) (ρ x) w) := by
  unfold bigStore execOp
  simp only [Sem.run_bind]
  cases (Instr.storeAt 92 (ρ a) (ρ x)).run Try.prog w <;> rfl
attribute [local go_sem ↓] exec_storeQ
theorem storeQ (w : World) (L o : Nat) (ss : List S4) (hl : ss.length = 6) (ht : w.there L o 24) : bigStore Try.prog 92 (.pointer (some ⟨L, o, none⟩)) (.agg (quadsC ss).toArray) w = .ok () (w.setCells L o (quadsC ss)) := by
  have hq : (quadsC ss).length = 24 := by rw [quadsC_len, hl]
  have := run_storeAt_mid (P := Try.prog) w L o 92 (quadsC ss).toArray (by rw [show (quadsC ss).toArray.size = 24 by simp [hq]]; exact ht) (by rw [show (quadsC ss).toArray.size = 24 by simp [hq]]; kernel_rfl) (all_oneCell_toArray (quadsC_one ss))
  simpa [bigStore] using this

set_option maxRecDepth 100000 in
set_option maxHeartbeats 8000000 in
theorem implHostForgetG (lo hi : Nat) (af ag : Option Addr) (lf cf n cg : Nat) (h : Hst) (G : Int) (w : World) (hH : HostIn w lo hi (.slice af lf cf) (.slice ag n cg) h) (hh : hi ≤ w.heap.size) (hwf : WfGs h.guests.length h.guests) :
    Calls Try.prog 47 #[.agg #[.slice af lf cf, .slice ag n cg, .int .i64 h.hand], .int .i64 G] w fun e w' => GivesH w w' e (forgetH h G) := by
  obtain ⟨W0, hW0⟩ : ∃ W0, W0 = (w.alloc (.cells #[.slice af lf cf, .slice ag n cg, .int .i64 h.hand] 27)).alloc (.cells #[.slice none 0 0, .slice none 0 0, .int .i64 0] 27) := ⟨_, rfl⟩
  have B0 : Below w.heap.size w W0 := by rw [hW0]; exact ((Below.refl _ _).alloc (Nat.le_refl _) _).alloc (by simp) _
  have s0 : w.heap.size + 1 < W0.heap.size := by rw [hW0]; simp
  have r0 : Var3 W0 (w.heap.size + 1) (.slice none 0 0) (.slice none 0 0) (.int .i64 0) := by rw [hW0]; exact var3_newK (by simp)
  have hc := implHouseOf lo hi af ag lf cf n cg h W0 (hH.same (below_sameIn B0 hh)) (Nat.le_trans hh B0.size) hwf
  obtain ⟨zH, hzs, hAl, hSt⟩ := house_var
  clear hH
  cases hok : okHost h
  · have hS : forgetH h G = noH := by rw [forgetH, seeB, hok]; rfl
    rw [hS]
    go_enter Try.func47, Try.ntmps47
    go_wp2_with (fail)
    rw [← hW0]
    clear hW0
    refine hc.mono ?_
    rintro e w1 ⟨cs, hl, h1, rfl, B1, _⟩
    rw [houseB_eq, hok]
    have hS := hSt w1 cs hl h1
    obtain ⟨W2, hW2⟩ : ∃ W2, W2 = w1.alloc (.cells cs.toArray 79) := ⟨_, rfl⟩
    have HB : Hid (Below w.heap.size w W2) := by rw [hW2]; exact (B0.trans (B1.mono B0.size)).alloc (B0.trans (B1.mono B0.size)).size _
    have s2 : W2.heap.size = w1.heap.size + 1 := by rw [hW2]; simp
    have r2 : Var3 W2 (w.heap.size + 1) (.slice none 0 0) (.slice none 0 0) (.int .i64 0) := by rw [hW2]; exact (r0.same (B1.block _ s0)).allocK _
    obtain ⟨q0, q1, q2, f0, f1, f2⟩ := r2
    have hlt : w.heap.size + 1 < W2.heap.size := by have := B1.size; omega
    rw [← hW2] at hS
    generalize hcs : cs.toArray = hs at *
    clear hSt hc B0 B1 r0 hW2 s2
    go_wp2
    refine bodyPost_ret (v := .agg #[.slice none 0 0, .slice none 0 0, .int .i64 0]) (by simp [results, Try.results47, go_sem, *]) rfl ?_
    exact givesH_no HB.out (Nat.le_succ _) _ _ _
  · obtain ⟨hf8, hf4, _⟩ := okHost_frames hok
    go_enter Try.func47, Try.ntmps47
    go_wp2_with (fail)
    rw [← hW0]
    clear hW0
    refine hc.mono ?_
    rintro e w1 ⟨cs, hl, h1, rfl, B1, hL⟩
    rw [houseB_eq] at hL ⊢
    rw [hok]
    obtain ⟨L, c, rfl, hL1, hL2, hL3⟩ := hL hok
    have hS := hSt w1 _ hl h1
    have hW := houseW_new (c := c) hok hL2 hL3
    have hB1 : Below w.heap.size w w1 := B0.trans (B1.mono B0.size)
    have BA : Below w1.heap.size w1 (w1.alloc (.cells (houseC h.frames (.slice (some ⟨L, 0, none⟩) h.guests.length c) h.hand).toArray 79)) := (Below.refl _ _).alloc (Nat.le_refl _) _
    obtain ⟨W2, hW2⟩ : ∃ W2, W2 = w1.alloc (.cells (houseC h.frames (.slice (some ⟨L, 0, none⟩) h.guests.length c) h.hand).toArray 79) := ⟨_, rfl⟩
    rw [← hW2] at hW BA hS
    have s2 : W2.heap.size = w1.heap.size + 1 := by rw [hW2]; simp
    have s01 := B1.size
    have hB2 : Below w.heap.size w W2 := hB1.trans (BA.mono hB1.size)
    have hhas := implHas L h.guests.length c h.frames h.hand G W2 hf8
    have hld2 := hW.give
    have hLw1 := hL2.2.1
    have r2 := (r0.same (B1.block _ s0)).same (BA.block _ (by omega))
    clear hSt hc hL hW2 hL2 hL3 BA r0
    by_cases hG : 0 ≤ G ∧ G < h.guests.length
    · obtain ⟨G', rfl⟩ := Int.eq_ofNat_of_zero_le hG.1
      have hG' : G' < h.guests.length := by omega
      rw [show (decide (0 ≤ (G' : Int)) && decide ((G' : Int) < h.guests.length)) = true by simp; omega] at hhas
      have hS2 : Hid (forgetH h (G' : Int) = setG h G' { h.guests.getD G' noG with shades := noSs }) := by
        show _ = _
        rw [forgetH, seeB, hok, show (decide (0 ≤ (G' : Int)) && decide ((G' : Int) < h.guests.length)) = true by simp; omega]; rfl
      have hQ := fun (W : World) (k : HouseW W w1.heap.size L c h) => storeQ W L (G' * 66 + 42) noSs rfl (there_part (k.lodAt hG').2.2 (by omega) (by omega))
      have hlods := fun (W : World) (k : HouseW W w1.heap.size L c h) => (k.lods).1
      have hwr := fun (W : World) (k : HouseW W w1.heap.size L c h) => k.shades hG' noSs rfl
      generalize hcs : (houseC h.frames (.slice (some ⟨L, 0, none⟩) h.guests.length c) h.hand).toArray = hs at *
      have Hs2 : Hid (W2.heap.size = w1.heap.size + 1) := s2
      clear s2
      go_wp2_with (fail)
      refine hhas.mono ?_
      rintro e w3 ⟨rfl, B3⟩
      have s2 := Hs2.out
      have s3 := B3.size
      have hW3 := hW.belowK B3
      have hQ3 := hQ w3 hW3
      have hl3 := hlods w3 hW3
      have hW4 := hwr w3 hW3
      obtain ⟨W4, hE4⟩ : ∃ W4, W4 = w3.setCells L (G' * 66 + 42) (quadsC noSs) := ⟨_, rfl⟩
      rw [← hE4] at hQ3 hW4
      rw [show (quadsC noSs).toArray = #[.bool false, .int .i64 0, .int .i64 0, .bool false, .bool false, .int .i64 0, .int .i64 0, .bool false, .bool false, .int .i64 0, .int .i64 0, .bool false, .bool false, .int .i64 0, .int .i64 0, .bool false, .bool false, .int .i64 0, .int .i64 0, .bool false, .bool false, .int .i64 0, .int .i64 0, .bool false] from rfl] at hQ3
      have HB4 : Below w.heap.size w W4 := by rw [hE4]; exact below_setCells (hB2.trans (B3.mono hB2.size)) (Nat.le_trans B0.size hL1) _ _
      have s4 : W4.heap.size = w3.heap.size := by rw [hE4, size_setCells]
      have r4 : Var3 W4 (w.heap.size + 1) (.slice none 0 0) (.slice none 0 0) (.int .i64 0) := by
        rw [hE4]
        exact (r2.same (B3.block _ (by omega))).same (heap_setCells L _ _ _ _ (by omega))
      have hld4 := hW4.give
      have hho := houseHostW hW4
      have hb3 : w1.heap.size < w3.heap.size := by omega
      clear hhas hQ hlods hwr hld2 hS hE4 hW hW3
      rw [← hS2.out] at hld4 hho hW4
      generalize hfg : forgetH h (G' : Int) = hx at *
      generalize hcs2 : (houseC hx.frames (.slice (some ⟨L, 0, none⟩) hx.guests.length c) hx.hand).toArray = hs2 at *
      have hn0 : (0 : Int) ≤ (G' : Int) := Int.natCast_nonneg _
      have HW4 : Hid (HouseW W4 w1.heap.size L c hx) := hW4
      have HHB4 : Hid (Below w.heap.size w W4 ∧ W4.heap.size = w3.heap.size ∧ W2.heap.size = w1.heap.size + 1) := ⟨HB4, s4, s2⟩
      have hb4 : w1.heap.size < W4.heap.size := by omega
      clear hW4 HB4 s4 s2 r2 B1 B0 hB1 hB2 B3 hcs hcs2
      go_wp2_with (fail)
      refine hho.mono ?_
      rintro e w5 ⟨vf, vg, rfl, hO5, B5⟩
      have hO5' := hO5
      obtain ⟨af', cf', m0, m1, rfl, _, _, _, ag', cg', rfl, _⟩ := hO5'
      obtain ⟨q0, q1, q2, f0, f1, f2⟩ := r4.same (B5.block _ (by have := HHB4.out.2.1; omega))
      have hlt : w.heap.size + 1 < w5.heap.size := by have := B5.size; have := HHB4.out.2.1; omega
      have HO5 : Hid (OwnHost w5 W4.heap.size w5.heap.size (.slice af' hx.frames.length cf') (.slice ag' hx.guests.length cg') hx) := hO5
      have HB5 : Hid (Below W4.heap.size W4 w5) := B5
      clear hho hO5 B5 hld4 r4 hQ3 hl3
      generalize hx.frames.length = lfx at *
      generalize hlgx : hx.guests.length = lgx at *
      go_wp2
      refine bodyPost_ret (v := .agg #[.slice af' lfx cf', .slice ag' lgx cg', .int .i64 hx.hand]) (by simp [results, Try.results47, go_sem, *]) rfl ?_
      rw [hfg]
      exact givesH_ret HHB4.out.1 HO5.out HB5.out (Nat.le_succ _) (by have := HHB4.out.2.1; omega) _ _ _
    · rw [show (decide (0 ≤ G) && decide (G < h.guests.length)) = false by simp; omega] at hhas
      have hS2 : Hid (forgetH h G = noH) := by
        show _ = _
        rw [forgetH, seeB, show (decide (0 ≤ G) && decide (G < h.guests.length)) = false by simp; omega]; simp
      generalize hcs : (houseC h.frames (.slice (some ⟨L, 0, none⟩) h.guests.length c) h.hand).toArray = hs at *
      have Hs2 : Hid (W2.heap.size = w1.heap.size + 1) := s2
      clear s2
      go_wp2_with (fail)
      refine hhas.mono ?_
      rintro e w3 ⟨rfl, B3⟩
      have HB : Hid (Below w.heap.size w w3) := hB2.trans (B3.mono hB2.size)
      obtain ⟨q0, q1, q2, f0, f1, f2⟩ := r2.same (B3.block _ (by have := Hs2.out; omega))
      have hlt : w.heap.size + 1 < w3.heap.size := by have := B3.size; have := Hs2.out; omega
      clear hhas hld2 hS B3 hB2 hB1 r2 hW
      go_wp2
      refine bodyPost_ret (v := .agg #[.slice none 0 0, .slice none 0 0, .int .i64 0]) (by simp [results, Try.results47, go_sem, *]) rfl ?_
      rw [hS2.out]
      exact givesH_no HB.out (Nat.le_succ _) _ _ _
end Go.Proofs.Ytcaknccodndmiaa
