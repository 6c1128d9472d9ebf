/-
  What the program's own asking of a house does.
-/
import Derived.Test.YtahcoklhijjenaaLodOk1
set_option linter.unusedSimpArgs false
namespace Go.Proofs.Ytahcoklhijjenaa
open Go.RowKit
attribute [local go_sem ↓] Go.wp_at_zero Go.wp_at_succ exec_app exec_lod exec_house exec_mapsA exec_allocL exec_storeL exec_idxM exec_look exec_upd
attribute [local go_sem] bigNext_ok bigSkip_ok

/-- Lodgers as they lie: a row of them, one behind the other. -/
def LodsAt (w : World) (L n : Nat) (gs : List Gst) : Prop := gs.length = n ∧ L < w.heap.size ∧ ∀ i, i < n → Sized (gs.getD i noG) ∧ w.rangeAt L (i * 66) (lodC (gs.getD i noG))
def WfGs (n : Nat) (gs : List Gst) : Prop := ∀ i, i < n → ∀ p, p < 6 → (Lit.int .i64 ((gs.getD i noG).maps.getD p noM).2.1).wf = true
theorem LodsAt.below {w w' : World} {L n : Nat} {gs : List Gst} (h : LodsAt w L n gs) {N : Nat} (hB : Below N w w') (hN : L < N) (hs : N ≤ w.heap.size) : LodsAt w' L n gs :=
  ⟨h.1, Nat.lt_of_lt_of_le (Nat.lt_of_lt_of_le hN hs) hB.size, fun i hi => ⟨(h.2.2 i hi).1, range_below (h.2.2 i hi).2 hB hN⟩⟩

set_option maxRecDepth 100000 in
set_option maxHeartbeats 8000000 in
theorem implHouseOk (L n cl : Nat) (fs : List (List Int)) (hand : Int) (gs : List Gst) (w : World) (hf : fs.length = 8) (hn : n ≤ 2) (hL : LodsAt w L n gs) (hwf : WfGs n gs) :
    Calls Try.prog 76 #[.agg (houseC fs (.slice (some ⟨L, 0, none⟩) n cl) hand).toArray] w fun e w' => e = .returned (.bool (gs.all (okLod (ten gs)))) ∧ Below w.heap.size w w' := by
  have hH0 : HouseAt (w.alloc (.cells (houseC fs (.slice (some ⟨L, 0, none⟩) n cl) hand).toArray 72)) w.heap.size fs (.slice (some ⟨L, 0, none⟩) n cl) hand := range_new w _ 72
  have hld : bigRun Try.prog 72 (.pointer (some ⟨w.heap.size, 0, none⟩)) (w.alloc (.cells (houseC fs (.slice (some ⟨L, 0, none⟩) n cl) hand).toArray 72)) = .ok (.agg (houseC fs (.slice (some ⟨L, 0, none⟩) n cl) hand).toArray) (w.alloc (.cells (houseC fs (.slice (some ⟨L, 0, none⟩) n cl) hand).toArray 72)) := big_load Try.underlying72 rfl (by rw [houseC_len hf]; kernel_rfl) _ _ _ hH0
  have B0 : Below w.heap.size w (w.alloc (.cells (houseC fs (.slice (some ⟨L, 0, none⟩) n cl) hand).toArray 72)) := (Below.refl _ _).alloc (Nat.le_refl _) _
  have hL0 := hL.below B0 hL.2.1 (Nat.le_refl _)
  have hT := implTenants L n cl fs hand gs _ hf hL0.1 hn (fun i hi => (hL0.2.2 i hi).1) hwf hL0.2.1 (fun i hi => (hL0.2.2 i hi).2)
  have hc := (hH0.lods hf).1
  rw [World.size_alloc] at hT
  generalize (houseC fs (.slice (some ⟨L, 0, none⟩) n cl) hand).toArray = hs at *
  obtain ⟨zL, hAl, hSt⟩ := lod_var
  go_enter Try.func76, Try.ntmps76
  go_wp2_with (fail)
  refine hT.mono ?_
  rintro e w1 ⟨r, rfl, hr, hW, B1⟩
  have hc1 := (B1.cell (p := ⟨w.heap.size, 32, none⟩) (Nat.lt_succ_self _)).trans hc
  have B01 : Below w.heap.size w w1 := B0.trans (B1.mono (Nat.le_succ _))
  have hL1 := hL.below B01 hL.2.1 (Nat.le_refl _)
  have s1 := B1.size
  rw [World.size_alloc] at s1
  have hLw := hL.2.1
  have hW1 : Hid (Who w1 (w.heap.size + 1) r (ten gs)) := hW
  have hb1 : w.heap.size < w1.heap.size := by omega
  clear hT hld hc B1 hL0 B0 hH0 hW
  go_wp2_with (fail)
  go_loopw [11] (fun i wr => ∃ k : Nat, k ≤ n ∧ i = .int .i64 k ∧ Hid ((gs.take k).all (okLod (ten gs)) = true) ∧ Hid (Below w1.heap.size w1 wr)) (fun i _ => n - (intOf i).toNat)
  case atStart => exact ⟨0, Nat.zero_le _, rfl, rfl, Below.refl _ _⟩
  case round =>
    obtain ⟨k, hk, rfl, hA, hB⟩ := hrel
    by_cases hkl : k < n
    · have hki : (k : Int) < (n : Int) := by omega
      obtain ⟨hg, hrk⟩ := (hL1.below hB.out (by omega) (Nat.le_refl _)).2.2 k hkl
      have hlc := lodC_len hg
      have hiL : (Try.prog.info? 87).map (·.size) = some (lodC (gs.getD k noG)).length := by rw [hlc]; kernel_rfl
      have hld : bigRun Try.prog 87 (.pointer (some ⟨L, k * 66, none⟩)) wr = .ok (.agg (lodC (gs.getD k noG)).toArray) wr := big_load Try.underlying87 rfl hiL _ _ wr hrk
      have hS1 := fun w => hSt w (lodC (gs.getD k noG)) hlc (lodC_one _)
      have hl2 : bigRun Try.prog 87 (.pointer (some ⟨wr.heap.size, 0, none⟩)) (wr.alloc (.cells (lodC (gs.getD k noG)).toArray 87)) = .ok (.agg (lodC (gs.getD k noG)).toArray) (wr.alloc (.cells (lodC (gs.getD k noG)).toArray 87)) := big_load Try.underlying87 rfl hiL _ _ _ (range_new wr _ 87)
      have hWr : Who (wr.alloc (.cells (lodC (gs.getD k noG)).toArray 87)) (w.heap.size + 1) r (ten gs) := (hW1.out.below hB.out).below ((Below.refl _ _).alloc (Nat.le_refl _) _)
      have hC := implLodOk (gs.getD k noG) hg _ r (ten gs) _ hWr (hwf k hkl)
      have hlt : k < gs.length := by have := hL1.1; omega
      have hgd : gs.getD k noG = gs[k] := getD_lt hlt
      have hNo : okLod (ten gs) (gs.getD k noG) = false → gs.all (okLod (ten gs)) = false := fun e => all_no hlt (by rw [← hgd]; exact e)
      have hYes : okLod (ten gs) (gs.getD k noG) = true → (gs.take (k + 1)).all (okLod (ten gs)) = true := fun e => all_more hlt hA.out (by rw [← hgd]; exact e)
      clear hgd hrk hWr hg hlc hiL hSt
      generalize (lodC (gs.getD k noG)).toArray = cs at *
      generalize okLod (ten gs) (gs.getD k noG) = ok at *
      cases ok
      · have HF : Hid (gs.all (okLod (ten gs)) = false) := hNo rfl
        clear hNo hYes hA
        go_wp2_with (fail)
        refine hC.mono ?_
        rintro e w2 ⟨rfl, B2⟩
        have HB2 : Hid (Below w1.heap.size w1 w2) := (hB.out.alloc hB.out.size _).trans (B2.mono (by have := hB.out.size; simp; omega))
        clear B2 hC hld hl2 hS1
        go_wp2
        go_ret
        exact ⟨by rw [HF.out]; rfl, B01.trans (HB2.out.mono (by omega))⟩
      · have HY : Hid ((gs.take (k + 1)).all (okLod (ten gs)) = true) := hYes rfl
        clear hNo hYes hA
        go_wp2_with (fail)
        refine hC.mono ?_
        rintro e w2 ⟨rfl, B2⟩
        have HB2 : Hid (Below w1.heap.size w1 w2) := (hB.out.alloc hB.out.size _).trans (B2.mono (by have := hB.out.size; simp; omega))
        clear B2 hC hld hl2 hS1
        go_wp2
        go_roundw
        case rel => exact ⟨k + 1, by omega, by go_num, HY, HB2⟩
        case measure => simp [intOf]; omega
    · have HA : Hid (gs.all (okLod (ten gs)) = true) := by
        have := hA.out
        rwa [List.take_of_length_le (by have := hL1.1; omega)] at this
      clear hAl hSt hA
      go_wp2
      go_ret
      exact ⟨by rw [HA.out]; rfl, B01.trans (hB.out.mono (by omega))⟩
end Go.Proofs.Ytahcoklhijjenaa
