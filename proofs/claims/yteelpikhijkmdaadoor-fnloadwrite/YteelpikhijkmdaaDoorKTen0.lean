/-
  What the program's own telling of who is in which frame does.
-/
import Derived.Test.YteelpikhijkmdaaDoorKF
set_option linter.unusedSimpArgs false
namespace Go.Proofs.YteelpikhijkmdaaDoor
open Go.RowKit
attribute [local go_sem ↓] Go.wp_at_zero Go.wp_at_succ exec_app exec_lod exec_house exec_mapsA exec_allocL exec_storeL exec_idxM exec_look exec_upd
attribute [local go_sem] bigNext_ok bigSkip_ok

/-- Who is in a frame: of the first pages of a guest; of the first guests; of all. -/
def spUp (g : Nat) (ms : List E3) (j : Nat) (f : Int) : List (Nat × Nat) := ((List.range j).filter fun p => inF f (ms.getD p noM)).map fun p => (g, p)
def tenG (gs : List Gst) (k : Nat) (f : Int) : List (Nat × Nat) := (List.range k).flatMap fun g => spUp g (gs.getD g noG).maps 6 f
def tenUp (gs : List Gst) (k j : Nat) (f : Int) : List (Nat × Nat) := tenG gs k f ++ spUp k (gs.getD k noG).maps j f
def ten (gs : List Gst) (f : Int) : List (Nat × Nat) := tenG gs gs.length f
theorem spUp_step (g : Nat) (ms : List E3) (j : Nat) (f : Int) : spUp g ms (j + 1) f = spUp g ms j f ++ (bif inF f (ms.getD j noM) then [(g, j)] else []) := by
  unfold spUp
  rw [List.range_succ, List.filter_append, List.map_append]
  cases h : inF f (ms.getD j noM) <;> simp only [List.filter, h, List.map, cond]
theorem spUp_len (g : Nat) (ms : List E3) (j : Nat) (f : Int) : (spUp g ms j f).length ≤ j := by
  unfold spUp
  rw [List.length_map]
  exact Nat.le_trans (List.length_filter_le _ _) (by simp)
theorem tenG_step (gs : List Gst) (k : Nat) (f : Int) : tenG gs (k + 1) f = tenUp gs k 6 f := by
  unfold tenG tenUp
  rw [List.range_succ, List.flatMap_append]
  simp [tenG]
theorem tenG_len (gs : List Gst) (k : Nat) (f : Int) : (tenG gs k f).length ≤ k * 6 := by
  induction k with
  | zero => simp [tenG]
  | succ k ih =>
    rw [tenG_step, tenUp, List.length_append]
    have := spUp_len k (gs.getD k noG).maps 6 f
    omega
theorem tenUp_zero (gs : List Gst) (k : Nat) : tenUp gs k 0 = tenG gs k := by
  funext f
  simp [tenUp, spUp]
theorem tenUp_out (gs : List Gst) (k j : Nat) (h : ((gs.getD k noG).maps.getD j noM).1 = false) : tenUp gs k (j + 1) = tenUp gs k j := by
  funext f
  unfold tenUp
  rw [spUp_step, show inF f ((gs.getD k noG).maps.getD j noM) = false by simp only [inF, h, Bool.false_and]]
  simp
theorem tenUp_in (gs : List Gst) (k j : Nat) (mf : Int) (mw : Bool) (h : (gs.getD k noG).maps.getD j noM = (true, mf, mw)) : tenUp gs k (j + 1) = addS (tenUp gs k j) mf (k, j) := by
  funext f
  unfold addS
  rw [tenUp, spUp_step, h]
  by_cases hf : f = mf
  · subst hf
    rw [if_pos rfl]
    simp [inF, tenUp]
  · rw [if_neg hf]
    have : (mf == f) = false := by simpa using fun e => hf e.symm
    simp [inF, this, tenUp]
theorem tenUp_len (gs : List Gst) (k j : Nat) (f : Int) : (tenUp gs k j f).length ≤ k * 6 + j := by
  rw [tenUp, List.length_append]
  have := tenG_len gs k f
  have := spUp_len k (gs.getD k noG).maps j f
  omega

theorem Who.below {w w' : World} {lo r : Nat} {S : Int → List (Nat × Nat)} (h : Who w lo r S) (hB : Below w.heap.size w w') : Who w' lo r S := h.same (below_grown hB) (by simp) (fun T e => by cases e)
theorem infoSp : (Tryd.prog.info? 164).map (fun i => (i.zero, i.size, i.bytes)) = some (some (.agg #[.int .i64 0, .int .i64 0]), 2, 16) := by kernel_rfl

/-- One spot more, told by what the walk runs. -/
theorem who_add {w W0 W : World} {N r : Nat} {S : Int → List (Nat × Nat)} (h : Who W0 N r S) (hB : Below N w W0) (hNr : N ≤ r) (hN : N ≤ W0.heap.size) (hWW : Below W0.heap.size W0 W) (k j : Nat) (f : Int) (hf : (Lit.int .i64 f).wf = true) (hl : (S f).length ≤ 1000) :
    ∃ a c g c' w1 w2, (∀ w' : World, w'.heap[r]? = W0.heap[r]? → lookRun Tryd.prog 141 (.map (some r)) (.int .i64 f) w' = .ok (.slice a (S f).length c) w') ∧
      appRun Tryd.prog 162 162 (.slice a (S f).length c) (.slice (some ⟨W.heap.size, 0, none⟩) 1 1) (W.alloc (.cells #[.int .i64 (k : Int), .int .i64 (j : Int)] 164)) = .ok (.slice (some ⟨g, 0, none⟩) ((S f).length + 1) c') w1 ∧
      updRun Tryd.prog 141 (.map (some r)) (.int .i64 f) (.slice (some ⟨g, 0, none⟩) ((S f).length + 1) c') w1 = .ok () w2 ∧ Hid (Who w2 N r (addS S f (k, j))) ∧ Hid (Below N w w2) ∧ W.heap.size ≤ w2.heap.size ∧
      ∀ b, W0.heap.size ≤ b → b < W.heap.size → w1.heap[b]? = W.heap[b]? := by
  obtain ⟨a, c, hlk, hown, hne, hput⟩ := h.look f hf
  obtain ⟨i0, hi0, hz0, hz1, hz2⟩ := info_parts infoSp
  have hnews := World.news_of_block (heap_alloc_new W (.cells #[.int .i64 (k : Int), .int .i64 (j : Int)] 164))
  have hrl := h.lt
  have sW := hWW.size
  have hownW : W.ownsRow N 164 2 (.slice a (S f).length c) (S f).length (spC (S f)) := by
    refine hown.kept (below_grown hWW) ?_
    cases (Value.slice a (S f).length c).ownBlock
    · exact Or.inl rfl
    · exact Or.inr (by simp)
  obtain ⟨g, c', w1, hrun, hown1, hgrow, hat, hlt⟩ := run_append_lies (P := Tryd.prog) (W.alloc (.cells #[.int .i64 (k : Int), .int .i64 (j : Int)] 164)) 162 162 N 164 i0 _ 2 16 Tryd.underlying162 hi0 hz0 hz1 hz2 rfl (by decide) _ (S f).length (spC (S f)) (hownW.alloc _) ⟨W.heap.size, 0, none⟩ 1 1 [.int .i64 (k : Int), .int .i64 (j : Int)] rfl hnews (by simp [Value.oneCell']) (by decide) (by unfold maxLen; omega) (by omega) (by simp; omega) (W.heap.size + 1) (by simp)
  have s1 := hgrow.size
  rw [World.size_alloc] at s1
  have hBW : Below W0.heap.size W0 (W.alloc (.cells #[.int .i64 (k : Int), .int .i64 (j : Int)] 164)) := hWW.alloc sW _
  have hgr0 : W0.grownBy w1 (Value.slice a (S f).length c).ownBlock := ⟨hgrow.os.trans hBW.os, hgrow.tape.trans hBW.tape, hgrow.output.trans hBW.output, by omega, fun b hb hbr => by
    rw [hgrow.block b (by rw [World.size_alloc]; omega) hbr]
    exact hBW.block b hb⟩
  obtain ⟨w2, hup, hg2, hW2⟩ := hput w1 (k, j) g c' hgr0 (hat.imp id (fun e => by omega)) (by rw [spC_snoc]; exact hown1)
  have s2 := hg2.size
  refine ⟨a, c, g, c', w1, w2, hlk, hrun, hup, hW2, ?_, by omega, fun b hb1 hb2 => ?_⟩
  · have B1 : Below N w w1 := Below.grown hB hgr0 hN (fun j hj => (hown.lt _ hj).1)
    exact Below.grown B1 hg2 (by omega) (fun j hj => by cases hj; exact hNr)
  · rw [hgrow.block b (by rw [World.size_alloc]; omega) (fun e => by have := (hown.lt _ e.symm).2; omega)]
    exact ((Below.refl W.heap.size W).alloc (Nat.le_refl _) _).block b hb2

set_option maxRecDepth 100000 in
set_option maxHeartbeats 8000000 in
theorem implTenants (L n cl : Nat) (fs : List (List Int)) (hand : Int) (gs : List Gst) (w : World) (hf : fs.length = 8) (hgl : gs.length = n) (hn : n ≤ 2) (hS : ∀ i, i < n → Sized (gs.getD i noG)) (hwf : ∀ i, i < n → ∀ p, p < 6 → (Lit.int .i64 ((gs.getD i noG).maps.getD p noM).2.1).wf = true) (hL : L < w.heap.size) (hG : ∀ i, i < n → w.rangeAt L (i * 66) (lodC (gs.getD i noG))) :
    Calls Tryd.prog 79 #[.agg (houseC fs (.slice (some ⟨L, 0, none⟩) n cl) hand).toArray] w fun e w' => ∃ r, e = .returned (.map (some r)) ∧ w.heap.size ≤ r ∧ Who w' w.heap.size r (ten gs) ∧ Below w.heap.size w w' := by
  obtain ⟨hs, hsE⟩ : ∃ hs, hs = (houseC fs (.slice (some ⟨L, 0, none⟩) n cl) hand).toArray := ⟨_, rfl⟩
  have hH0 : HouseAt (w.alloc (.cells hs 67)) w.heap.size fs (.slice (some ⟨L, 0, none⟩) n cl) hand := by rw [hsE]; exact range_new w _ 67
  rw [← hsE]
  clear hsE
  have hc1 := cellk_alloc (hH0.lods hf).1 (.map #[] 0)
  have hmm := @run_makeMap Tryd.prog
  obtain ⟨zL, hAl, hSt⟩ := lod_var
  go_enter Tryd.func79, Tryd.ntmps79
  go_wp2_with (fail)
  have hB0 : Below w.heap.size w ((w.alloc (.cells hs 67)).alloc (.map #[] 0)) := ((Below.refl _ _).alloc (Nat.le_refl _) _).alloc (by simp) _
  go_loopw [12] (fun i wr => ∃ k : Nat, k ≤ n ∧ i = .int .i64 k ∧ Hid (Who wr w.heap.size (w.heap.size + 1) (tenG gs k)) ∧ Hid (Below w.heap.size w wr)) (fun i _ => n - (intOf i).toNat)
  case atStart =>
    refine ⟨0, Nat.zero_le _, rfl, ?_, hB0⟩
    have := Who.new (w.alloc (.cells hs 67)) w.heap.size
    rw [World.size_alloc] at this
    exact this
  case round =>
    clear hmm hc1
    obtain ⟨k, hk, rfl, hW, hB⟩ := hrel
    by_cases hkl : k < n
    · have hki : (k : Int) < (n : Int) := by omega
      have hg := hS k hkl
      have hwk := hwf k hkl
      have hrk : Hid (wr.rangeAt L (k * 66) (lodC (gs.getD k noG))) := range_below (hG k hkl) hB.out hL
      have hlc := lodC_len hg
      have hld : bigRun Tryd.prog 77 (.pointer (some ⟨L, k * 66, none⟩)) wr = .ok (.agg (lodC (gs.getD k noG)).toArray) wr := big_load Tryd.underlying77 rfl (by rw [hlc]; kernel_rfl) _ _ wr hrk.out
      have hS1 := fun w => hSt w (lodC (gs.getD k noG)) hlc (lodC_one _)
      have hrn := range_new wr (lodC (gs.getD k noG)) 77
      have hlm : bigRun Tryd.prog 71 (.pointer (some ⟨wr.heap.size, 0, none⟩)) (wr.alloc (.cells (lodC (gs.getD k noG)).toArray 77)) = .ok (.agg (flat (gs.getD k noG).maps).toArray) (wr.alloc (.cells (lodC (gs.getD k noG)).toArray 77)) := big_load Tryd.underlying71 rfl (by rw [flat_len, hg.1]; kernel_rfl) _ _ _ (range_left hrn)
      have hix := fun j (hj : j < 6) w => idx_maps (gs.getD k noG).maps hg.1 j hj w
      have hout := tenUp_out gs k
      have hin := tenUp_in gs k
      have hten := tenUp_len gs k
      have h0 := tenUp_zero gs k
      have h6 : Hid (tenG gs (k + 1) = tenUp gs k 6) := by
        show _ = _
        funext f
        exact tenG_step gs k f
      have hW : Hid (Who wr w.heap.size (w.heap.size + 1) (tenUp gs k 0)) := by rw [h0]; exact hW
      clear hrn h0 hrk
      generalize hcs : (lodC (gs.getD k noG)).toArray = cs at *
      generalize hfm : (flat (gs.getD k noG).maps).toArray = fm at *
      clear hcs hfm hg
      generalize (gs.getD k noG).maps = ms at *
      go_wp2_with (fail)
      have hBa : Hid (Below w.heap.size w (wr.alloc (.cells cs 77))) := hB.out.alloc hB.out.size _
      have hWa : Hid (Who (wr.alloc (.cells cs 77)) w.heap.size (w.heap.size + 1) (tenUp gs k 0)) := hW.out.below ((Below.refl _ _).alloc (Nat.le_refl _) _)
      clear hld hS1 hlm hW hB hSt hAl
      go_loopw [19] (fun i wq => ∃ j : Nat, j ≤ 6 ∧ i = .int .i64 j ∧ Hid (Who wq w.heap.size (w.heap.size + 1) (tenUp gs k j)) ∧ Hid (Below w.heap.size w wq)) (fun i _ => 6 - (intOf i).toNat)
      case atStart => exact ⟨0, Nat.zero_le _, rfl, hWa, hBa⟩
      case round =>
        clear hWa hBa
        obtain ⟨j, hj, rfl, hW, hB⟩ := hrel
        by_cases hjl : j < 6
        · have hji : (j : Int) < 6 := by omega
          have hx := hix j hjl
          have hwj := hwk j hjl
          have ho := hout j
          have hi := hin j
          have hsz := hB.out.size
          have hrl := hW.out.lt
          generalize ms.getD j noM = mm at *
          obtain ⟨mi, mf, mw⟩ := mm
          simp only at hx hwj
          cases mi
          · have HO : Hid (tenUp gs k (j + 1) = tenUp gs k j) := ho rfl
            have hWb : Hid (Who (wr.alloc (.cells #[.bool false, .int .i64 mf, .bool mw] 69)) w.heap.size (w.heap.size + 1) (tenUp gs k j)) := hW.out.below ((Below.refl _ _).alloc (Nat.le_refl _) _)
            have hBb : Hid (Below w.heap.size w (wr.alloc (.cells #[.bool false, .int .i64 mf, .bool mw] 69))) := hB.out.alloc hsz _
            clear hi ho hin hout hix hwk
            go_wp2
            go_roundw
            case rel => exact ⟨j + 1, by omega, by go_num, by rw [HO.out]; exact hWb, hBb⟩
            case measure => simp [intOf]; omega
          · have HI : Hid (tenUp gs k (j + 1) = addS (tenUp gs k j) mf (k, j)) := hi mf mw rfl
            have hBb : Below wr.heap.size wr (wr.alloc (.cells #[.bool true, .int .i64 mf, .bool mw] 69)).drew := ((Below.refl _ _).alloc (Nat.le_refl _) _).drew
            have hl := hten j mf
            obtain ⟨a, c, g, c', w1, w2, hlk, hap, hup, HW2, HB2, s2, hkeep⟩ := who_add hW.out hB.out (by omega) hsz hBb k j mf hwj (by omega)
            have hc1 : w1.cell? ⟨wr.heap.size, 1, none⟩ = some (.int .i64 mf) := by
              rw [World.cell?_of_block (a := ⟨wr.heap.size, 1, none⟩) (hkeep wr.heap.size (Nat.le_refl _) (by simp))]
              simp
            generalize (tenUp gs k j mf).length = ln at *
            have hlk1 := hlk (wr.alloc (.cells #[.bool true, .int .i64 mf, .bool mw] 69)).drew (((Below.refl _ _).alloc (Nat.le_refl _) _).block _ hrl)
            have hlk2 := hlk ((wr.alloc (.cells #[.bool true, .int .i64 mf, .bool mw] 69)).alloc (.cells #[.int .i64 (k : Int), .int .i64 (j : Int)] 164)).drew ((((Below.refl wr.heap.size wr).alloc (Nat.le_refl _) _).alloc (by simp) _).block _ hrl)
            simp only [World.size_drew, World.size_alloc, World.alloc_drew] at hap
            clear hlk hi ho hin hout hix hwk hBb hW hB hten hkeep
            go_wp2_with (fail)
            go_region_with (fail)
            all_goals
              clear hap hup hlk1 hlk2 hx
              go_wp2
              go_roundw
              case rel => exact ⟨j + 1, by omega, by go_num, by rw [HI.out]; exact HW2, HB2⟩
              case measure => simp [intOf]; omega
        · have hjj : j = 6 := by omega
          subst hjj
          clear hix hwk hout hin hten
          go_wp2
          go_roundw
          case rel => exact ⟨k + 1, by omega, by go_num, by rw [h6.out]; exact hW, hB⟩
          case measure => simp [intOf]; omega
    · have hkk : k = n := by omega
      subst hkk
      clear hAl hSt
      go_wp2
      go_ret
      refine ⟨w.heap.size + 1, rfl, by omega, ?_, hB.out⟩
      show Who wr _ _ (tenG gs gs.length)
      rw [hgl]
      exact hW.out
end Go.Proofs.YteelpikhijkmdaaDoor
