/-
  What the program's own telling of who is in which frame does.
-/
import Derived.Test.YtjegndgdpmlbaaaKOF
import Derived.Test.YtjegndgdpmlbaaaKOB
import Derived.ChangeKeysEq
set_option linter.unusedSimpArgs false
namespace Go.Proofs.Ytjegndgdpmlbaaa
open Go.RowKit
attribute [local go_sem ↓] Go.wp_at_zero Go.wp_at_succ exec_app exec_lod exec_house exec_mapsA exec_allocL exec_storeL exec_idxM exec_look exec_upd
attribute [local go_sem] bigNext_ok bigSkip_ok

/-- Who is in a frame: of the first pages of a guest; of the first guests; of all. -/
def spUp (g : Nat) (ms : List E3) (j : Nat) (f : Int) : List (Nat × Nat) := ((List.range j).filter fun p => inF f (ms.getD p noM)).map fun p => (g, p)
def tenG (gs : List Gst) (k : Nat) (f : Int) : List (Nat × Nat) := (List.range k).flatMap fun g => spUp g (gs.getD g noG).maps 6 f
def tenUp (gs : List Gst) (k j : Nat) (f : Int) : List (Nat × Nat) := tenG gs k f ++ spUp k (gs.getD k noG).maps j f
def ten (gs : List Gst) (f : Int) : List (Nat × Nat) := tenG gs gs.length f
theorem spUp_step (g : Nat) (ms : List E3) (j : Nat) (f : Int) : spUp g ms (j + 1) f = spUp g ms j f ++ (bif inF f (ms.getD j noM) then [(g, j)] else []) := by
  unfold spUp
  rw [List.range_succ, List.filter_append, List.map_append]
  cases h : inF f (ms.getD j noM) <;> simp only [List.filter, h, List.map, cond]
theorem spUp_len (g : Nat) (ms : List E3) (j : Nat) (f : Int) : (spUp g ms j f).length ≤ j := by
  unfold spUp
  rw [List.length_map]
  exact Nat.le_trans (List.length_filter_le _ _) (by simp)
theorem tenG_step (gs : List Gst) (k : Nat) (f : Int) : tenG gs (k + 1) f = tenUp gs k 6 f := by
  unfold tenG tenUp
  rw [List.range_succ, List.flatMap_append]
  simp [tenG]
theorem tenG_len (gs : List Gst) (k : Nat) (f : Int) : (tenG gs k f).length ≤ k * 6 := by
  induction k with
  | zero => simp [tenG]
  | succ k ih =>
    rw [tenG_step, tenUp, List.length_append]
    have := spUp_len k (gs.getD k noG).maps 6 f
    omega
theorem tenUp_zero (gs : List Gst) (k : Nat) : tenUp gs k 0 = tenG gs k := by
  funext f
  simp [tenUp, spUp]
theorem tenUp_out (gs : List Gst) (k j : Nat) (h : ((gs.getD k noG).maps.getD j noM).1 = false) : tenUp gs k (j + 1) = tenUp gs k j := by
  funext f
  unfold tenUp
  rw [spUp_step, show inF f ((gs.getD k noG).maps.getD j noM) = false by simp only [inF, h, Bool.false_and]]
  simp
theorem tenUp_in (gs : List Gst) (k j : Nat) (mf : Int) (mw : Bool) (h : (gs.getD k noG).maps.getD j noM = (true, mf, mw)) : tenUp gs k (j + 1) = addS (tenUp gs k j) mf (k, j) := by
  funext f
  unfold addS
  rw [tenUp, spUp_step, h]
  by_cases hf : f = mf
  · subst hf
    rw [if_pos rfl]
    simp [inF, tenUp]
  · rw [if_neg hf]
    have : (mf == f) = false := by simpa using fun e => hf e.symm
    simp [inF, this, tenUp]
theorem tenUp_len (gs : List Gst) (k j : Nat) (f : Int) : (tenUp gs k j f).length ≤ k * 6 + j := by
  rw [tenUp, List.length_append]
  have := tenG_len gs k f
  have := spUp_len k (gs.getD k noG).maps j f
  omega

theorem Who.below {w w' : World} {lo r : Nat} {S : Int → List (Nat × Nat)} (h : Who w lo r S) (hB : Below w.heap.size w w') : Who w' lo r S := h.same (below_grown hB) (by simp) (fun T e => by cases e)
theorem infoSp : (Try.prog.info? 77).map (fun i => (i.zero, i.size, i.bytes)) = some (some (.agg #[.int .i64 0, .int .i64 0]), 2, 16) := by kernel_rfl

/-- One spot more, told by what the walk runs. -/
theorem who_add {w W0 W : World} {N r : Nat} {S : Int → List (Nat × Nat)} (h : Who W0 N r S) (hB : Below N w W0) (hNr : N ≤ r) (hN : N ≤ W0.heap.size) (hWW : Below W0.heap.size W0 W) (k j : Nat) (f : Int) (hf : (Lit.int .i64 f).wf = true) (hl : (S f).length ≤ 1000) :
    ∃ a c g c' w1 w2, (∀ w' : World, w'.heap[r]? = W0.heap[r]? → lookRun Try.prog 106 (.map (some r)) (.int .i64 f) w' = .ok (.slice a (S f).length c) w') ∧
      appRun Try.prog 108 108 (.slice a (S f).length c) (.slice (some ⟨W.heap.size, 0, none⟩) 1 1) (W.alloc (.cells #[.int .i64 (k : Int), .int .i64 (j : Int)] 77)) = .ok (.slice (some ⟨g, 0, none⟩) ((S f).length + 1) c') w1 ∧
      updRun Try.prog 106 (.map (some r)) (.int .i64 f) (.slice (some ⟨g, 0, none⟩) ((S f).length + 1) c') w1 = .ok () w2 ∧ Hid (Who w2 N r (addS S f (k, j))) ∧ Hid (Below N w w2) ∧ W.heap.size ≤ w2.heap.size ∧
      ∀ b, W0.heap.size ≤ b → b < W.heap.size → w1.heap[b]? = W.heap[b]? := by
  obtain ⟨a, c, hlk, hown, hne, hput⟩ := h.look f hf
  obtain ⟨i0, hi0, hz0, hz1, hz2⟩ := info_parts infoSp
  have hnews := World.news_of_block (heap_alloc_new W (.cells #[.int .i64 (k : Int), .int .i64 (j : Int)] 77))
  have hrl := h.lt
  have sW := hWW.size
  have hownW : W.ownsRow N 77 2 (.slice a (S f).length c) (S f).length (spC (S f)) := by
    refine hown.kept (below_grown hWW) ?_
    cases (Value.slice a (S f).length c).ownBlock
    · exact Or.inl rfl
    · exact Or.inr (by simp)
  obtain ⟨g, c', w1, hrun, hown1, hgrow, hat, hlt⟩ := run_append_lies (P := Try.prog) (W.alloc (.cells #[.int .i64 (k : Int), .int .i64 (j : Int)] 77)) 108 108 N 77 i0 _ 2 16 Try.underlying108 hi0 hz0 hz1 hz2 rfl (by decide) _ (S f).length (spC (S f)) (hownW.alloc _) ⟨W.heap.size, 0, none⟩ 1 1 [.int .i64 (k : Int), .int .i64 (j : Int)] rfl hnews (by simp [Value.oneCell']) (by decide) (by unfold maxLen; omega) (by omega) (by simp; omega) (W.heap.size + 1) (by simp)
  have s1 := hgrow.size
  rw [World.size_alloc] at s1
  have hBW : Below W0.heap.size W0 (W.alloc (.cells #[.int .i64 (k : Int), .int .i64 (j : Int)] 77)) := hWW.alloc sW _
  have hgr0 : W0.grownBy w1 (Value.slice a (S f).length c).ownBlock := ⟨hgrow.os.trans hBW.os, hgrow.tape.trans hBW.tape, hgrow.output.trans hBW.output, by omega, fun b hb hbr => by
    rw [hgrow.block b (by rw [World.size_alloc]; omega) hbr]
    exact hBW.block b hb⟩
  obtain ⟨w2, hup, hg2, hW2⟩ := hput w1 (k, j) g c' hgr0 (hat.imp id (fun e => by omega)) (by rw [spC_snoc]; exact hown1)
  have s2 := hg2.size
  refine ⟨a, c, g, c', w1, w2, hlk, hrun, hup, hW2, ?_, by omega, fun b hb1 hb2 => ?_⟩
  · have B1 : Below N w w1 := Below.grown hB hgr0 hN (fun j hj => (hown.lt _ hj).1)
    exact Below.grown B1 hg2 (by omega) (fun j hj => by cases hj; exact hNr)
  · rw [hgrow.block b (by rw [World.size_alloc]; omega) (fun e => by have := (hown.lt _ e.symm).2; omega)]
    exact ((Below.refl W.heap.size W).alloc (Nat.le_refl _) _).block b hb2

set_option maxRecDepth 100000 in
set_option maxHeartbeats 8000000 in
theorem implTenants (L n cl : Nat) (fs : List (List Int)) (hand : Int) (gs : List Gst) (w : World) (hf : fs.length = 8) (hgl : gs.length = n) (hn : n ≤ 2) (hS : ∀ i, i < n → Sized (gs.getD i noG)) (hwf : ∀ i, i < n → ∀ p, p < 6 → (Lit.int .i64 ((gs.getD i noG).maps.getD p noM).2.1).wf = true) (hL : L < w.heap.size) (hG : ∀ i, i < n → w.rangeAt L (i * 66) (lodC (gs.getD i noG))) :
    Calls Try.prog 85 #[.agg (houseC fs (.slice (some ⟨L, 0, none⟩) n cl) hand).toArray] w fun e w' => ∃ r, e = .returned (.map (some r)) ∧ w.heap.size ≤ r ∧ Who w' w.heap.size r (ten gs) ∧ Below w.heap.size w w' := by
  obtain ⟨hs, hsE⟩ : ∃ hs, hs = (houseC fs (.slice (some ⟨L, 0, none⟩) n cl) hand).toArray := ⟨_, rfl⟩
  have hH0 : HouseAt (w.alloc (.cells hs 60)) w.heap.size fs (.slice (some ⟨L, 0, none⟩) n cl) hand := by rw [hsE]; exact range_new w _ 60
  rw [← hsE]
  clear hsE
  have hc1 := cellk_alloc (hH0.lods hf).1 (.map #[] 0)
  have hmm := @run_makeMap Try.prog
  obtain ⟨zL, hAl, hSt⟩ := lod_var
  go_enter Try.func85, Try.ntmps85
  go_wp2_with (fail)
  have hB0 : Below w.heap.size w ((w.alloc (.cells hs 60)).alloc (.map #[] 0)) := ((Below.refl _ _).alloc (Nat.le_refl _) _).alloc (by simp) _
  go_loopw [12] (fun i wr => ∃ k : Nat, k ≤ n ∧ i = .int .i64 k ∧ Hid (Who wr w.heap.size (w.heap.size + 1) (tenG gs k)) ∧ Hid (Below w.heap.size w wr)) (fun i _ => n - (intOf i).toNat)
  case atStart =>
    refine ⟨0, Nat.zero_le _, rfl, ?_, hB0⟩
    have := Who.new (w.alloc (.cells hs 60)) w.heap.size
    rw [World.size_alloc] at this
    exact this
  case round =>
    clear hmm hc1
    obtain ⟨k, hk, rfl, hW, hB⟩ := hrel
    by_cases hkl : k < n
    · have hki : (k : Int) < (n : Int) := by omega
      have hg := hS k hkl
      have hwk := hwf k hkl
      have hrk : Hid (wr.rangeAt L (k * 66) (lodC (gs.getD k noG))) := range_below (hG k hkl) hB.out hL
      have hlc := lodC_len hg
      have hld : bigRun Try.prog 91 (.pointer (some ⟨L, k * 66, none⟩)) wr = .ok (.agg (lodC (gs.getD k noG)).toArray) wr := big_load Try.underlying91 rfl (by rw [hlc]; kernel_rfl) _ _ wr hrk.out
      have hS1 := fun w => hSt w (lodC (gs.getD k noG)) hlc (lodC_one _)
      have hrn := range_new wr (lodC (gs.getD k noG)) 91
      have hlm : bigRun Try.prog 88 (.pointer (some ⟨wr.heap.size, 0, none⟩)) (wr.alloc (.cells (lodC (gs.getD k noG)).toArray 91)) = .ok (.agg (flat (gs.getD k noG).maps).toArray) (wr.alloc (.cells (lodC (gs.getD k noG)).toArray 91)) := big_load Try.underlying88 rfl (by rw [flat_len, hg.1]; kernel_rfl) _ _ _ (range_left hrn)
      have hix := fun j (hj : j < 6) w => idx_maps (gs.getD k noG).maps hg.1 j hj w
      have hout := tenUp_out gs k
      have hin := tenUp_in gs k
      have hten := tenUp_len gs k
      have h0 := tenUp_zero gs k
      have h6 : Hid (tenG gs (k + 1) = tenUp gs k 6) := by
        show _ = _
        funext f
        exact tenG_step gs k f
      have hW : Hid (Who wr w.heap.size (w.heap.size + 1) (tenUp gs k 0)) := by rw [h0]; exact hW
      clear hrn h0 hrk
      generalize hcs : (lodC (gs.getD k noG)).toArray = cs at *
      generalize hfm : (flat (gs.getD k noG).maps).toArray = fm at *
      clear hcs hfm hg
      generalize (gs.getD k noG).maps = ms at *
      go_wp2_with (fail)
      have hBa : Hid (Below w.heap.size w (wr.alloc (.cells cs 91))) := hB.out.alloc hB.out.size _
      have hWa : Hid (Who (wr.alloc (.cells cs 91)) w.heap.size (w.heap.size + 1) (tenUp gs k 0)) := hW.out.below ((Below.refl _ _).alloc (Nat.le_refl _) _)
      clear hld hS1 hlm hW hB hSt hAl
      go_loopw [19] (fun i wq => ∃ j : Nat, j ≤ 6 ∧ i = .int .i64 j ∧ Hid (Who wq w.heap.size (w.heap.size + 1) (tenUp gs k j)) ∧ Hid (Below w.heap.size w wq)) (fun i _ => 6 - (intOf i).toNat)
      case atStart => exact ⟨0, Nat.zero_le _, rfl, hWa, hBa⟩
      case round =>
        clear hWa hBa
        obtain ⟨j, hj, rfl, hW, hB⟩ := hrel
        by_cases hjl : j < 6
        · have hji : (j : Int) < 6 := by omega
          have hx := hix j hjl
          have hwj := hwk j hjl
          have ho := hout j
          have hi := hin j
          have hsz := hB.out.size
          have hrl := hW.out.lt
          generalize ms.getD j noM = mm at *
          obtain ⟨mi, mf, mw⟩ := mm
          simp only at hx hwj
          cases mi
          · have HO : Hid (tenUp gs k (j + 1) = tenUp gs k j) := ho rfl
            have hWb : Hid (Who (wr.alloc (.cells #[.bool false, .int .i64 mf, .bool mw] 35)) w.heap.size (w.heap.size + 1) (tenUp gs k j)) := hW.out.below ((Below.refl _ _).alloc (Nat.le_refl _) _)
            have hBb : Hid (Below w.heap.size w (wr.alloc (.cells #[.bool false, .int .i64 mf, .bool mw] 35))) := hB.out.alloc hsz _
            clear hi ho hin hout hix hwk
            go_wp2
            go_roundw
            case rel => exact ⟨j + 1, by omega, by go_num, by rw [HO.out]; exact hWb, hBb⟩
            case measure => simp [intOf]; omega
          · have HI : Hid (tenUp gs k (j + 1) = addS (tenUp gs k j) mf (k, j)) := hi mf mw rfl
            have hBb : Below wr.heap.size wr (wr.alloc (.cells #[.bool true, .int .i64 mf, .bool mw] 35)).drew := ((Below.refl _ _).alloc (Nat.le_refl _) _).drew
            have hl := hten j mf
            obtain ⟨a, c, g, c', w1, w2, hlk, hap, hup, HW2, HB2, s2, hkeep⟩ := who_add hW.out hB.out (by omega) hsz hBb k j mf hwj (by omega)
            have hc1 : w1.cell? ⟨wr.heap.size, 1, none⟩ = some (.int .i64 mf) := by
              rw [World.cell?_of_block (a := ⟨wr.heap.size, 1, none⟩) (hkeep wr.heap.size (Nat.le_refl _) (by simp))]
              simp
            generalize (tenUp gs k j mf).length = ln at *
            have hlk1 := hlk (wr.alloc (.cells #[.bool true, .int .i64 mf, .bool mw] 35)).drew (((Below.refl _ _).alloc (Nat.le_refl _) _).block _ hrl)
            have hlk2 := hlk ((wr.alloc (.cells #[.bool true, .int .i64 mf, .bool mw] 35)).alloc (.cells #[.int .i64 (k : Int), .int .i64 (j : Int)] 77)).drew ((((Below.refl wr.heap.size wr).alloc (Nat.le_refl _) _).alloc (by simp) _).block _ hrl)
            simp only [World.size_drew, World.size_alloc, World.alloc_drew] at hap
            clear hlk hi ho hin hout hix hwk hBb hW hB hten hkeep
            go_wp2_with (fail)
            go_region_with (fail)
            all_goals
              clear hap hup hlk1 hlk2 hx
              go_wp2
              go_roundw
              case rel => exact ⟨j + 1, by omega, by go_num, by rw [HI.out]; exact HW2, HB2⟩
              case measure => simp [intOf]; omega
        · have hjj : j = 6 := by omega
          subst hjj
          clear hix hwk hout hin hten
          go_wp2
          go_roundw
          case rel => exact ⟨k + 1, by omega, by go_num, by rw [h6.out]; exact hW, hB⟩
          case measure => simp [intOf]; omega
    · have hkk : k = n := by omega
      subst hkk
      clear hAl hSt
      go_wp2
      go_ret
      refine ⟨w.heap.size + 1, rfl, by omega, ?_, hB.out⟩
      show Who wr _ _ (tenG gs gs.length)
      rw [hgl]
      exact hW.out
end Go.Proofs.Ytjegndgdpmlbaaa

/-
  Two pages as arrays, held against each other.
-/
namespace Go.Proofs.Ytjegndgdpmlbaaa
open Go.RowKit

theorem cellsZ : Try.prog.cellsOf 3 = 1 := by kernel_rfl
theorem part0 (a b c d : Value) (w : World) : (part 3 #[a, b, c, d] (0 * 1)).run Try.prog w = .ok a w := by kernel_rfl
theorem part1 (a b c d : Value) (w : World) : (part 3 #[a, b, c, d] (1 * 1)).run Try.prog w = .ok b w := by kernel_rfl
theorem part2 (a b c d : Value) (w : World) : (part 3 #[a, b, c, d] (2 * 1)).run Try.prog w = .ok c w := by kernel_rfl
theorem part3 (a b c d : Value) (w : World) : (part 3 #[a, b, c, d] (3 * 1)).run Try.prog w = .ok d w := by kernel_rfl
theorem eqI (x y : Int) (w : World) : (Op.equalIn 9999 3 (.int .i64 x) (.int .i64 y)).run Try.prog w = .ok (x == y) w := run_equalIn_int w 9998 3 .i64 .i64 x y Try.underlying3

theorem eq_sheet (z0 z1 z2 z3 y0 y1 y2 y3 : Int) (w : World) :
    (Op.equalIn 10000 56 (.agg #[.int .i64 z0, .int .i64 z1, .int .i64 z2, .int .i64 z3]) (.agg #[.int .i64 y0, .int .i64 y1, .int .i64 y2, .int .i64 y3])).run Try.prog w = .ok (z0 == y0 && (z1 == y1 && (z2 == y2 && z3 == y3))) w := by
  obtain ⟨i0, hi, hz0, hz1, hz2⟩ := info_parts infoZ
  rw [show (10000 : Nat) = 9999 + 1 from rfl, run_equalIn_array w 9999 _ _ Try.underlying56 hi, cellsZ, show List.range 4 = [0, 1, 2, 3] from rfl]
  have step : ∀ (j : Nat) (is : List Nat) (x y : Int) (r : Bool), (part 3 #[.int .i64 z0, .int .i64 z1, .int .i64 z2, .int .i64 z3] (j * 1)).run Try.prog w = .ok (.int .i64 x) w → (part 3 #[.int .i64 y0, .int .i64 y1, .int .i64 y2, .int .i64 y3] (j * 1)).run Try.prog w = .ok (.int .i64 y) w →
      (Op.eqItems 9999 3 1 #[.int .i64 z0, .int .i64 z1, .int .i64 z2, .int .i64 z3] #[.int .i64 y0, .int .i64 y1, .int .i64 y2, .int .i64 y3] is).run Try.prog w = .ok r w →
      (Op.eqItems 9999 3 1 #[.int .i64 z0, .int .i64 z1, .int .i64 z2, .int .i64 z3] #[.int .i64 y0, .int .i64 y1, .int .i64 y2, .int .i64 y3] (j :: is)).run Try.prog w = .ok (x == y && r) w := fun j is x y r h1 h2 h3 => by
    rw [Op.eqItems]
    simp only [Sem.run_bind, h1, h2, eqI, Result.andThen_ok]
    cases x == y
    · simp
    · simpa using h3
  refine step 0 _ z0 y0 _ (part0 _ _ _ _ w) (part0 _ _ _ _ w) (step 1 _ z1 y1 _ (part1 _ _ _ _ w) (part1 _ _ _ _ w) (step 2 _ z2 y2 _ (part2 _ _ _ _ w) (part2 _ _ _ _ w) ?_))
  have := step 3 [] z3 y3 true (part3 _ _ _ _ w) (part3 _ _ _ _ w) (by simp [Op.eqItems])
  rwa [Bool.and_true] at this
end Go.Proofs.Ytjegndgdpmlbaaa

/-
  What the program's own reading of a guest does.
-/
set_option linter.unusedSimpArgs false
namespace Go.Proofs.Ytjegndgdpmlbaaa
open Go.RowKit
attribute [local go_sem ↓] Go.wp_at_zero Go.wp_at_succ exec_app exec_lod exec_house exec_mapsA exec_allocL exec_storeL exec_buildL exec_idxM exec_look exec_upd
attribute [local go_sem] bigNext_ok bigSkip_ok

theorem results_big {P : Program} {fn : Func} {a u : Tmp} {t : TypeId} {d : TypeDesc} {cs : List Value} (h : fn.results = #[.cell a t, .tmp u]) (tmps : Array Value) (b : Nat) (w : World) (ha : tmps.getD a undef = .pointer (some ⟨b, 0, none⟩)) (hc : w.rangeAt b 0 cs) (hu : P.underlying t = some d) (hd : d.isRow = true) (hi : (P.info? t).map (·.size) = some cs.length) :
    (results fn tmps).run P w = .ok (.tuple #[.agg cs.toArray, tmps.getD u undef]) w := by
  have hl := run_loadVar_mid (P := P) w b 0 t cs d hc hu hd hi
  rw [Array.getD_eq_getD_getElem?] at ha
  simp [results, h, ha, asAddr, hl]

/-- One block written, all others as they were. -/
def Put (X : Nat) (w w' : World) : Prop := w'.os = w.os ∧ w'.tape = w.tape ∧ w'.output = w.output ∧ w'.heap.size = w.heap.size ∧ ∀ k, k ≠ X → w'.heap[k]? = w.heap[k]?
theorem put_setCells (X o : Nat) (w : World) (vs : List Value) : Put X w (w.setCells X o vs) := by
  refine ⟨?_, ?_, ?_, size_setCells X vs o w, fun k hk => heap_setCells X vs o w k hk⟩
  · exact (below_setCells (Below.refl 0 w) (Nat.zero_le _) vs o).os
  · exact (below_setCells (Below.refl 0 w) (Nat.zero_le _) vs o).tape
  · exact (below_setCells (Below.refl 0 w) (Nat.zero_le _) vs o).output
theorem Put.below {X N : Nat} {w w' : World} (h : Put X w w') (hN : N ≤ X) : Below N w w' := ⟨h.1, h.2.1, h.2.2.1, Nat.le_of_eq h.2.2.2.1.symm, fun k hk => h.2.2.2.2 k (by omega)⟩
theorem Put.cell {X : Nat} {w w' : World} (h : Put X w w') {b o : Nat} (hb : b ≠ X) : w'.cell? ⟨b, o, none⟩ = w.cell? ⟨b, o, none⟩ := World.cell?_of_block (a := ⟨b, o, none⟩) (h.2.2.2.2 b hb)
theorem Put.range {X : Nat} {w w' : World} (h : Put X w w') {b o : Nat} {cs : List Value} (hb : b ≠ X) (hr : w.rangeAt b o cs) : w'.rangeAt b o cs := fun j v hj => (h.cell hb).trans (hr j v hj)

/-- A copy of n elements into the midst of a block, told by its run. -/
theorem copy_into {w : World} {dT : TypeId} {elem : TypeId} (X o n s : Nat) (b so sl sc dc : Nat) (cs : List Value) (hu : Try.prog.underlying dT = some (.slice elem)) (hs : (Try.prog.info? elem).map (·.size) = some s) (hm : Nat.min sl n = n) (hn : cs.length = n * s)
    (hsrc : w.rangeAt b so cs) (hth : w.there X o (n * s)) (h1 : ∀ v ∈ cs, v.oneCell' = true) :
    (Builtin.copy_ #[dT, dT] 3 #[.slice (some ⟨X, o, none⟩) n dc, .slice (some ⟨b, so, none⟩) sl sc]).run Try.prog w = .ok (goInt n) (w.setCells X o cs) := by
  refine run_copy_wide w dT dT 3 elem X o n dc ⟨b, so, none⟩ sl sc n s cs hu hs hm hn (fun j v hj => ?_) (fun j hj => (hth j (by omega)).1) (fun j hj => (hth j (by omega)).2) h1
  rw [adk]
  exact hsrc j v hj

theorem build_lod (w : World) : bigBuild Try.prog 91 #[] w = .ok (.agg (lodC zeroG).toArray) w := by kernel_rfl

def okLod0 (g : Gst) : Bool := (g.maps.length == 6) && ((g.disk.length == 6) && ((g.shades.length == 6) && okM g.disk))
/-- What reading gives. -/
def LodRead (w w' : World) (e : Ending) (g : Gst) : Prop :=
  (∃ cs : List Value, cs.length = 66 ∧ (∀ v ∈ cs, v.oneCell' = true) ∧ e = .returned (.tuple #[.agg cs.toArray, .bool (okLod0 g)]) ∧ (okLod0 g = true → cs = lodC g)) ∧ Below w.heap.size w w'

set_option maxRecDepth 100000 in
set_option maxHeartbeats 8000000 in
theorem lodgerOf_len (am ad aS : Option Addr) (lm cm ld cd ls cs : Nat) (w : World) (hno : lm ≠ 6 ∨ ld ≠ 6 ∨ ls ≠ 6) :
    Calls Try.prog 78 #[.agg #[.slice am lm cm, .slice ad ld cd, .slice aS ls cs]] w fun e w' => e = .returned (.tuple #[.agg (lodC zeroG).toArray, .bool false]) ∧ Below w.heap.size w w' := by
  obtain ⟨zL, hAl, hSt⟩ := lod_var
  have hBu := build_lod
  have hS1 := hSt (w.alloc (.cells #[.slice am lm cm, .slice ad ld cd, .slice aS ls cs] 39)) (lodC zeroG) (lodC_len zeroG_sized) (lodC_one _)
  rw [World.size_alloc] at hS1
  have hres := range_new (w.alloc (.cells #[.slice am lm cm, .slice ad ld cd, .slice aS ls cs] 39)) (lodC zeroG) 91
  rw [World.size_alloc] at hres
  have hB : Below w.heap.size w ((w.alloc (.cells #[.slice am lm cm, .slice ad ld cd, .slice aS ls cs] 39)).alloc (.cells (lodC zeroG).toArray 91)) := ((Below.refl _ _).alloc (Nat.le_refl _) _).alloc (by simp) _
  clear hSt
  obtain ⟨zc, hzc⟩ : ∃ zc, zc = lodC zeroG := ⟨_, rfl⟩
  have hlz : zc.length = 66 := by rw [hzc]; exact lodC_len zeroG_sized
  rw [← hzc] at hBu hS1 hres hB ⊢
  clear hzc
  have hiL : (Try.prog.info? 91).map (·.size) = some zc.length := by rw [hlz]; kernel_rfl
  by_cases h1 : lm = 6
  · subst h1
    by_cases h2 : ld = 6
    · subst h2
      have h3 : ((ls : Int) != 6) = true := by simp; omega
      go_enter Try.func78, Try.ntmps78
      go_wp2
      exact bodyPost_ret (results_big Try.results78 _ (w.heap.size + 1) _ rfl hres Try.underlying91 rfl hiL) rfl ⟨rfl, hB⟩
    · have h3 : ((ld : Int) != 6) = true := by simp; omega
      go_enter Try.func78, Try.ntmps78
      go_wp2
      exact bodyPost_ret (results_big Try.results78 _ (w.heap.size + 1) _ rfl hres Try.underlying91 rfl hiL) rfl ⟨rfl, hB⟩
  · have h3 : ((lm : Int) != 6) = true := by simp; omega
    go_enter Try.func78, Try.ntmps78
    go_wp2
    exact bodyPost_ret (results_big Try.results78 _ (w.heap.size + 1) _ rfl hres Try.underlying91 rfl hiL) rfl ⟨rfl, hB⟩

set_option maxRecDepth 100000 in
set_option maxHeartbeats 8000000 in
theorem lodgerOf_bad (lo hi : Nat) (am ad aS : Option Addr) (cm cd cs : Nat) (ms : List (List Int)) (w : World) (hD : IsMem w lo hi ad 6 ms) (hh : hi ≤ w.heap.size) (hno : okM ms = false) :
    Calls Try.prog 78 #[.agg #[.slice am 6 cm, .slice ad 6 cd, .slice aS 6 cs]] w fun e w' => e = .returned (.tuple #[.agg (lodC zeroG).toArray, .bool false]) ∧ Below w.heap.size w w' := by
  obtain ⟨zL, hz, hal⟩ := alloc_any 91 66 (by kernel_rfl)
  have hAl : ∀ w : World, bigAlloc Try.prog 91 w = .ok (.pointer (some ⟨w.heap.size, 0, none⟩)) (w.alloc (.cells zL 91)) := hal
  have hBu := build_lod
  have hlz := lodC_len zeroG_sized
  have h1z := lodC_one zeroG
  generalize lodC zeroG = zc at *
  have hiL : (Try.prog.info? 91).map (·.size) = some zc.length := by rw [hlz]; kernel_rfl
  obtain ⟨W, hW⟩ : ∃ W, W = (w.alloc (.cells #[.slice am 6 cm, .slice ad 6 cd, .slice aS 6 cs] 39)).alloc (.cells zL 91) := ⟨_, rfl⟩
  have hsW : W.heap.size = w.heap.size + 1 + 1 := by rw [hW]; simp
  have hth : W.there (w.heap.size + 1) 0 66 := by
    have := there_new (w.alloc (.cells #[.slice am 6 cm, .slice ad 6 cd, .slice aS 6 cs] 39)) zL 91
    rw [hz, World.size_alloc] at this
    rw [hW]; exact this
  have B0 : Below w.heap.size w W := by rw [hW]; exact ((Below.refl _ _).alloc (Nat.le_refl _) _).alloc (by simp) _
  have hc := sheetsOf_no lo hi ad 6 cd ms W (hD.same (below_sameIn B0 hh)) (Nat.le_trans hh B0.size) (by omega) hno
  clear hal hz
  go_enter Try.func78, Try.ntmps78
  go_wp2_with (fail)
  rw [← hW]
  clear hW
  refine hc.mono ?_
  rintro e w1 ⟨rfl, B1⟩
  have hth1 := there_below hth B1 (by omega)
  have hS1 : bigStore Try.prog 91 (.pointer (some ⟨w.heap.size + 1, 0, none⟩)) (.agg zc.toArray) w1 = .ok () (w1.setCells (w.heap.size + 1) 0 zc) := by
    have := run_storeAt_mid (P := Try.prog) w1 (w.heap.size + 1) 0 91 zc.toArray (by rw [show zc.toArray.size = 66 by simp [hlz]]; exact hth1) (by rw [show zc.toArray.size = 66 by simp [hlz]]; kernel_rfl) (all_oneCell_toArray h1z)
    simpa [bigStore] using this
  have hres := World.rangeAt_setCells_same w1 (w.heap.size + 1) 0 zc (by rw [hlz]; exact hth1)
  have HB : Hid (Below w.heap.size w (w1.setCells (w.heap.size + 1) 0 zc)) := below_setCells (B0.trans (B1.mono B0.size)) (Nat.le_succ _) zc 0
  generalize w1.setCells (w.heap.size + 1) 0 zc = w2 at *
  clear B1 hc hAl
  go_wp2
  exact bodyPost_ret (results_big Try.results78 _ (w.heap.size + 1) _ rfl hres Try.underlying91 rfl hiL) rfl ⟨rfl, HB.out⟩

set_option maxRecDepth 100000 in
set_option maxHeartbeats 8000000 in
theorem lodgerOf_yes (lo hi : Nat) (bm om bS oS : Nat) (ad : Option Addr) (cm cd cs : Nat) (g : Gst) (w : World) (hg : Sized g) (hM : Ents w bm om g.maps) (hbm : bm < w.heap.size) (hQ : Quads w bS oS g.shades) (hbS : bS < w.heap.size) (hD : IsMem w lo hi ad 6 g.disk) (hh : hi ≤ w.heap.size) (hok : okM g.disk = true) :
    Calls Try.prog 78 #[.agg #[.slice (some ⟨bm, om, none⟩) 6 cm, .slice ad 6 cd, .slice (some ⟨bS, oS, none⟩) 6 cs]] w fun e w' => e = .returned (.tuple #[.agg (lodC g).toArray, .bool true]) ∧ Below w.heap.size w w' := by
  obtain ⟨zL, hz, hal⟩ := alloc_any 91 66 (by kernel_rfl)
  have hAl : ∀ w : World, bigAlloc Try.prog 91 w = .ok (.pointer (some ⟨w.heap.size, 0, none⟩)) (w.alloc (.cells zL 91)) := hal
  obtain ⟨W, hW⟩ : ∃ W, W = (w.alloc (.cells #[.slice (some ⟨bm, om, none⟩) 6 cm, .slice ad 6 cd, .slice (some ⟨bS, oS, none⟩) 6 cs] 39)).alloc (.cells zL 91) := ⟨_, rfl⟩
  have hsW : W.heap.size = w.heap.size + 1 + 1 := by rw [hW]; simp
  have hth : W.there (w.heap.size + 1) 0 66 := by
    have := there_new (w.alloc (.cells #[.slice (some ⟨bm, om, none⟩) 6 cm, .slice ad 6 cd, .slice (some ⟨bS, oS, none⟩) 6 cs] 39)) zL 91
    rw [hz, World.size_alloc] at this
    rw [hW]; exact this
  have B0 : Below w.heap.size w W := by rw [hW]; exact ((Below.refl _ _).alloc (Nat.le_refl _) _).alloc (by simp) _
  have x0 : W.cell? ⟨w.heap.size, 0, none⟩ = some (.slice (some ⟨bm, om, none⟩) 6 cm) := by rw [hW]; simp
  have x2 : W.cell? ⟨w.heap.size, 2, none⟩ = some (.slice (some ⟨bS, oS, none⟩) 6 cs) := by rw [hW]; simp
  have hc := sheetsOf_yes lo hi ad 6 cd g.disk W (hD.same (below_sameIn B0 hh)) (Nat.le_trans hh B0.size) (by omega) hok
  obtain ⟨hg1, hg2, hg3, hg4⟩ := hg
  have hlF : (flat g.maps).length = 18 := by rw [flat_len, hg1]
  have hlS : (sheetsC g.disk).length = 24 := by rw [sheetsC_len, hg2]
  have hlQ : (quadsC g.shades).length = 24 := by rw [quadsC_len, hg4]
  have hlc := lodC_len ⟨hg1, hg2, hg3, hg4⟩
  have hiL : (Try.prog.info? 91).map (·.size) = some (lodC g).length := by rw [hlc]; kernel_rfl
  have h1L := lodC_one g
  have hrM := ents_range hM
  have hrQ := quads_range hQ
  have h1F := flat_one g.maps
  have h1S := sheetsC_one g.disk
  have h1Q := quadsC_one g.shades
  clear hal
  go_enter Try.func78, Try.ntmps78
  go_wp2_with (fail)
  rw [← hW]
  clear hW
  refine hc.mono ?_
  rintro e w1 ⟨rfl, S1, R1, l1, B1⟩
  have B01 := B0.trans (B1.mono B0.size)
  have s1 := B1.size
  obtain ⟨U, hU⟩ : ∃ U, U = w1.alloc (.cells zL 91) := ⟨_, rfl⟩
  have BU : Below w1.heap.size w1 U := by rw [hU]; exact (Below.refl _ _).alloc (Nat.le_refl _) _
  have sU : U.heap.size = w1.heap.size + 1 := by rw [hU]; simp
  have B0U := B01.trans (BU.mono (by omega))
  have thX : U.there w1.heap.size 0 66 := by
    have := there_new w1 zL 91
    rw [hz] at this
    rw [hU]; exact this
  have thR : U.there (w.heap.size + 1) 0 66 := there_below (there_below hth B1 (by omega)) BU (by omega)
  have y0 := (BU.cell (p := ⟨w.heap.size, 0, none⟩) (by show w.heap.size < _; omega)).trans ((B1.cell (p := ⟨w.heap.size, 0, none⟩) (by show w.heap.size < _; omega)).trans x0)
  have y2 := (BU.cell (p := ⟨w.heap.size, 2, none⟩) (by show w.heap.size < _; omega)).trans ((B1.cell (p := ⟨w.heap.size, 2, none⟩) (by show w.heap.size < _; omega)).trans x2)
  have rM := range_below hrM B0U hbm
  have rQ := range_below hrQ B0U hbS
  have rS : U.rangeAt W.heap.size 0 (sheetsC g.disk) := range_below (sheets_range S1) BU l1
  have th1 : U.there w1.heap.size 0 (6 * 3) := fun j hj => thX j (by omega)
  have cp1 := copy_into (w := U.drew) (dT := 36) (elem := 35) w1.heap.size 0 6 3 bm om 6 cm 6 (flat g.maps) Try.underlying36 (by kernel_rfl) rfl (by omega) rM th1 h1F
  have p1 := put_setCells w1.heap.size 0 U.drew (flat g.maps)
  have q1 := World.rangeAt_setCells_same U.drew w1.heap.size 0 (flat g.maps) (by rw [hlF]; exact th1)
  have thX1 := World.there_setCells (w := U.drew) thX w1.heap.size 0 (flat g.maps)
  generalize World.setCells U.drew w1.heap.size 0 (flat g.maps) = U1 at *
  have th2 : U1.there w1.heap.size 18 (6 * 4) := fun j hj => by have := thX1 (18 + j) (by omega); rwa [Nat.zero_add] at this
  have cp2 := copy_into (w := U1) (dT := 69) (elem := 56) w1.heap.size 18 6 4 W.heap.size 0 6 6 6 (sheetsC g.disk) Try.underlying69 (by kernel_rfl) rfl (by omega) (p1.range (by omega) rS) th2 h1S
  have p2 := put_setCells w1.heap.size 18 U1 (sheetsC g.disk)
  have q2 := World.rangeAt_setCells_same U1 w1.heap.size 18 (sheetsC g.disk) (by rw [hlS]; exact th2)
  have q1' := World.rangeAt_setCells_apart q1 w1.heap.size 18 (sheetsC g.disk) (Or.inr (Or.inl (by rw [hlF]; omega)))
  have thX2 := World.there_setCells (w := U1) thX1 w1.heap.size 18 (sheetsC g.disk)
  generalize World.setCells U1 w1.heap.size 18 (sheetsC g.disk) = U2 at *
  have th3 : U2.there w1.heap.size 42 (6 * 4) := fun j hj => by have := thX2 (42 + j) (by omega); rwa [Nat.zero_add] at this
  have z2 := (p2.cell (b := w.heap.size) (o := 2) (by omega)).trans ((p1.cell (b := w.heap.size) (o := 2) (by omega)).trans y2)
  have rQ2 := p2.range (by omega) (p1.range (by omega) rQ)
  have cp3 := copy_into (w := U2.drew) (dT := 37) (elem := 49) w1.heap.size 42 6 4 bS oS 6 cs 6 (quadsC g.shades) Try.underlying37 (by kernel_rfl) rfl (by omega) rQ2 th3 h1Q
  have p3 := put_setCells w1.heap.size 42 U2.drew (quadsC g.shades)
  have q3 := World.rangeAt_setCells_same U2.drew w1.heap.size 42 (quadsC g.shades) (by rw [hlQ]; exact th3)
  have q1'' := World.rangeAt_setCells_apart (w := U2.drew) q1' w1.heap.size 42 (quadsC g.shades) (Or.inr (Or.inl (by rw [hlF]; omega)))
  have q2' := World.rangeAt_setCells_apart (w := U2.drew) q2 w1.heap.size 42 (quadsC g.shades) (Or.inr (Or.inl (by rw [hlS]; omega)))
  generalize World.setCells U2.drew w1.heap.size 42 (quadsC g.shades) = U3 at *
  have hrL : U3.rangeAt w1.heap.size 0 (lodC g) := range_join hlF q1'' (range_join hlS (by rw [Nat.zero_add]; exact q2') (by rw [Nat.zero_add]; exact q3))
  have hl3 : bigRun Try.prog 91 (.pointer (some ⟨w1.heap.size, 0, none⟩)) U3 = .ok (.agg (lodC g).toArray) U3 := big_load Try.underlying91 rfl hiL _ _ U3 hrL
  have bU1 : Below w1.heap.size U U1 := (Below.refl w1.heap.size U).drew.trans (p1.below (Nat.le_refl _))
  have bU2 := bU1.trans (p2.below (Nat.le_refl _))
  have bU3 := bU2.drew.trans (p3.below (Nat.le_refl _))
  have thR3 : U3.there (w.heap.size + 1) 0 66 := there_below thR bU3 (by omega)
  have hS3 : bigStore Try.prog 91 (.pointer (some ⟨w.heap.size + 1, 0, none⟩)) (.agg (lodC g).toArray) U3 = .ok () (U3.setCells (w.heap.size + 1) 0 (lodC g)) := by
    have := run_storeAt_mid (P := Try.prog) U3 (w.heap.size + 1) 0 91 (lodC g).toArray (by rw [show (lodC g).toArray.size = 66 by simp [hlc]]; exact thR3) (by rw [show (lodC g).toArray.size = 66 by simp [hlc]]; kernel_rfl) (all_oneCell_toArray h1L)
    simpa [bigStore] using this
  have hres := World.rangeAt_setCells_same U3 (w.heap.size + 1) 0 (lodC g) (by rw [hlc]; exact thR3)
  have HB : Hid (Below w.heap.size w (U3.setCells (w.heap.size + 1) 0 (lodC g))) := below_setCells (B0U.trans (bU3.mono (by omega))) (Nat.le_succ _) (lodC g) 0
  generalize U3.setCells (w.heap.size + 1) 0 (lodC g) = U4 at *
  have hbw : w.heap.size < U.heap.size := by omega
  rw [hsW] at cp2
  have Hres : Hid (U4.rangeAt (w.heap.size + 1) 0 (lodC g)) := hres
  clear rM rQ rS th1 th2 th3 thX thR thX1 thX2 thR3 q1 q1' q1'' q2 q2' q3 hrL rQ2 p1 p2 p3 bU1 bU2 bU3 hres S1 R1 hth hM hQ hrM hrQ hD hc B1 BU B0U B01 x0 x2
  go_wp2_with (fail)
  rw [← hU]
  clear hU hAl
  go_region_with (fail)
  all_goals go_wp2_with (fail)
  all_goals go_region_with (fail)
  all_goals go_wp2_with (fail)
  all_goals exact bodyPost_ret (results_big Try.results78 _ (w.heap.size + 1) _ rfl Hres.out Try.underlying91 rfl hiL) rfl ⟨rfl, HB.out⟩

theorem okLod0_sized {g : Gst} (h : okLod0 g = true) : Sized g ∧ okM g.disk = true := by
  simp only [okLod0, Bool.and_eq_true, beq_iff_eq] at h
  obtain ⟨h1, h2, h3, h4⟩ := h
  exact ⟨⟨h1, h2, fun i hi => (okM_get h4 (by omega)).1, h3⟩, h4⟩

theorem implLodgerOf (lo hi : Nat) (vm vd vs : Value) (g : Gst) (w : World) (hG : GuestIn w lo hi vm vd vs g) (hh : hi ≤ w.heap.size) :
    Calls Try.prog 78 #[.agg #[vm, vd, vs]] w fun e w' => LodRead w w' e g := by
  obtain ⟨⟨am, cm, rfl, hM⟩, ⟨ad, cd, rfl, hD⟩, aS, cs, rfl, hS⟩ := hG
  cases ho : okLod0 g
  · have key : Calls Try.prog 78 #[.agg #[.slice am g.maps.length cm, .slice ad g.disk.length cd, .slice aS g.shades.length cs]] w fun e w' => e = .returned (.tuple #[.agg (lodC zeroG).toArray, .bool false]) ∧ Below w.heap.size w w' := by
      by_cases hl : g.maps.length ≠ 6 ∨ g.disk.length ≠ 6 ∨ g.shades.length ≠ 6
      · exact lodgerOf_len am ad aS _ cm _ cd _ cs w hl
      · have h1 : g.maps.length = 6 := by omega
        have h2 : g.disk.length = 6 := by omega
        have h3 : g.shades.length = 6 := by omega
        have h4 : okM g.disk = false := by
          cases hx : okM g.disk
          · rfl
          · simp [okLod0, h1, h2, h3, hx] at ho
        rw [h1, h2, h3]
        rw [h2] at hD
        exact lodgerOf_bad lo hi am ad aS cm cd cs g.disk w hD hh h4
    refine key.mono ?_
    rintro e w' ⟨rfl, hB⟩
    exact ⟨⟨lodC zeroG, lodC_len zeroG_sized, lodC_one _, by rw [ho], fun h => by rw [ho] at h; cases h⟩, hB⟩
  · obtain ⟨hg, hd⟩ := okLod0_sized ho
    obtain ⟨_, hM'⟩ := hM
    obtain ⟨_, hS'⟩ := hS
    obtain ⟨g1, g2, g3, g4⟩ := hg
    rcases hM' with h0 | ⟨bm, om, rfl, _, m2, hE⟩
    · omega
    rcases hS' with h0 | ⟨bS, oS, rfl, _, s2, hQ⟩
    · omega
    rw [g1, g2, g4]
    rw [g2] at hD
    refine (lodgerOf_yes lo hi bm om bS oS ad cm cd cs g w ⟨g1, g2, g3, g4⟩ hE (by omega) hQ (by omega) hD hh hd).mono ?_
    rintro e w' ⟨rfl, hB⟩
    exact ⟨⟨lodC g, lodC_len ⟨g1, g2, g3, g4⟩, lodC_one _, by rw [ho], fun _ => rfl⟩, hB⟩
end Go.Proofs.Ytjegndgdpmlbaaa
