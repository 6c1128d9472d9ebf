/-
  What the program's own reading of a host does.
-/
import Derived.Test.YtahcoklhijjenaaLodOf0
import Derived.Test.YtahcoklhijjenaaHouseOk0
set_option linter.unusedSimpArgs false
namespace Go.Proofs.Ytahcoklhijjenaa
open Go.RowKit
attribute [local go_sem ↓] Go.wp_at_zero Go.wp_at_succ exec_app exec_lod exec_house exec_mapsA exec_allocL exec_storeL exec_buildL exec_idxM exec_look exec_upd exec_allocH exec_buildH exec_storeH
attribute [local go_sem] bigNext_ok bigSkip_ok

theorem build_house0 (w : World) : bigBuild Try.prog 72 #[] w = .ok (.agg (houseC (zeroM 8) (.slice none 0 0) 0).toArray) w := by kernel_rfl
theorem build_houseH (hand : Int) (w : World) : bigBuild Try.prog 72 #[(2, .int .i64 hand)] w = .ok (.agg (houseC (zeroM 8) (.slice none 0 0) hand).toArray) w := by kernel_rfl
def hz : List Value := houseC (zeroM 8) (.slice none 0 0) 0
theorem houseC_one (fs : List (List Int)) (a : Option Addr) (l c : Nat) (hand : Int) : ∀ v ∈ houseC fs (.slice a l c) hand, v.oneCell' = true := by
  intro v hv
  simp only [houseC, List.mem_append, List.mem_cons, List.not_mem_nil, or_false] at hv
  rcases hv with hv | rfl | rfl
  · exact sheetsC_one _ v hv
  · rfl
  · rfl

set_option maxRecDepth 100000 in
set_option maxHeartbeats 8000000 in
theorem houseOf_len (af ag : Option Addr) (lf cf n cg : Nat) (hand : Int) (w : World) (hno : lf ≠ 8 ∨ (decide ((1 : Int) ≤ (n : Int)) && decide ((n : Int) ≤ 2)) = false ∨ (decide (0 ≤ hand) && decide (hand ≤ 7)) = false) :
    Calls Try.prog 50 #[.agg #[.slice af lf cf, .slice ag n cg, .int .i64 hand]] w fun e w' => e = .returned (.tuple #[.agg hz.toArray, .bool false]) ∧ Below w.heap.size w w' := by
  obtain ⟨zH, _, hAl, hSt⟩ := house_var
  have hlz : hz.length = 34 := houseC_len rfl _ _
  have hS1 := hSt (w.alloc (.cells #[.slice af lf cf, .slice ag n cg, .int .i64 hand] 27)) hz hlz (houseC_one _ _ _ _ _)
  rw [World.size_alloc] at hS1
  have hres := range_new (w.alloc (.cells #[.slice af lf cf, .slice ag n cg, .int .i64 hand] 27)) hz 72
  rw [World.size_alloc] at hres
  have hB : Below w.heap.size w ((w.alloc (.cells #[.slice af lf cf, .slice ag n cg, .int .i64 hand] 27)).alloc (.cells hz.toArray 72)) := ((Below.refl _ _).alloc (Nat.le_refl _) _).alloc (by simp) _
  have hBu : ∀ w : World, bigBuild Try.prog 72 #[] w = .ok (.agg hz.toArray) w := build_house0
  have hG := implGuestsOk n
  have hF := implFrameOk hand
  clear hSt
  generalize hz = zc at *
  have hiH : (Try.prog.info? 72).map (·.size) = some zc.length := by rw [hlz]; kernel_rfl
  by_cases h1 : lf = 8
  · subst h1
    cases h2 : (decide ((1 : Int) ≤ (n : Int)) && decide ((n : Int) ≤ 2))
    · rw [h2] at hG
      go_enter Try.func50, Try.ntmps50
      go_wp2_with (fail)
      refine (hG _).mono ?_
      rintro e w1 ⟨rfl, rfl⟩
      go_wp2
      exact bodyPost_ret (results_big Try.results50 _ (w.heap.size + 1) _ rfl hres Try.underlying72 rfl hiH) rfl ⟨rfl, hB⟩
    · rw [h2] at hG
      have h3 : (decide (0 ≤ hand) && decide (hand ≤ 7)) = false := by
        rcases hno with h | h | h
        · exact (h rfl).elim
        · rw [h2] at h; cases h
        · exact h
      rw [h3] at hF
      go_enter Try.func50, Try.ntmps50
      go_wp2_with (fail)
      refine (hG _).mono ?_
      rintro e w1 ⟨rfl, rfl⟩
      go_wp2_with (fail)
      refine (hF _).mono ?_
      rintro e w1 ⟨rfl, rfl⟩
      go_wp2
      exact bodyPost_ret (results_big Try.results50 _ (w.heap.size + 1) _ rfl hres Try.underlying72 rfl hiH) rfl ⟨rfl, hB⟩
  · have h3 : ((lf : Int) != 8) = true := by simp; omega
    go_enter Try.func50, Try.ntmps50
    go_wp2
    exact bodyPost_ret (results_big Try.results50 _ (w.heap.size + 1) _ rfl hres Try.underlying72 rfl hiH) rfl ⟨rfl, hB⟩

set_option maxRecDepth 100000 in
set_option maxHeartbeats 8000000 in
theorem houseOf_bad (lo hi : Nat) (af ag : Option Addr) (cf n cg : Nat) (hand : Int) (ms : List (List Int)) (w : World) (hF : IsMem w lo hi af 8 ms) (hh : hi ≤ w.heap.size) (hn : (decide ((1 : Int) ≤ (n : Int)) && decide ((n : Int) ≤ 2)) = true) (hhd : (decide (0 ≤ hand) && decide (hand ≤ 7)) = true) (hno : okM ms = false) :
    Calls Try.prog 50 #[.agg #[.slice af 8 cf, .slice ag n cg, .int .i64 hand]] w fun e w' => e = .returned (.tuple #[.agg hz.toArray, .bool false]) ∧ Below w.heap.size w w' := by
  obtain ⟨zH, hzs, hAl, _⟩ := house_var
  have hBu : ∀ w : World, bigBuild Try.prog 72 #[] w = .ok (.agg hz.toArray) w := build_house0
  have hlz : hz.length = 34 := houseC_len rfl _ _
  have h1z : ∀ v ∈ hz, v.oneCell' = true := houseC_one _ _ _ _ _
  have hG := implGuestsOk n
  have hFr := implFrameOk hand
  rw [hn] at hG
  rw [hhd] at hFr
  generalize hz = zc at *
  have hiH : (Try.prog.info? 72).map (·.size) = some zc.length := by rw [hlz]; kernel_rfl
  obtain ⟨W, hW⟩ : ∃ W, W = (w.alloc (.cells #[.slice af 8 cf, .slice ag n cg, .int .i64 hand] 27)).alloc (.cells zH 72) := ⟨_, rfl⟩
  have hsW : W.heap.size = w.heap.size + 1 + 1 := by rw [hW]; simp
  have hth : W.there (w.heap.size + 1) 0 34 := by
    have := there_new (w.alloc (.cells #[.slice af 8 cf, .slice ag n cg, .int .i64 hand] 27)) zH 72
    rw [hzs, World.size_alloc] at this
    rw [hW]; exact this
  have B0 : Below w.heap.size w W := by rw [hW]; exact ((Below.refl _ _).alloc (Nat.le_refl _) _).alloc (by simp) _
  have hc := sheetsOf_no lo hi af 8 cf ms W (hF.same (below_sameIn B0 hh)) (Nat.le_trans hh B0.size) (by omega) hno
  go_enter Try.func50, Try.ntmps50
  go_wp2_with (fail)
  refine (hG _).mono ?_
  rintro e w1 ⟨rfl, rfl⟩
  go_wp2_with (fail)
  refine (hFr _).mono ?_
  rintro e w1 ⟨rfl, rfl⟩
  go_wp2_with (fail)
  rw [← hW]
  clear hW
  refine hc.mono ?_
  rintro e w1 ⟨rfl, B1⟩
  have hth1 := there_below hth B1 (by omega)
  have hS1 : bigStore Try.prog 72 (.pointer (some ⟨w.heap.size + 1, 0, none⟩)) (.agg zc.toArray) w1 = .ok () (w1.setCells (w.heap.size + 1) 0 zc) := by
    have := run_storeAt_mid (P := Try.prog) w1 (w.heap.size + 1) 0 72 zc.toArray (by rw [show zc.toArray.size = 34 by simp [hlz]]; exact hth1) (by rw [show zc.toArray.size = 34 by simp [hlz]]; kernel_rfl) (all_oneCell_toArray h1z)
    simpa [bigStore] using this
  have hres := World.rangeAt_setCells_same w1 (w.heap.size + 1) 0 zc (by rw [hlz]; exact hth1)
  have HB : Hid (Below w.heap.size w (w1.setCells (w.heap.size + 1) 0 zc)) := below_setCells (B0.trans (B1.mono B0.size)) (Nat.le_succ _) zc 0
  generalize w1.setCells (w.heap.size + 1) 0 zc = w2 at *
  clear B1 hc hAl
  go_wp2
  exact bodyPost_ret (results_big Try.results50 _ (w.heap.size + 1) _ rfl hres Try.underlying72 rfl hiH) rfl ⟨rfl, HB.out⟩

/-- A house that is being read, behind k guests. -/
def HouseUp (w wr : World) (H k : Nat) (fs : List (List Int)) (a : Option Addr) (c : Nat) (hand : Int) (gs : List Gst) : Prop :=
  HouseAt wr H fs (.slice a k c) hand ∧ wr.there H 0 34 ∧ wr.there (w.heap.size + 1) 0 34 ∧ w.heap.size + 1 < H ∧ H < wr.heap.size ∧ Below w.heap.size w wr ∧ wr.ownsRow (H + 1) 87 66 (.slice a k c) k ((gs.take k).flatMap lodC)

theorem houseAt_slice {w : World} {H : Nat} {fs : List (List Int)} {v : Value} {hand : Int} (h : HouseAt w H fs v hand) (hf : fs.length = 8) (ht : w.there H 0 34) (u : Value) : HouseAt (w.setCell ⟨H, 32, none⟩ u) H fs u hand ∧ (w.setCell ⟨H, 32, none⟩ u).there H 0 34 := by
  have hl : (sheetsC fs).length = 32 := by rw [sheetsC_len, hf]
  refine ⟨?_, World.there_setCells ht H 32 [u]⟩
  have q1 := World.rangeAt_setCells_apart (range_left h) H 32 [u] (Or.inr (Or.inl (by rw [hl]; omega)))
  have q2 := World.rangeAt_setCells_same w H 32 [u] (fun j hj => by have := ht (32 + j) (by simp at hj; omega); rwa [Nat.zero_add] at this)
  have q3 : w.rangeAt H 33 [.int .i64 hand] := fun j v' hj => by
    have := range_right h hl (j + 1) v' (by simpa using hj)
    rwa [show 0 + 32 + (j + 1) = 33 + j by omega] at this
  have q3' := World.rangeAt_setCells_apart q3 H 32 [u] (Or.inr (Or.inr (by simp)))
  exact range_join hl q1 (range_join (n := 1) (ys := [.int .i64 hand]) (xs := [u]) rfl (by rw [Nat.zero_add]; exact q2) (by rw [Nat.zero_add]; exact q3'))

theorem infoLod : ∃ i z, Try.prog.info? 87 = some i ∧ i.zero = some z ∧ i.size = 66 ∧ i.bytes = 528 ∧ z.cells.size = 66 := by
  obtain ⟨i0, hi, hz0, hz1, hz2⟩ := info_parts infoL
  exact ⟨i0, _, hi, hz0, hz1, hz2, by show (lodC zeroG).toArray.size = 66; rw [List.size_toArray, lodC_len zeroG_sized]⟩

/-- One lodger more, told by what the walk runs. -/
theorem house_app {w wr W : World} {H k : Nat} {fs : List (List Int)} {a : Option Addr} {c : Nat} {hand : Int} {gs : List Gst} (h : HouseUp w wr H k fs a c hand gs) (hf : fs.length = 8) (hk : k < gs.length) (hk2 : k ≤ 1000) (hg : Sized (gs.getD k noG)) (hB : Below wr.heap.size wr W) :
    W.cell? ⟨H, 32, none⟩ = some (.slice a k c) ∧ H < W.heap.size ∧ ∃ g c' w1, appRun Try.prog 70 70 (.slice a k c) (.slice (some ⟨W.heap.size, 0, none⟩) 1 1) (W.alloc (.cells (lodC (gs.getD k noG)).toArray 87)) = .ok (.slice (some ⟨g, 0, none⟩) (k + 1) c') w1 ∧
      w1.cell? ⟨H, 32, none⟩ = some (.slice a k c) ∧ w1.frozen? ⟨H, 32, none⟩ = false ∧ Hid (HouseUp w (w1.setCell ⟨H, 32, none⟩ (.slice (some ⟨g, 0, none⟩) (k + 1) c')) H (k + 1) fs (some ⟨g, 0, none⟩) c' hand gs) := by
  obtain ⟨h1, h2, h3, h4, h5, h6, h7⟩ := h
  obtain ⟨i0, z, hi0, hz0, hz1, hz2, hz3⟩ := infoLod
  have hlc := lodC_len hg
  have hs := hB.size
  have hownW : W.ownsRow (H + 1) 87 66 (.slice a k c) k ((gs.take k).flatMap lodC) := by
    refine h7.kept (below_grown hB) ?_
    cases (Value.slice a k c).ownBlock
    · exact Or.inl rfl
    · exact Or.inr (by simp)
  have hnews := World.news_of_block (heap_alloc_new W (.cells (lodC (gs.getD k noG)).toArray 87))
  obtain ⟨g, c', w1, hrun, hown1, hgrow, hat, hlt⟩ := run_append_lies (P := Try.prog) (W.alloc (.cells (lodC (gs.getD k noG)).toArray 87)) 70 70 (H + 1) 87 i0 z 66 528 Try.underlying70 hi0 hz0 hz1 hz2 hz3 (by decide) _ k _ (hownW.alloc _) ⟨W.heap.size, 0, none⟩ 1 1 (lodC (gs.getD k noG)) (by rw [hlc]) (fun j u hj => hnews j u (by simpa using hj)) (lodC_one _) (by decide) (by unfold maxLen; omega) (by omega) (by simp; omega) (W.heap.size + 1) (by simp)
  have hne : ∀ b, b ≤ H → some b ≠ (Value.slice a k c).ownBlock := fun b hb e => by have := (h7.lt _ e.symm).1; omega
  have hkeep : ∀ b, b ≤ H → w1.heap[b]? = wr.heap[b]? := fun b hb => by
    rw [hgrow.block b (by rw [World.size_alloc]; omega) (hne b hb), ((Below.refl W.heap.size W).alloc (Nat.le_refl _) _).block b (by omega)]
    exact hB.block b (by omega)
  have s1 := hgrow.size
  rw [World.size_alloc] at s1
  have hcell : ∀ b o, b ≤ H → w1.cell? ⟨b, o, none⟩ = wr.cell? ⟨b, o, none⟩ := fun b o hb => World.cell?_of_block (a := ⟨b, o, none⟩) (hkeep b hb)
  have hfr : ∀ b o, b ≤ H → w1.frozen? ⟨b, o, none⟩ = wr.frozen? ⟨b, o, none⟩ := fun b o hb => World.frozen?_of_block (a := ⟨b, o, none⟩) (hkeep b hb)
  have hth : ∀ b, b ≤ H → wr.there b 0 34 → w1.there b 0 34 := fun b hb ht j hj => by
    rw [hcell b _ hb, hfr b _ hb]; exact ht j hj
  have hA1 : HouseAt w1 H fs (.slice a k c) hand := fun j v hj => (hcell H _ (Nat.le_refl _)).trans (h1 j v hj)
  obtain ⟨q1, q2⟩ := houseAt_slice hA1 hf (hth H (Nat.le_refl _) h2) (.slice (some ⟨g, 0, none⟩) (k + 1) c')
  refine ⟨((hB.cell (p := ⟨H, 32, none⟩) (by show H < _; omega)).trans (h1.lods hf).1), by omega, g, c', w1, hrun, (hA1.lods hf).1, ?_, q1, q2, ?_, h4, by rw [World.size_setCell]; omega, ?_, ?_⟩
  · have := (hth H (Nat.le_refl _) h2 32 (by omega)).2
    rwa [Nat.zero_add] at this
  · exact World.there_setCells (hth (w.heap.size + 1) (by omega) h3) H 32 [_]
  · refine Below.setCell ?_ (p := ⟨H, 32, none⟩) (by show w.heap.size ≤ H; omega) _
    exact Below.grown ((h6.trans (hB.mono h6.size)).alloc (by have := h6.size; omega) _) hgrow (by rw [World.size_alloc]; have := h6.size; omega) (fun j hj => by have := (h7.lt _ hj).1; omega)
  · have e : (gs.take (k + 1)).flatMap lodC = (gs.take k).flatMap lodC ++ lodC (gs.getD k noG) := by
      rw [List.take_succ_eq_append_getElem hk, List.flatMap_append, getD_lt hk]
      simp
    rw [e]
    exact ownsRow_setCell_below hown1 (a := ⟨H, 32, none⟩) (Nat.lt_succ_self _) _
end Go.Proofs.Ytahcoklhijjenaa
