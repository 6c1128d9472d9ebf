/-
  What the program's own asking of a house does.
-/
import Derived.Test.YtjegndgdpmlbaaaKOR
import Derived.Test.YtjegndgdpmlbaaaKOHM
import Derived.Test.YtjegndgdpmlbaaaKOF
set_option linter.unusedSimpArgs false
namespace Go.Proofs.Ytjegndgdpmlbaaa
open Go.RowKit
attribute [local go_sem ↓] Go.wp_at_zero Go.wp_at_succ exec_app exec_lod exec_house exec_mapsA exec_allocL exec_storeL exec_idxM exec_look exec_upd
attribute [local go_sem] bigNext_ok bigSkip_ok

/-- Lodgers as they lie: a row of them, one behind the other. -/
def LodsAt (w : World) (L n : Nat) (gs : List Gst) : Prop := gs.length = n ∧ L < w.heap.size ∧ ∀ i, i < n → Sized (gs.getD i noG) ∧ w.rangeAt L (i * 66) (lodC (gs.getD i noG))
def WfGs (n : Nat) (gs : List Gst) : Prop := ∀ i, i < n → ∀ p, p < 6 → (Lit.int .i64 ((gs.getD i noG).maps.getD p noM).2.1).wf = true
theorem LodsAt.below {w w' : World} {L n : Nat} {gs : List Gst} (h : LodsAt w L n gs) {N : Nat} (hB : Below N w w') (hN : L < N) (hs : N ≤ w.heap.size) : LodsAt w' L n gs :=
  ⟨h.1, Nat.lt_of_lt_of_le (Nat.lt_of_lt_of_le hN hs) hB.size, fun i hi => ⟨(h.2.2 i hi).1, range_below (h.2.2 i hi).2 hB hN⟩⟩

set_option maxRecDepth 100000 in
set_option maxHeartbeats 8000000 in
theorem implHouseOk (L n cl : Nat) (fs : List (List Int)) (hand : Int) (gs : List Gst) (w : World) (hf : fs.length = 8) (hn : n ≤ 2) (hL : LodsAt w L n gs) (hwf : WfGs n gs) :
    Calls Try.prog 79 #[.agg (houseC fs (.slice (some ⟨L, 0, none⟩) n cl) hand).toArray] w fun e w' => e = .returned (.bool (gs.all (okLod (ten gs)))) ∧ Below w.heap.size w w' := by
  have hH0 : HouseAt (w.alloc (.cells (houseC fs (.slice (some ⟨L, 0, none⟩) n cl) hand).toArray 60)) w.heap.size fs (.slice (some ⟨L, 0, none⟩) n cl) hand := range_new w _ 60
  have hld : bigRun Try.prog 60 (.pointer (some ⟨w.heap.size, 0, none⟩)) (w.alloc (.cells (houseC fs (.slice (some ⟨L, 0, none⟩) n cl) hand).toArray 60)) = .ok (.agg (houseC fs (.slice (some ⟨L, 0, none⟩) n cl) hand).toArray) (w.alloc (.cells (houseC fs (.slice (some ⟨L, 0, none⟩) n cl) hand).toArray 60)) := big_load Try.underlying60 rfl (by rw [houseC_len hf]; kernel_rfl) _ _ _ hH0
  have B0 : Below w.heap.size w (w.alloc (.cells (houseC fs (.slice (some ⟨L, 0, none⟩) n cl) hand).toArray 60)) := (Below.refl _ _).alloc (Nat.le_refl _) _
  have hL0 := hL.below B0 hL.2.1 (Nat.le_refl _)
  have hT := implTenants L n cl fs hand gs _ hf hL0.1 hn (fun i hi => (hL0.2.2 i hi).1) hwf hL0.2.1 (fun i hi => (hL0.2.2 i hi).2)
  have hc := (hH0.lods hf).1
  rw [World.size_alloc] at hT
  generalize (houseC fs (.slice (some ⟨L, 0, none⟩) n cl) hand).toArray = hs at *
  obtain ⟨zL, hAl, hSt⟩ := lod_var
  go_enter Try.func79, Try.ntmps79
  go_wp2_with (fail)
  refine hT.mono ?_
  rintro e w1 ⟨r, rfl, hr, hW, B1⟩
  have hc1 := (B1.cell (p := ⟨w.heap.size, 32, none⟩) (Nat.lt_succ_self _)).trans hc
  have B01 : Below w.heap.size w w1 := B0.trans (B1.mono (Nat.le_succ _))
  have hL1 := hL.below B01 hL.2.1 (Nat.le_refl _)
  have s1 := B1.size
  rw [World.size_alloc] at s1
  have hLw := hL.2.1
  have hW1 : Hid (Who w1 (w.heap.size + 1) r (ten gs)) := hW
  have hb1 : w.heap.size < w1.heap.size := by omega
  clear hT hld hc B1 hL0 B0 hH0 hW
  go_wp2_with (fail)
  go_loopw [11] (fun i wr => ∃ k : Nat, k ≤ n ∧ i = .int .i64 k ∧ Hid ((gs.take k).all (okLod (ten gs)) = true) ∧ Hid (Below w1.heap.size w1 wr)) (fun i _ => n - (intOf i).toNat)
  case atStart => exact ⟨0, Nat.zero_le _, rfl, rfl, Below.refl _ _⟩
  case round =>
    obtain ⟨k, hk, rfl, hA, hB⟩ := hrel
    by_cases hkl : k < n
    · have hki : (k : Int) < (n : Int) := by omega
      obtain ⟨hg, hrk⟩ := (hL1.below hB.out (by omega) (Nat.le_refl _)).2.2 k hkl
      have hlc := lodC_len hg
      have hiL : (Try.prog.info? 91).map (·.size) = some (lodC (gs.getD k noG)).length := by rw [hlc]; kernel_rfl
      have hld : bigRun Try.prog 91 (.pointer (some ⟨L, k * 66, none⟩)) wr = .ok (.agg (lodC (gs.getD k noG)).toArray) wr := big_load Try.underlying91 rfl hiL _ _ wr hrk
      have hS1 := fun w => hSt w (lodC (gs.getD k noG)) hlc (lodC_one _)
      have hl2 : bigRun Try.prog 91 (.pointer (some ⟨wr.heap.size, 0, none⟩)) (wr.alloc (.cells (lodC (gs.getD k noG)).toArray 91)) = .ok (.agg (lodC (gs.getD k noG)).toArray) (wr.alloc (.cells (lodC (gs.getD k noG)).toArray 91)) := big_load Try.underlying91 rfl hiL _ _ _ (range_new wr _ 91)
      have hWr : Who (wr.alloc (.cells (lodC (gs.getD k noG)).toArray 91)) (w.heap.size + 1) r (ten gs) := (hW1.out.below hB.out).below ((Below.refl _ _).alloc (Nat.le_refl _) _)
      have hC := implLodOk (gs.getD k noG) hg _ r (ten gs) _ hWr (hwf k hkl)
      have hlt : k < gs.length := by have := hL1.1; omega
      have hgd : gs.getD k noG = gs[k] := getD_lt hlt
      have hNo : okLod (ten gs) (gs.getD k noG) = false → gs.all (okLod (ten gs)) = false := fun e => all_no hlt (by rw [← hgd]; exact e)
      have hYes : okLod (ten gs) (gs.getD k noG) = true → (gs.take (k + 1)).all (okLod (ten gs)) = true := fun e => all_more hlt hA.out (by rw [← hgd]; exact e)
      clear hgd hrk hWr hg hlc hiL hSt
      generalize (lodC (gs.getD k noG)).toArray = cs at *
      generalize okLod (ten gs) (gs.getD k noG) = ok at *
      cases ok
      · have HF : Hid (gs.all (okLod (ten gs)) = false) := hNo rfl
        clear hNo hYes hA
        go_wp2_with (fail)
        refine hC.mono ?_
        rintro e w2 ⟨rfl, B2⟩
        have HB2 : Hid (Below w1.heap.size w1 w2) := (hB.out.alloc hB.out.size _).trans (B2.mono (by have := hB.out.size; simp; omega))
        clear B2 hC hld hl2 hS1
        go_wp2
        go_ret
        exact ⟨by rw [HF.out]; rfl, B01.trans (HB2.out.mono (by omega))⟩
      · have HY : Hid ((gs.take (k + 1)).all (okLod (ten gs)) = true) := hYes rfl
        clear hNo hYes hA
        go_wp2_with (fail)
        refine hC.mono ?_
        rintro e w2 ⟨rfl, B2⟩
        have HB2 : Hid (Below w1.heap.size w1 w2) := (hB.out.alloc hB.out.size _).trans (B2.mono (by have := hB.out.size; simp; omega))
        clear B2 hC hld hl2 hS1
        go_wp2
        go_roundw
        case rel => exact ⟨k + 1, by omega, by go_num, HY, HB2⟩
        case measure => simp [intOf]; omega
    · have HA : Hid (gs.all (okLod (ten gs)) = true) := by
        have := hA.out
        rwa [List.take_of_length_le (by have := hL1.1; omega)] at this
      clear hAl hSt hA
      go_wp2
      go_ret
      exact ⟨by rw [HA.out]; rfl, B01.trans (hB.out.mono (by omega))⟩
end Go.Proofs.Ytjegndgdpmlbaaa

/-
  What the program's own reading of a host does.
-/
set_option linter.unusedSimpArgs false
namespace Go.Proofs.Ytjegndgdpmlbaaa
open Go.RowKit
attribute [local go_sem ↓] Go.wp_at_zero Go.wp_at_succ exec_app exec_lod exec_house exec_mapsA exec_allocL exec_storeL exec_buildL exec_idxM exec_look exec_upd exec_allocH exec_buildH exec_storeH
attribute [local go_sem] bigNext_ok bigSkip_ok

theorem build_house0 (w : World) : bigBuild Try.prog 60 #[] w = .ok (.agg (houseC (zeroM 8) (.slice none 0 0) 0).toArray) w := by kernel_rfl
theorem build_houseH (hand : Int) (w : World) : bigBuild Try.prog 60 #[(2, .int .i64 hand)] w = .ok (.agg (houseC (zeroM 8) (.slice none 0 0) hand).toArray) w := by kernel_rfl
def hz : List Value := houseC (zeroM 8) (.slice none 0 0) 0
theorem houseC_one (fs : List (List Int)) (a : Option Addr) (l c : Nat) (hand : Int) : ∀ v ∈ houseC fs (.slice a l c) hand, v.oneCell' = true := by
  intro v hv
  simp only [houseC, List.mem_append, List.mem_cons, List.not_mem_nil, or_false] at hv
  rcases hv with hv | rfl | rfl
  · exact sheetsC_one _ v hv
  · rfl
  · rfl

set_option maxRecDepth 100000 in
set_option maxHeartbeats 8000000 in
theorem houseOf_len (af ag : Option Addr) (lf cf n cg : Nat) (hand : Int) (w : World) (hno : lf ≠ 8 ∨ (decide ((1 : Int) ≤ (n : Int)) && decide ((n : Int) ≤ 2)) = false ∨ (decide (0 ≤ hand) && decide (hand ≤ 7)) = false) :
    Calls Try.prog 47 #[.agg #[.slice af lf cf, .slice ag n cg, .int .i64 hand]] w fun e w' => e = .returned (.tuple #[.agg hz.toArray, .bool false]) ∧ Below w.heap.size w w' := by
  obtain ⟨zH, _, hAl, hSt⟩ := house_var
  have hlz : hz.length = 34 := houseC_len rfl _ _
  have hS1 := hSt (w.alloc (.cells #[.slice af lf cf, .slice ag n cg, .int .i64 hand] 26)) hz hlz (houseC_one _ _ _ _ _)
  rw [World.size_alloc] at hS1
  have hres := range_new (w.alloc (.cells #[.slice af lf cf, .slice ag n cg, .int .i64 hand] 26)) hz 60
  rw [World.size_alloc] at hres
  have hB : Below w.heap.size w ((w.alloc (.cells #[.slice af lf cf, .slice ag n cg, .int .i64 hand] 26)).alloc (.cells hz.toArray 60)) := ((Below.refl _ _).alloc (Nat.le_refl _) _).alloc (by simp) _
  have hBu : ∀ w : World, bigBuild Try.prog 60 #[] w = .ok (.agg hz.toArray) w := build_house0
  have hG := implGuestsOk n
  have hF := implFrameOk hand
  clear hSt
  generalize hz = zc at *
  have hiH : (Try.prog.info? 60).map (·.size) = some zc.length := by rw [hlz]; kernel_rfl
  by_cases h1 : lf = 8
  · subst h1
    cases h2 : (decide ((1 : Int) ≤ (n : Int)) && decide ((n : Int) ≤ 2))
    · rw [h2] at hG
      go_enter Try.func47, Try.ntmps47
      go_wp2_with (fail)
      refine (hG _).mono ?_
      rintro e w1 ⟨rfl, rfl⟩
      go_wp2
      exact bodyPost_ret (results_big Try.results47 _ (w.heap.size + 1) _ rfl hres Try.underlying60 rfl hiH) rfl ⟨rfl, hB⟩
    · rw [h2] at hG
      have h3 : (decide (0 ≤ hand) && decide (hand ≤ 7)) = false := by
        rcases hno with h | h | h
        · exact (h rfl).elim
        · rw [h2] at h; cases h
        · exact h
      rw [h3] at hF
      go_enter Try.func47, Try.ntmps47
      go_wp2_with (fail)
      refine (hG _).mono ?_
      rintro e w1 ⟨rfl, rfl⟩
      go_wp2_with (fail)
      refine (hF _).mono ?_
      rintro e w1 ⟨rfl, rfl⟩
      go_wp2
      exact bodyPost_ret (results_big Try.results47 _ (w.heap.size + 1) _ rfl hres Try.underlying60 rfl hiH) rfl ⟨rfl, hB⟩
  · have h3 : ((lf : Int) != 8) = true := by simp; omega
    go_enter Try.func47, Try.ntmps47
    go_wp2
    exact bodyPost_ret (results_big Try.results47 _ (w.heap.size + 1) _ rfl hres Try.underlying60 rfl hiH) rfl ⟨rfl, hB⟩

set_option maxRecDepth 100000 in
set_option maxHeartbeats 8000000 in
theorem houseOf_bad (lo hi : Nat) (af ag : Option Addr) (cf n cg : Nat) (hand : Int) (ms : List (List Int)) (w : World) (hF : IsMem w lo hi af 8 ms) (hh : hi ≤ w.heap.size) (hn : (decide ((1 : Int) ≤ (n : Int)) && decide ((n : Int) ≤ 2)) = true) (hhd : (decide (0 ≤ hand) && decide (hand ≤ 7)) = true) (hno : okM ms = false) :
    Calls Try.prog 47 #[.agg #[.slice af 8 cf, .slice ag n cg, .int .i64 hand]] w fun e w' => e = .returned (.tuple #[.agg hz.toArray, .bool false]) ∧ Below w.heap.size w w' := by
  obtain ⟨zH, hzs, hAl, _⟩ := house_var
  have hBu : ∀ w : World, bigBuild Try.prog 60 #[] w = .ok (.agg hz.toArray) w := build_house0
  have hlz : hz.length = 34 := houseC_len rfl _ _
  have h1z : ∀ v ∈ hz, v.oneCell' = true := houseC_one _ _ _ _ _
  have hG := implGuestsOk n
  have hFr := implFrameOk hand
  rw [hn] at hG
  rw [hhd] at hFr
  generalize hz = zc at *
  have hiH : (Try.prog.info? 60).map (·.size) = some zc.length := by rw [hlz]; kernel_rfl
  obtain ⟨W, hW⟩ : ∃ W, W = (w.alloc (.cells #[.slice af 8 cf, .slice ag n cg, .int .i64 hand] 26)).alloc (.cells zH 60) := ⟨_, rfl⟩
  have hsW : W.heap.size = w.heap.size + 1 + 1 := by rw [hW]; simp
  have hth : W.there (w.heap.size + 1) 0 34 := by
    have := there_new (w.alloc (.cells #[.slice af 8 cf, .slice ag n cg, .int .i64 hand] 26)) zH 60
    rw [hzs, World.size_alloc] at this
    rw [hW]; exact this
  have B0 : Below w.heap.size w W := by rw [hW]; exact ((Below.refl _ _).alloc (Nat.le_refl _) _).alloc (by simp) _
  have hc := sheetsOf_no lo hi af 8 cf ms W (hF.same (below_sameIn B0 hh)) (Nat.le_trans hh B0.size) (by omega) hno
  go_enter Try.func47, Try.ntmps47
  go_wp2_with (fail)
  refine (hG _).mono ?_
  rintro e w1 ⟨rfl, rfl⟩
  go_wp2_with (fail)
  refine (hFr _).mono ?_
  rintro e w1 ⟨rfl, rfl⟩
  go_wp2_with (fail)
  rw [← hW]
  clear hW
  refine hc.mono ?_
  rintro e w1 ⟨rfl, B1⟩
  have hth1 := there_below hth B1 (by omega)
  have hS1 : bigStore Try.prog 60 (.pointer (some ⟨w.heap.size + 1, 0, none⟩)) (.agg zc.toArray) w1 = .ok () (w1.setCells (w.heap.size + 1) 0 zc) := by
    have := run_storeAt_mid (P := Try.prog) w1 (w.heap.size + 1) 0 60 zc.toArray (by rw [show zc.toArray.size = 34 by simp [hlz]]; exact hth1) (by rw [show zc.toArray.size = 34 by simp [hlz]]; kernel_rfl) (all_oneCell_toArray h1z)
    simpa [bigStore] using this
  have hres := World.rangeAt_setCells_same w1 (w.heap.size + 1) 0 zc (by rw [hlz]; exact hth1)
  have HB : Hid (Below w.heap.size w (w1.setCells (w.heap.size + 1) 0 zc)) := below_setCells (B0.trans (B1.mono B0.size)) (Nat.le_succ _) zc 0
  generalize w1.setCells (w.heap.size + 1) 0 zc = w2 at *
  clear B1 hc hAl
  go_wp2
  exact bodyPost_ret (results_big Try.results47 _ (w.heap.size + 1) _ rfl hres Try.underlying60 rfl hiH) rfl ⟨rfl, HB.out⟩

/-- A house that is being read, behind k guests. -/
def HouseUp (w wr : World) (H k : Nat) (fs : List (List Int)) (a : Option Addr) (c : Nat) (hand : Int) (gs : List Gst) : Prop :=
  HouseAt wr H fs (.slice a k c) hand ∧ wr.there H 0 34 ∧ wr.there (w.heap.size + 1) 0 34 ∧ w.heap.size + 1 < H ∧ H < wr.heap.size ∧ Below w.heap.size w wr ∧ wr.ownsRow (H + 1) 91 66 (.slice a k c) k ((gs.take k).flatMap lodC)

theorem houseAt_slice {w : World} {H : Nat} {fs : List (List Int)} {v : Value} {hand : Int} (h : HouseAt w H fs v hand) (hf : fs.length = 8) (ht : w.there H 0 34) (u : Value) : HouseAt (w.setCell ⟨H, 32, none⟩ u) H fs u hand ∧ (w.setCell ⟨H, 32, none⟩ u).there H 0 34 := by
  have hl : (sheetsC fs).length = 32 := by rw [sheetsC_len, hf]
  refine ⟨?_, World.there_setCells ht H 32 [u]⟩
  have q1 := World.rangeAt_setCells_apart (range_left h) H 32 [u] (Or.inr (Or.inl (by rw [hl]; omega)))
  have q2 := World.rangeAt_setCells_same w H 32 [u] (fun j hj => by have := ht (32 + j) (by simp at hj; omega); rwa [Nat.zero_add] at this)
  have q3 : w.rangeAt H 33 [.int .i64 hand] := fun j v' hj => by
    have := range_right h hl (j + 1) v' (by simpa using hj)
    rwa [show 0 + 32 + (j + 1) = 33 + j by omega] at this
  have q3' := World.rangeAt_setCells_apart q3 H 32 [u] (Or.inr (Or.inr (by simp)))
  exact range_join hl q1 (range_join (n := 1) (ys := [.int .i64 hand]) (xs := [u]) rfl (by rw [Nat.zero_add]; exact q2) (by rw [Nat.zero_add]; exact q3'))

theorem infoLod : ∃ i z, Try.prog.info? 91 = some i ∧ i.zero = some z ∧ i.size = 66 ∧ i.bytes = 528 ∧ z.cells.size = 66 := by
  obtain ⟨i0, hi, hz0, hz1, hz2⟩ := info_parts infoL
  exact ⟨i0, _, hi, hz0, hz1, hz2, by show (lodC zeroG).toArray.size = 66; rw [List.size_toArray, lodC_len zeroG_sized]⟩

/-- One lodger more, told by what the walk runs. -/
theorem house_app {w wr W : World} {H k : Nat} {fs : List (List Int)} {a : Option Addr} {c : Nat} {hand : Int} {gs : List Gst} (h : HouseUp w wr H k fs a c hand gs) (hf : fs.length = 8) (hk : k < gs.length) (hk2 : k ≤ 1000) (hg : Sized (gs.getD k noG)) (hB : Below wr.heap.size wr W) :
    W.cell? ⟨H, 32, none⟩ = some (.slice a k c) ∧ H < W.heap.size ∧ ∃ g c' w1, appRun Try.prog 58 58 (.slice a k c) (.slice (some ⟨W.heap.size, 0, none⟩) 1 1) (W.alloc (.cells (lodC (gs.getD k noG)).toArray 91)) = .ok (.slice (some ⟨g, 0, none⟩) (k + 1) c') w1 ∧
      w1.cell? ⟨H, 32, none⟩ = some (.slice a k c) ∧ w1.frozen? ⟨H, 32, none⟩ = false ∧ Hid (HouseUp w (w1.setCell ⟨H, 32, none⟩ (.slice (some ⟨g, 0, none⟩) (k + 1) c')) H (k + 1) fs (some ⟨g, 0, none⟩) c' hand gs) := by
  obtain ⟨h1, h2, h3, h4, h5, h6, h7⟩ := h
  obtain ⟨i0, z, hi0, hz0, hz1, hz2, hz3⟩ := infoLod
  have hlc := lodC_len hg
  have hs := hB.size
  have hownW : W.ownsRow (H + 1) 91 66 (.slice a k c) k ((gs.take k).flatMap lodC) := by
    refine h7.kept (below_grown hB) ?_
    cases (Value.slice a k c).ownBlock
    · exact Or.inl rfl
    · exact Or.inr (by simp)
  have hnews := World.news_of_block (heap_alloc_new W (.cells (lodC (gs.getD k noG)).toArray 91))
  obtain ⟨g, c', w1, hrun, hown1, hgrow, hat, hlt⟩ := run_append_lies (P := Try.prog) (W.alloc (.cells (lodC (gs.getD k noG)).toArray 91)) 58 58 (H + 1) 91 i0 z 66 528 Try.underlying58 hi0 hz0 hz1 hz2 hz3 (by decide) _ k _ (hownW.alloc _) ⟨W.heap.size, 0, none⟩ 1 1 (lodC (gs.getD k noG)) (by rw [hlc]) (fun j u hj => hnews j u (by simpa using hj)) (lodC_one _) (by decide) (by unfold maxLen; omega) (by omega) (by simp; omega) (W.heap.size + 1) (by simp)
  have hne : ∀ b, b ≤ H → some b ≠ (Value.slice a k c).ownBlock := fun b hb e => by have := (h7.lt _ e.symm).1; omega
  have hkeep : ∀ b, b ≤ H → w1.heap[b]? = wr.heap[b]? := fun b hb => by
    rw [hgrow.block b (by rw [World.size_alloc]; omega) (hne b hb), ((Below.refl W.heap.size W).alloc (Nat.le_refl _) _).block b (by omega)]
    exact hB.block b (by omega)
  have s1 := hgrow.size
  rw [World.size_alloc] at s1
  have hcell : ∀ b o, b ≤ H → w1.cell? ⟨b, o, none⟩ = wr.cell? ⟨b, o, none⟩ := fun b o hb => World.cell?_of_block (a := ⟨b, o, none⟩) (hkeep b hb)
  have hfr : ∀ b o, b ≤ H → w1.frozen? ⟨b, o, none⟩ = wr.frozen? ⟨b, o, none⟩ := fun b o hb => World.frozen?_of_block (a := ⟨b, o, none⟩) (hkeep b hb)
  have hth : ∀ b, b ≤ H → wr.there b 0 34 → w1.there b 0 34 := fun b hb ht j hj => by
    rw [hcell b _ hb, hfr b _ hb]; exact ht j hj
  have hA1 : HouseAt w1 H fs (.slice a k c) hand := fun j v hj => (hcell H _ (Nat.le_refl _)).trans (h1 j v hj)
  obtain ⟨q1, q2⟩ := houseAt_slice hA1 hf (hth H (Nat.le_refl _) h2) (.slice (some ⟨g, 0, none⟩) (k + 1) c')
  refine ⟨((hB.cell (p := ⟨H, 32, none⟩) (by show H < _; omega)).trans (h1.lods hf).1), by omega, g, c', w1, hrun, (hA1.lods hf).1, ?_, q1, q2, ?_, h4, by rw [World.size_setCell]; omega, ?_, ?_⟩
  · have := (hth H (Nat.le_refl _) h2 32 (by omega)).2
    rwa [Nat.zero_add] at this
  · exact World.there_setCells (hth (w.heap.size + 1) (by omega) h3) H 32 [_]
  · refine Below.setCell ?_ (p := ⟨H, 32, none⟩) (by show w.heap.size ≤ H; omega) _
    exact Below.grown ((h6.trans (hB.mono h6.size)).alloc (by have := h6.size; omega) _) hgrow (by rw [World.size_alloc]; have := h6.size; omega) (fun j hj => by have := (h7.lt _ hj).1; omega)
  · have e : (gs.take (k + 1)).flatMap lodC = (gs.take k).flatMap lodC ++ lodC (gs.getD k noG) := by
      rw [List.take_succ_eq_append_getElem hk, List.flatMap_append, getD_lt hk]
      simp
    rw [e]
    exact ownsRow_setCell_below hown1 (a := ⟨H, 32, none⟩) (Nat.lt_succ_self _) _
end Go.Proofs.Ytjegndgdpmlbaaa

/-
  A list of one lodger, made by a literal: kept shut.
-/
set_option linter.unusedSimpArgs false
namespace Go.Proofs.Ytjegndgdpmlbaaa
open Go.RowKit

def bsRun (P : Program) (t : TypeId) (n : Nat) (parts : Array (Nat × Value)) (w : World) : Result Value := (Instr.buildSlice t n parts).run P w
theorem exec_bsL (ρ : Operand → Value) (dst : Option Tmp) (ty : TypeId) (pos : String) (after : Array _) (guard : Option _) (n : Nat) (ps : Array (Nat × Operand)) (w : World) :
    (execOp ρ ⟨dst, .buildSlice 58 n ps, ty, pos, after, guard⟩).run Try.prog w = bigNext (bsRun Try.prog 58 n (ps.map fun (i, x) => (i, ρ x)) w) := by
  unfold bsRun execOp
  simp only [Sem.run_bind]
  cases (Instr.buildSlice 58 n (ps.map fun (i, x) => (i, ρ x))).run Try.prog w <;> rfl

theorem foldl_set : ∀ (l : List Value) (o : Nat) (Z : Array Value), o + l.length ≤ Z.size → ∃ R : Array Value, (l.zipIdx o).foldl (fun z x => z.setIfInBounds x.2 x.1) Z = R ∧ R.size = Z.size ∧ (∀ i, i < o → R[i]? = Z[i]?) ∧ ∀ i, i < l.length → R[o + i]? = l[i]?
  | [], o, Z, _ => ⟨Z, rfl, rfl, fun _ _ => rfl, fun i hi => by simp at hi⟩
  | v :: r, o, Z, h => by
    obtain ⟨R, e1, e2, e3, e4⟩ := foldl_set r (o + 1) (Z.setIfInBounds o v) (by simp at h ⊢; omega)
    refine ⟨R, ?_, by rw [e2]; simp, fun i hi => ?_, fun i hi => ?_⟩
    · rw [List.zipIdx_cons, List.foldl_cons, e1]
    · rw [e3 i (by omega), Array.getElem?_setIfInBounds_ne (by omega)]
    · cases i with
      | zero =>
        have hlt : o < Z.size := by simp at h; omega
        rw [Nat.add_zero, e3 o (by omega), Array.getElem?_setIfInBounds_self_of_lt hlt]; rfl
      | succ i =>
        have := e4 i (by simpa using hi)
        rw [show o + (i + 1) = o + 1 + i by omega, this]; rfl
theorem fill_all (cs : List Value) (Z : Array Value) (n : Nat) (hl : cs.length = n) (hZ : Z.size = n) : Instr.fill (fun i => some (i * n, n)) Z [(0, .agg cs.toArray)] = some cs.toArray := by
  obtain ⟨R, e1, e2, _, e4⟩ := foldl_set cs 0 Z (by omega)
  have hR : R = cs.toArray := by
    apply Array.ext_getElem?
    intro i
    by_cases hi : i < cs.length
    · have := e4 i hi
      rw [Nat.zero_add] at this
      rw [this]
      simp
    · rw [Array.getElem?_eq_none (by omega), Array.getElem?_eq_none (by simp; omega)]
  rw [hR] at e1
  simp [Instr.fill, Value.cells, hl, hZ]
  simpa using e1

theorem bs_lod (cs : List Value) (hl : cs.length = 66) (w : World) : bsRun Try.prog 58 1 #[(0, .agg cs.toArray)] w = .ok (.slice (some ⟨w.heap.size, 0, none⟩) 1 1) (w.alloc (.cells cs.toArray 91)) := by
  obtain ⟨i0, hi, hz0, hz1, hz2⟩ := info_parts infoL
  simp [bsRun, Instr.buildSlice, run_underlying Try.underlying58, sizeOf, typeInfo, hi, hz1, zeroValue, hz0]
  rw [fill_all cs _ 66 hl (by simp)]
  simp [newRow]
end Go.Proofs.Ytjegndgdpmlbaaa

/-
  What the program's own reading of a host does: the whole.
-/
set_option linter.unusedSimpArgs false
namespace Go.Proofs.Ytjegndgdpmlbaaa
open Go.RowKit
attribute [local go_sem ↓] Go.wp_at_zero Go.wp_at_succ exec_app exec_lod exec_house exec_mapsA exec_allocL exec_storeL exec_buildL exec_idxM exec_look exec_upd exec_allocH exec_buildH exec_storeH exec_bsL
attribute [local go_sem] bigNext_ok bigSkip_ok

theorem flatMap_lod {gs : List Gst} : ∀ k, k ≤ gs.length → (∀ i, i < k → Sized (gs.getD i noG)) → ((gs.take k).flatMap lodC).length = k * 66
  | 0, _, _ => by simp
  | k + 1, hk, hS => by
    rw [List.take_succ_eq_append_getElem (by omega), List.flatMap_append, List.length_append, flatMap_lod k (by omega) (fun i hi => hS i (by omega))]
    have := lodC_len (hS k (by omega))
    rw [getD_lt (by omega)] at this
    simp [this]
    omega
theorem lods_of_own {w : World} {lo L n c : Nat} {gs : List Gst} (h : w.ownsRow lo 91 66 (.slice (some ⟨L, 0, none⟩) n c) n (gs.flatMap lodC)) (hn : gs.length = n) (hS : ∀ i, i < n → Sized (gs.getD i noG)) : LodsAt w L n gs ∧ w.there L 0 (n * 66) := by
  have hlt := (h.lt L rfl).2
  have hcells := h.cells (g := L) rfl
  have hall : w.rangeAt L 0 (gs.flatMap lodC) := fun j v hj => by
    have := hcells j v hj
    rw [ad0] at this
    rw [Nat.zero_add]
    exact this
  refine ⟨⟨hn, hlt, fun i hi => ⟨hS i hi, ?_⟩⟩, fun j hj => ?_⟩
  · have e : gs.flatMap lodC = (gs.take i).flatMap lodC ++ (lodC (gs.getD i noG) ++ (gs.drop (i + 1)).flatMap lodC) := by
      have hcons : gs.drop i = gs.getD i noG :: gs.drop (i + 1) := by
        rw [getD_lt (by omega)]
        exact List.drop_eq_getElem_cons (by omega)
      have : gs = gs.take i ++ (gs.getD i noG :: gs.drop (i + 1)) := by rw [← hcons, List.take_append_drop]
      conv => lhs; rw [this]
      rw [List.flatMap_append, List.flatMap_cons]
    rw [e] at hall
    have := range_left (range_right hall (flatMap_lod i (by omega) (fun i' hi' => hS i' (by omega))))
    rwa [Nat.zero_add] at this
  · obtain ⟨_, hd⟩ := h
    rcases hd with ⟨h0, _⟩ | ⟨g, c', cur, hv, _, hh, hnc, _, hsz, _⟩
    · cases h0
    · cases hv
      rw [Nat.zero_add]
      have hj' : j < cur.size := by rw [hsz]; exact Nat.lt_of_lt_of_le hj (Nat.mul_le_mul_right _ hnc)
      have hc := cell_of_row w L j cur 91 (0, 0) hh
      exact ⟨by rw [hc]; simp [hj'], by simp [World.frozen?, hh]⟩

def houseB (h : Hst) : Bool := okHost0 h && (h.guests.all okLod0 && h.guests.all (okLod (ten h.guests)))
def HouseRead (w w' : World) (e : Ending) (h : Hst) : Prop :=
  ∃ cs : List Value, cs.length = 34 ∧ (∀ v ∈ cs, v.oneCell' = true) ∧ e = .returned (.tuple #[.agg cs.toArray, .bool (houseB h)]) ∧ Below w.heap.size w w' ∧
    (houseB h = true → ∃ L c, cs = houseC h.frames (.slice (some ⟨L, 0, none⟩) h.guests.length c) h.hand ∧ w.heap.size ≤ L ∧ LodsAt w' L h.guests.length h.guests ∧ w'.there L 0 (h.guests.length * 66))

set_option maxRecDepth 100000 in
set_option maxHeartbeats 16000000 in
theorem houseOf_main (lo hi : Nat) (af ag : Option Addr) (cf n cg : Nat) (h : Hst) (w : World) (hF : IsMem w lo hi af 8 h.frames) (hG : IsGuests w lo hi ag n h.guests) (hh : hi ≤ w.heap.size) (h0 : okHost0 h = true) (hgl : h.guests.length = n) (hwf : WfGs n h.guests) :
    Calls Try.prog 47 #[.agg #[.slice af 8 cf, .slice ag n cg, .int .i64 h.hand]] w fun e w' => HouseRead w w' e h := by
  have hp := h0
  simp only [okHost0, Bool.and_eq_true, beq_iff_eq, decide_eq_true_eq] at hp
  obtain ⟨ho, hf8, ⟨hn1, hn2⟩, hh0, hh7⟩ := hp
  rw [hgl] at hn1 hn2
  have hGu := implGuestsOk n
  rw [show (decide ((1 : Int) ≤ (n : Int)) && decide ((n : Int) ≤ 2)) = true by simp; omega] at hGu
  have hFr := implFrameOk h.hand
  rw [show (decide (0 ≤ h.hand) && decide (h.hand ≤ 7)) = true by simp; omega] at hFr
  obtain ⟨zH, hzs, hAl, hSt⟩ := house_var
  obtain ⟨zL, hAlL, hStL⟩ := lod_var
  have hBu : ∀ w : World, bigBuild Try.prog 60 #[] w = .ok (.agg hz.toArray) w := build_house0
  have hBuH := build_houseH h.hand
  have hlz : hz.length = 34 := houseC_len rfl _ _
  have h1z : ∀ v ∈ hz, v.oneCell' = true := houseC_one _ _ _ _ _
  obtain ⟨hm, hmE⟩ : ∃ hm, hm = houseC (zeroM 8) (.slice none 0 0) h.hand := ⟨_, rfl⟩
  have hlm : hm.length = 34 := by rw [hmE]; exact houseC_len rfl _ _
  have h1m : ∀ v ∈ hm, v.oneCell' = true := by rw [hmE]; exact houseC_one _ _ _ _ _
  rw [← hmE] at hBuH
  have HmE : Hid (hm = houseC (zeroM 8) (.slice none 0 0) h.hand) := hmE
  clear hmE
  have hfalse : ∀ (W : World), W.there (w.heap.size + 1) 0 34 → Below w.heap.size w W → ∃ W', bigStore Try.prog 60 (.pointer (some ⟨w.heap.size + 1, 0, none⟩)) (.agg hz.toArray) W = .ok () W' ∧ W'.rangeAt (w.heap.size + 1) 0 hz ∧ Below w.heap.size w W' := fun W ht hB => by
    refine ⟨W.setCells (w.heap.size + 1) 0 hz, ?_, World.rangeAt_setCells_same W (w.heap.size + 1) 0 hz (by rw [hlz]; exact ht), below_setCells hB (Nat.le_succ _) hz 0⟩
    have := run_storeAt_mid (P := Try.prog) W (w.heap.size + 1) 0 60 hz.toArray (by rw [show hz.toArray.size = 34 by simp [hlz]]; exact ht) (by rw [show hz.toArray.size = 34 by simp [hlz]]; kernel_rfl) (all_oneCell_toArray h1z)
    simpa [bigStore] using this
  have hiz : (Try.prog.info? 60).map (·.size) = some hz.length := by rw [hlz]; kernel_rfl
  obtain ⟨W, hW⟩ : ∃ W, W = (w.alloc (.cells #[.slice af 8 cf, .slice ag n cg, .int .i64 h.hand] 26)).alloc (.cells zH 60) := ⟨_, rfl⟩
  have hsW : W.heap.size = w.heap.size + 1 + 1 := by rw [hW]; simp
  have hth : W.there (w.heap.size + 1) 0 34 := by
    have := there_new (w.alloc (.cells #[.slice af 8 cf, .slice ag n cg, .int .i64 h.hand] 26)) zH 60
    rw [hzs, World.size_alloc] at this
    rw [hW]; exact this
  have B0 : Below w.heap.size w W := by rw [hW]; exact ((Below.refl _ _).alloc (Nat.le_refl _) _).alloc (by simp) _
  have x1 : W.cell? ⟨w.heap.size, 1, none⟩ = some (.slice ag n cg) := by rw [hW]; simp
  have x2 : W.cell? ⟨w.heap.size, 2, none⟩ = some (.int .i64 h.hand) := by rw [hW]; simp
  have hc := sheetsOf_yes lo hi af 8 cf h.frames W (hF.same (below_sameIn B0 hh)) (Nat.le_trans hh B0.size) (by omega) ho
  go_enter Try.func47, Try.ntmps47
  go_wp2_with (fail)
  refine (hGu _).mono ?_
  rintro e w1 ⟨rfl, rfl⟩
  go_wp2_with (fail)
  refine (hFr _).mono ?_
  rintro e w1 ⟨rfl, rfl⟩
  go_wp2_with (fail)
  rw [← hW]
  clear hW
  refine hc.mono ?_
  rintro e w1 ⟨rfl, S1, R1, l1, B1⟩
  have s1 := B1.size
  have B01 := B0.trans (B1.mono B0.size)
  have x1 := (B1.cell (p := ⟨w.heap.size, 1, none⟩) (by show w.heap.size < _; omega)).trans x1
  have x2 := (B1.cell (p := ⟨w.heap.size, 2, none⟩) (by show w.heap.size < _; omega)).trans x2
  have hS1 := hSt w1 hm hlm h1m
  have BU : Below w1.heap.size w1 (w1.alloc (.cells hm.toArray 60)) := (Below.refl _ _).alloc (Nat.le_refl _) _
  have thH : (w1.alloc (.cells hm.toArray 60)).there w1.heap.size 0 34 := by
    have := there_new w1 hm.toArray 60
    rwa [show hm.toArray.size = 34 by simp [hlm]] at this
  have rH : (w1.alloc (.cells hm.toArray 60)).rangeAt w1.heap.size 0 (houseC (zeroM 8) (.slice none 0 0) h.hand) := by
    have := range_new w1 hm 60
    rw [HmE.out] at this ⊢
    exact this
  have hlS : (sheetsC h.frames).length = 32 := by rw [sheetsC_len, hf8]
  have cp := copy_into (w := w1.alloc (.cells hm.toArray 60)) (dT := 69) (elem := 56) w1.heap.size 0 8 4 W.heap.size 0 8 8 8 (sheetsC h.frames) Try.underlying69 (by kernel_rfl) rfl (by omega) (range_below (sheets_range S1) BU l1) (fun j hj => thH j (by omega)) (sheetsC_one _)
  rw [hsW] at cp
  have p1 := put_setCells w1.heap.size 0 (w1.alloc (.cells hm.toArray 60)) (sheetsC h.frames)
  have q1 := World.rangeAt_setCells_same (w1.alloc (.cells hm.toArray 60)) w1.heap.size 0 (sheetsC h.frames) (by rw [hlS]; exact fun j hj => thH j (by omega))
  have q2 := World.rangeAt_setCells_apart (range_right rH (n := 32) rfl) w1.heap.size 0 (sheetsC h.frames) (Or.inr (Or.inr (by rw [hlS]; omega)))
  have thH1 := World.there_setCells thH w1.heap.size 0 (sheetsC h.frames)
  have hUp : Hid (HouseUp w ((w1.alloc (.cells hm.toArray 60)).setCells w1.heap.size 0 (sheetsC h.frames)) w1.heap.size 0 h.frames none 0 h.hand h.guests) := by
    refine ⟨range_join hlS q1 q2, thH1, World.there_setCells (there_below (there_below hth B1 (by omega)) BU (by omega)) _ _ _, by omega, by rw [size_setCells, World.size_alloc]; omega, below_setCells (B01.trans (BU.mono (by omega))) (by omega) _ _, ?_⟩
    have : (h.guests.take 0).flatMap lodC = [] := by simp
    rw [this]
    exact World.ownsRow_nil _ _ _ _
  have x1 := (p1.cell (b := w.heap.size) (o := 1) (by omega)).trans (cellk_alloc x1 (.cells hm.toArray 60))
  have hU1s : ((w1.alloc (.cells hm.toArray 60)).setCells w1.heap.size 0 (sheetsC h.frames)).heap.size = w1.heap.size + 1 := by rw [size_setCells, World.size_alloc]
  generalize (w1.alloc (.cells hm.toArray 60)).setCells w1.heap.size 0 (sheetsC h.frames) = U1 at *
  have hwU : w.heap.size < U1.heap.size := by omega
  clear S1 R1 hc q1 q2 rH thH thH1 p1 BU B1 B01 hth hGu hFr hSt
  go_wp2_with (fail)
  clear hAl hS1 cp hBuH
  go_loopw [48] (fun i wr => ∃ k : Nat, ∃ a c, k ≤ n ∧ i = .int .i64 k ∧ Hid (HouseUp w wr w1.heap.size k h.frames a c h.hand h.guests) ∧ Hid (∀ i, i < k → okLod0 (h.guests.getD i noG) = true)) (fun i _ => n - (intOf i).toNat)
  case atStart => exact ⟨0, none, 0, Nat.zero_le _, rfl, hUp, fun i hi => by omega⟩
  case round =>
    clear hUp
    obtain ⟨k, a, c, hk, rfl, hU, hA⟩ := hrel
    have hU0 := hU.out
    obtain ⟨u1, u2, u3, u4, u5, u6, u7⟩ := hU0
    have sB := u6.size
    by_cases hkl : k < n
    · have hki : (k : Int) < (n : Int) := by omega
      obtain ⟨_, hd⟩ := hG.same (below_sameIn u6 hh)
      rcases hd with hx | ⟨b, o, rfl, _, hb2, hgc⟩
      · omega
      obtain ⟨vm, vd, vs, k0, k1, k2, hGk⟩ := hgc k hkl
      have hGs := hGk
      obtain ⟨⟨a1, c1, rfl, _⟩, ⟨a2, c2, rfl, _⟩, a3, c3, rfl, _⟩ := hGs
      have hlo := implLodgerOf lo hi _ _ _ (h.guests.getD k noG) _ (hGk.same (below_sameIn ((Below.refl wr.heap.size wr).alloc (Nat.le_refl _) (.cells #[.slice a1 (h.guests.getD k noG).maps.length c1, .slice a2 (h.guests.getD k noG).disk.length c2, .slice a3 (h.guests.getD k noG).shades.length c3] 39)) (by omega))) (by simp; omega)
      have hklg : k < h.guests.length := by omega
      have hyes : okLod0 (h.guests.getD k noG) = true → ∀ i, i < k + 1 → okLod0 (h.guests.getD i noG) = true := fun e i hi => by
        by_cases hik : i = k
        · subst hik; exact e
        · exact hA.out i (by omega)
      have hno : okLod0 (h.guests.getD k noG) = false → houseB h = false := fun e => by
        have : h.guests.all okLod0 = false := all_no hklg (by rw [← getD_lt hklg (d := noG)]; exact e)
        rw [houseB, this]
        simp
      have happ := fun (W : World) (hB : Below wr.heap.size wr W) (ho : okLod0 (h.guests.getD k noG) = true) => house_app hU.out hf8 hklg (by omega) (okLod0_sized ho).1 hB
      have hlcs := fun (ho : okLod0 (h.guests.getD k noG) = true) => lodC_len (okLod0_sized ho).1
      clear hgc hGk hA
      generalize h.guests.getD k noG = g at *
      generalize g.maps.length = lm at *
      generalize g.disk.length = ld at *
      generalize g.shades.length = ls at *
      cases hok : okLod0 g
      · go_wp2_with (fail)
        refine hlo.mono ?_
        rintro e w2 ⟨⟨cs, hcl, hc1, rfl, _⟩, B2⟩
        rw [hok]
        have hSL := hStL w2 cs hcl hc1
        have B2' : Below wr.heap.size wr w2 := ((Below.refl wr.heap.size wr).alloc (Nat.le_refl _) _).trans (B2.mono (by simp))
        have B3 : Below wr.heap.size wr (w2.alloc (.cells cs.toArray 91)) := B2'.alloc B2'.size _
        obtain ⟨w4, hst4, hr4, HB4⟩ := hfalse _ (there_below u3 B3 (by omega)) (u6.trans (B3.mono sB))
        have HF : Hid (houseB h = false) := hno hok
        clear hlo B2 B2' B3 happ hlcs hyes hno hfalse
        go_wp2
        exact bodyPost_ret (results_big Try.results47 _ (w.heap.size + 1) _ rfl hr4 Try.underlying60 rfl hiz) rfl ⟨hz, hlz, h1z, by rw [HF.out]; rfl, HB4, fun e => by rw [HF.out] at e; cases e⟩
      · go_wp2_with (fail)
        refine hlo.mono ?_
        rintro e w2 ⟨⟨cs, hcl, hc1, rfl, hce⟩, B2⟩
        rw [hok]
        obtain rfl := hce hok
        have hSL := hStL w2 (lodC g) hcl hc1
        have B2' : Below wr.heap.size wr w2 := ((Below.refl wr.heap.size wr).alloc (Nat.le_refl _) _).trans (B2.mono (by simp))
        have B3 : Below wr.heap.size wr (w2.alloc (.cells (lodC g).toArray 91)) := B2'.alloc B2'.size _
        obtain ⟨y1, y2, gg, cc, w4, hap, z1, z2, HN⟩ := happ _ B3 hok
        have hiL : (Try.prog.info? 91).map (·.size) = some (lodC g).length := by rw [hcl]; kernel_rfl
        have hl2 : bigRun Try.prog 91 (.pointer (some ⟨w2.heap.size, 0, none⟩)) (w2.alloc (.cells (lodC g).toArray 91)) = .ok (.agg (lodC g).toArray) (w2.alloc (.cells (lodC g).toArray 91)) := big_load Try.underlying91 rfl hiL _ _ _ (range_new w2 _ 91)
        have HX : Hid (∀ i, i < k + 1 → okLod0 (h.guests.getD i noG) = true) := hyes hok
        rw [World.size_alloc] at hap
        have hbs := bs_lod (lodC g) hcl
        clear hlo B2 B2' B3 happ hlcs hyes hno hfalse
        generalize (lodC g).toArray = lcs at *
        go_wp2
        go_roundw
        case rel => exact ⟨k + 1, _, _, by omega, by go_num, HN, HX⟩
        case measure => simp [intOf]; omega
    · have hkk : k = n := by omega
      subst hkk
      have hSz : ∀ i, i < k → Sized (h.guests.getD i noG) := fun i hi => (okLod0_sized (hA.out i hi)).1
      have hall0 : h.guests.all okLod0 = true := by
        rw [List.all_eq_true]
        intro x hx
        obtain ⟨i, hi, rfl⟩ := List.getElem_of_mem hx
        have := hA.out i (by omega)
        rwa [getD_lt hi] at this
      rw [List.take_of_length_le (by omega)] at u7
      obtain ⟨L, c', e, hL1, hL2⟩ := u7.form (by omega)
      cases e
      obtain ⟨hLo, hth⟩ := lods_of_own u7 hgl hSz
      have hiH : (Try.prog.info? 60).map (·.size) = some (houseC h.frames (.slice (some ⟨L, 0, none⟩) k c) h.hand).length := by rw [houseC_len hf8]; kernel_rfl
      have hld : bigRun Try.prog 60 (.pointer (some ⟨w1.heap.size, 0, none⟩)) wr = .ok (.agg (houseC h.frames (.slice (some ⟨L, 0, none⟩) k c) h.hand).toArray) wr := big_load Try.underlying60 rfl hiH _ _ wr u1
      have hok := implHouseOk L k c h.frames h.hand h.guests wr hf8 hn2 hLo hwf
      have hB : houseB h = h.guests.all (okLod (ten h.guests)) := by rw [houseB, h0, hall0]; simp
      have hlH := houseC_len hf8 (.slice (some ⟨L, 0, none⟩) k c) h.hand
      have h1H := houseC_one h.frames (some ⟨L, 0, none⟩) k c h.hand
      obtain ⟨hcs, hcsE⟩ : ∃ hcs, hcs = houseC h.frames (.slice (some ⟨L, 0, none⟩) k c) h.hand := ⟨_, rfl⟩
      rw [← hcsE] at hiH hld hok hlH h1H
      have HcsE : Hid (hcs = houseC h.frames (.slice (some ⟨L, 0, none⟩) k c) h.hand) := hcsE
      clear hcsE hall0 hSz u7 hStL hAlL
      generalize h.guests.all (okLod (ten h.guests)) = bb at *
      cases bb
      · go_wp2_with (fail)
        refine hok.mono ?_
        rintro e w2 ⟨rfl, B2⟩
        obtain ⟨w4, hst4, hr4, HB4⟩ := hfalse _ (there_below u3 B2 (by omega)) (u6.trans (B2.mono sB))
        have HF : Hid (houseB h = false) := hB
        clear hok B2 hfalse hld hB
        go_wp2
        exact bodyPost_ret (results_big Try.results47 _ (w.heap.size + 1) _ rfl hr4 Try.underlying60 rfl hiz) rfl ⟨hz, hlz, h1z, by rw [HF.out]; rfl, HB4, fun e => by rw [HF.out] at e; cases e⟩
      · go_wp2_with (fail)
        refine hok.mono ?_
        rintro e w2 ⟨rfl, B2⟩
        have th2 := there_below u3 B2 (by omega)
        have u1' : w2.rangeAt w1.heap.size 0 hcs := by rw [HcsE.out]; exact u1.below B2
        have hld2 : bigRun Try.prog 60 (.pointer (some ⟨w1.heap.size, 0, none⟩)) w2 = .ok (.agg hcs.toArray) w2 := big_load Try.underlying60 rfl hiH _ _ w2 u1'
        have hst4 : bigStore Try.prog 60 (.pointer (some ⟨w.heap.size + 1, 0, none⟩)) (.agg hcs.toArray) w2 = .ok () (w2.setCells (w.heap.size + 1) 0 hcs) := by
          have := run_storeAt_mid (P := Try.prog) w2 (w.heap.size + 1) 0 60 hcs.toArray (by rw [show hcs.toArray.size = 34 by simp [hlH]]; exact th2) (by rw [show hcs.toArray.size = 34 by simp [hlH]]; kernel_rfl) (all_oneCell_toArray h1H)
          simpa [bigStore] using this
        have hr4 := World.rangeAt_setCells_same w2 (w.heap.size + 1) 0 hcs (by rw [hlH]; exact th2)
        have p4 := put_setCells (w.heap.size + 1) 0 w2 hcs
        have HB4 : Hid (Below w.heap.size w (w2.setCells (w.heap.size + 1) 0 hcs)) := below_setCells (u6.trans (B2.mono sB)) (Nat.le_succ _) hcs 0
        have hLo2 := hLo.below B2 hL2 (Nat.le_refl _)
        have hth2 := there_below hth B2 hL2
        have HL4 : Hid (LodsAt (w2.setCells (w.heap.size + 1) 0 hcs) L k h.guests ∧ (w2.setCells (w.heap.size + 1) 0 hcs).there L 0 (k * 66)) :=
          ⟨⟨hLo2.1, by rw [size_setCells]; exact hLo2.2.1, fun i hi => ⟨(hLo2.2.2 i hi).1, p4.range (by omega) (hLo2.2.2 i hi).2⟩⟩, World.there_setCells hth2 _ _ _⟩
        generalize w2.setCells (w.heap.size + 1) 0 hcs = w4 at *
        have HT : Hid (houseB h = true) := hB
        clear hok B2 hfalse hld hB th2 u1' p4 hLo2 hth2 hLo hth
        go_wp2
        refine bodyPost_ret (results_big Try.results47 _ (w.heap.size + 1) _ rfl hr4 Try.underlying60 rfl hiH) rfl ⟨hcs, hlH, h1H, by rw [HT.out]; rfl, HB4.out, fun _ => ⟨L, c, ?_, by omega, ?_, ?_⟩⟩
        · rw [HcsE.out, hgl]
        · rw [hgl]; exact HL4.out.1
        · rw [hgl]; exact HL4.out.2
end Go.Proofs.Ytjegndgdpmlbaaa
