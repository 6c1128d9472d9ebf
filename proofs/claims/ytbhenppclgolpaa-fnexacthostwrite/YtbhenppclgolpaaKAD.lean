/-
  One cell of a row of like elements written.
-/
import Derived.Test.YtbhenppclgolpaaKOwn0
import Derived.Test.YtbhenppclgolpaaKPB
import Derived.Test.YtbhenppclgolpaaKAC
import Derived.Test.YtbhenppclgolpaaKImplOut2
namespace Go.Proofs.Ytbhenppclgolpaa
open Go.RowKit

theorem flatMap_set {α : Type} {f : α → List Value} {n : Nat} (d : α) (hf : ∀ a, (f a).length = n) {l : List α} {i j : Nat} {a : α} (hi : i < l.length) (hj : j < n) {u : Value} (hfa : f a = (f (l.getD i d)).set j u) : (l.set i a).flatMap f = (l.flatMap f).set (i * n + j) u := by
  have e1 : (l.take i).flatMap f ++ (f a ++ (l.drop (i + 1)).flatMap f) = (l.set i a).flatMap f := by rw [set_parts l i a hi, List.flatMap_append, List.flatMap_cons]
  have e2 : l.flatMap f = (l.take i).flatMap f ++ (f (l.getD i d) ++ (l.drop (i + 1)).flatMap f) := by
    conv => lhs; rw [own_parts l i d hi, List.flatMap_append, List.flatMap_cons]
  have hl : ((l.take i).flatMap f).length = i * n := by rw [flatMap_len f n hf, List.length_take]; congr 1; omega
  rw [← e1, e2, List.set_append_right _ _ (by omega), hl, show i * n + j - i * n = j by omega, List.set_append_left _ _ (by rw [hf]; exact hj), hfa]
theorem range_put1 {w : World} {b o : Nat} {cs : List Value} (h : w.rangeAt b o cs) {i : Nat} (u : Value) : (w.setCell ⟨b, o + i, none⟩ u).rangeAt b o (cs.set i u) := fun j v hj => by
  rw [List.getElem?_set] at hj
  by_cases e : i = j
  · subst e
    rw [if_pos rfl] at hj
    by_cases hl : i < cs.length
    · rw [if_pos hl] at hj
      cases hj
      exact cellk_same (h i _ (List.getElem?_eq_getElem hl))
    · rw [if_neg hl] at hj
      cases hj
  · rw [if_neg e] at hj
    exact cellk_else (h j v hj) (by omega)
theorem sheetC_set {zs : List Int} (h4 : zs.length = 4) {o : Nat} (ho : o < 4) (z : Int) : sheetC (zs.set o z) = (sheetC zs).set o (.int .i64 z) := by
  match zs, h4 with
  | [a, b, c, d], _ => rcases (by omega : o = 0 ∨ o = 1 ∨ o = 2 ∨ o = 3) with e | e | e | e <;> subst e <;> rfl
theorem range_setAppL {w : World} {b o : Nat} {xs ys : List Value} {i : Nat} (hi : i < xs.length) {u : Value} {xs' : List Value} (hx : xs' = xs.set i u) (h : w.rangeAt b o (xs ++ ys)) : (w.setCell ⟨b, o + i, none⟩ u).rangeAt b o (xs' ++ ys) := by
  have := range_put1 h (i := i) u
  rwa [List.set_append_left _ _ hi, ← hx] at this

theorem HouseW.word {w : World} {B L c : Nat} {h : Hst} (hW : HouseW w B L c h) {F : Nat} (hF : F < 8) {o : Nat} (ho : o < 4) (z : Int) : HouseW (w.setCell ⟨B, F * 4 + o, none⟩ (.int .i64 z)) B L c (wordP h F o z) := by
  obtain ⟨h1, h2, h3, h4, h5, h6, h7, h8, h9, h10⟩ := hW
  have e0 : w.setCell ⟨B, F * 4 + o, none⟩ (.int .i64 z) = w.setCells B (F * 4 + o) [.int .i64 z] := rfl
  have hz4 := h7 F hF
  refine ⟨?_, World.there_setCells h2 B (F * 4 + o) [.int .i64 z], ⟨h3.1, by rw [World.size_setCell]; exact h10, fun j hj => ?_⟩, World.there_setCells h4 B (F * 4 + o) [.int .i64 z], h5, by show (h.frames.set F _).length = 8; rw [List.length_set]; exact h6, fun j hj => ?_, h8, by rw [World.size_setCell]; exact h9, by rw [World.size_setCell]; exact h10⟩
  · have l1 : (sheetsC h.frames).length = 32 := by rw [sheetsC_len, h6]
    have := range_setAppL (i := F * 4 + o) (u := .int .i64 z) (xs' := sheetsC (h.frames.set F ((fAt h F).set o z))) (by show _ < (sheetsC h.frames).length; rw [l1]; omega) (flatMap_set (f := sheetC) (n := 4) [] (fun _ => rfl) (by rw [h6]; exact hF) ho (sheetC_set hz4 ho z)) h1
    rwa [Nat.zero_add] at this
  · obtain ⟨s, r⟩ := h3.2.2 j hj
    rw [e0]
    exact ⟨s, World.rangeAt_setCells_apart r _ _ _ (Or.inl (Ne.symm h5))⟩
  · show ((h.frames.set F ((fAt h F).set o z)).getD j []).length = 4
    rw [getD_set _ _ _ _ _ (by rw [h6]; exact hF)]
    by_cases hji : j = F
    · rw [if_pos hji, List.length_set]; exact hz4
    · rw [if_neg hji]; exact h7 j hj
/-- A word of a frame read. -/
theorem HouseW.wordAt {w : World} {B L c : Nat} {h : Hst} (hW : HouseW w B L c h) {F : Nat} (hF : F < 8) {o : Nat} (ho : o < 4) : w.cell? ⟨B, F * 4 + o, none⟩ = some (.int .i64 ((fAt h F).getD o 0)) ∧ w.frozen? ⟨B, F * 4 + o, none⟩ = false := by
  obtain ⟨h1, h2, h3, h4, h5, h6, h7, h8, h9, h10⟩ := hW
  obtain ⟨z0, z1, z2, z3⟩ := range_sheets (range_left h1) F (by rw [h6]; exact hF)
  rw [Nat.zero_add] at z0 z1 z2 z3
  have t := (h2 (F * 4 + o) (by omega)).2
  rw [Nat.zero_add] at t
  rcases (by omega : o = 0 ∨ o = 1 ∨ o = 2 ∨ o = 3) with e | e | e | e <;> subst e
  · exact ⟨z0, t⟩
  · exact ⟨z1, t⟩
  · exact ⟨z2, t⟩
  · exact ⟨z3, t⟩
end Go.Proofs.Ytbhenppclgolpaa

/-
  What the program's own frameOf does: a page brought in, and where; and put: a word of a frame written, the one that was there told.
-/
set_option linter.unusedSimpArgs false
namespace Go.Proofs.Ytbhenppclgolpaa
open Go.RowKit
attribute [local go_sem ↓] Go.wp_at_zero Go.wp_at_succ exec_app exec_lod exec_house exec_mapsA exec_allocL exec_storeL exec_buildL exec_idxM exec_look exec_upd exec_allocH exec_buildH exec_storeH exec_bsL exec_storeQ exec_loadQ exec_idxQ
attribute [local go_sem] bigNext_ok bigSkip_ok

set_option maxRecDepth 100000 in
set_option maxHeartbeats 4000000 in
theorem implFrameOf (B L c g p : Nat) (h : Hst) (w : World) (hW : HouseW w B L c h) (k : OkH h) (hg : g < h.guests.length) (hp : p < 6) :
    Calls Try.prog 82 #[.pointer (some ⟨B, 0, none⟩), .agg #[.int .i64 g, .int .i64 p]] w fun e w' => e = .returned (.int .i64 (mAt (inP h g p) g p).2.1) ∧ HouseW w' B L c (inP h g p) ∧ Upd2 B L w w' := by
  obtain ⟨W2, hW2⟩ : ∃ W2, W2 = w.alloc (.cells #[.int .i64 g, .int .i64 p] 99) := ⟨_, rfl⟩
  have B2 : Below w.heap.size w W2 := by rw [hW2]; exact (Below.refl _ _).alloc (Nat.le_refl _) _
  have s2 : W2.heap.size ≤ w.heap.size + 1 ∧ w.heap.size + 1 ≤ W2.heap.size := by rw [hW2]; simp
  have a2 : W2.cell? ⟨w.heap.size, 0, none⟩ = some (.int .i64 g) ∧ W2.cell? ⟨w.heap.size, 1, none⟩ = some (.int .i64 p) := by rw [hW2]; simp
  have kW := hW.belowK B2
  have lB0 : B < w.heap.size := hW.2.2.2.2.2.2.2.2.1
  have lL0 : L < w.heap.size := hW.2.2.2.2.2.2.2.2.2
  have hbr := implBringIn B L c g p h W2 kW k hg hp
  obtain ⟨k1, _, hm1⟩ := inP_ok k hg hp
  have l1 := inP_len k g p
  have hg1 : g < (inP h g p).guests.length := by omega
  clear hW kW l1
  generalize inP h g p = h1 at *
  obtain ⟨mf, hmf⟩ : ∃ mf, mf = (mAt h1 g p).2.1 := ⟨_, rfl⟩
  rw [← hmf]
  go_enter Try.func82, Try.ntmps82
  go_wp2_with (fail)
  rw [← hW2]
  clear hW2
  refine hbr.mono ?_
  rintro e w3 ⟨rfl, k3, U3⟩
  have U03 := hidE ((Upd2.ofBelow (a := B) (b := L) B2).trans U3)
  have s3 := U3.size
  have a30 := (World.cell?_of_block (a := ⟨w.heap.size, 0, none⟩) (U3.block w.heap.size (by omega) (by omega) (by omega))).trans a2.1
  have a31 := (World.cell?_of_block (a := ⟨w.heap.size, 1, none⟩) (U3.block w.heap.size (by omega) (by omega) (by omega))).trans a2.2
  have l30 : w.heap.size < w3.heap.size := by omega
  have lL3 : L < w3.heap.size := by omega
  have lB3 : B < w3.heap.size := by omega
  have hlods := k3.lods.1
  have hgi : (g : Int) < (h1.guests.length : Int) := by omega
  have hpi : (p : Int) < 6 := by omega
  have h0g : (0 : Int) ≤ (g : Int) := Int.natCast_nonneg _
  have h0p : (0 : Int) ≤ (p : Int) := Int.natCast_nonneg _
  obtain ⟨hsz, hr, hth⟩ := k3.lodAt hg1
  obtain ⟨_, e1, _⟩ := lod_maps hr p (by rw [hsz.1]; exact hp)
  rw [show ((false, 0, false) : E3) = noM from rfl, show (h1.guests.getD g noG).maps.getD p noM = mAt h1 g p from rfl] at e1
  have HK := hidE k3
  rw [← hmf] at e1
  clear hmf
  clear hbr a2 B2 U3 hr hth hm1 hsz k3
  go_wp2_with (fail)
  go_quiet (fail)
  go_wp2
  refine bodyPost_ret (v := .int .i64 mf) (by simp [results, Try.results82, go_sem]) rfl ?_
  have B4 : Below w3.heap.size w3 (w3.drewN nq) := below_drewN (Below.refl _ _) _
  exact ⟨rfl, HK.out.belowK B4, U03.out.trans (Upd2.ofBelow B4)⟩

set_option maxRecDepth 100000 in
set_option maxHeartbeats 4000000 in
theorem implPutW (B L c F o : Nat) (z : Int) (h : Hst) (w : World) (hW : HouseW w B L c h) (hF : F < 8) (ho : o < 4) :
    Calls Try.prog 85 #[.pointer (some ⟨B, 0, none⟩), .int .i64 F, .int .i64 o, .int .i64 z] w fun e w' => e = .returned (.int .i64 ((fAt h F).getD o 0)) ∧ HouseW w' B L c (wordP h F o z) ∧ Upd2 B L w w' := by
  obtain ⟨q, f⟩ := hW.wordAt hF ho
  have kW := hidE (hW.word hF ho z)
  have HU := hidE (Upd2.left (b := L) ((Upd.refl B w).put (F * 4 + o) (.int .i64 z)))
  have lB : B < w.heap.size := hW.2.2.2.2.2.2.2.2.1
  have hFi : (F : Int) < 8 := by omega
  have hoi : (o : Int) < 4 := by omega
  have h0F : (0 : Int) ≤ (F : Int) := Int.natCast_nonneg _
  have h0o : (0 : Int) ≤ (o : Int) := Int.natCast_nonneg _
  clear hW
  generalize (fAt h F).getD o 0 = y at *
  go_enter Try.func85, Try.ntmps85
  go_wp2_with (fail)
  refine bodyPost_ret (v := .int .i64 y) (by simp [results, Try.results85, go_sem]) rfl ?_
  exact ⟨rfl, kW.out, HU.out⟩
end Go.Proofs.Ytbhenppclgolpaa

/-
  What the program's own placeOf does: a host read, with a page of a guest and a place of it.
-/
set_option linter.unusedSimpArgs false
namespace Go.Proofs.Ytbhenppclgolpaa
open Go.RowKit
attribute [local go_sem ↓] Go.wp_at_zero Go.wp_at_succ exec_app exec_lod exec_house exec_mapsA exec_allocL exec_storeL exec_buildL exec_idxM exec_look exec_upd exec_allocH exec_buildH exec_storeH exec_bsL exec_storeQ exec_loadQ exec_idxQ
attribute [local go_sem] bigNext_ok bigSkip_ok

def PlaceRead (w w' : World) (e : Ending) (h : Hst) (G P O : Int) : Prop :=
  ∃ (cs : List Value) (a b : Int), cs.length = 34 ∧ (∀ v ∈ cs, v.oneCell' = true) ∧ e = .returned (.tuple #[.agg cs.toArray, .agg #[.int .i64 a, .int .i64 b], .bool (is14B h G P O)]) ∧ Below w.heap.size w w' ∧
    (is14B h G P O = true → a = G ∧ b = P ∧ ∃ L c, cs = houseC h.frames (.slice (some ⟨L, 0, none⟩) h.guests.length c) h.hand ∧ w.heap.size ≤ L ∧ LodsAt w' L h.guests.length h.guests ∧ w'.there L 0 (h.guests.length * 66))

set_option maxRecDepth 100000 in
set_option maxHeartbeats 8000000 in
theorem implPlaceOf (lo hi : Nat) (af ag : Option Addr) (lf cf n cg : Nat) (h : Hst) (G P O : Int) (w : World) (hH : HostIn w lo hi (.slice af lf cf) (.slice ag n cg) h) (hh : hi ≤ w.heap.size) (hwf : WfGs h.guests.length h.guests) :
    Calls Try.prog 81 #[.agg #[.slice af lf cf, .slice ag n cg, .int .i64 h.hand], .int .i64 G, .int .i64 P, .int .i64 O] w fun e w' => PlaceRead w w' e h G P O := by
  obtain ⟨zH, hzs, hAl, hSt⟩ := house_var
  obtain ⟨W0, hW0⟩ : ∃ W0, W0 = ((w.alloc (.cells #[.slice af lf cf, .slice ag n cg, .int .i64 h.hand] 27)).alloc (.cells zH 74)).alloc (.cells #[.int .i64 0, .int .i64 0] 99) := ⟨_, rfl⟩
  have B0 : Below w.heap.size w W0 := by rw [hW0]; exact (((Below.refl _ _).alloc (Nat.le_refl _) _).alloc (by simp) _).alloc (by rw [World.size_alloc, World.size_alloc]; omega) _
  have s0 : W0.heap.size ≤ w.heap.size + 3 ∧ w.heap.size + 3 ≤ W0.heap.size := by rw [hW0]; simp
  have t0 : W0.there (w.heap.size + 1) 0 34 := by
    have := there_new (w.alloc (.cells #[.slice af lf cf, .slice ag n cg, .int .i64 h.hand] 27)) zH 74
    rw [hzs, World.size_alloc] at this
    rw [hW0]
    exact World.there_alloc' this
  have q0 : W0.cell? ⟨w.heap.size + 1 + 1, 0, none⟩ = some (.int .i64 0) ∧ W0.cell? ⟨w.heap.size + 1 + 1, 1, none⟩ = some (.int .i64 0) ∧ W0.frozen? ⟨w.heap.size + 1 + 1, 0, none⟩ = false ∧ W0.frozen? ⟨w.heap.size + 1 + 1, 1, none⟩ = false := by rw [hW0]; exact two_new (by simp)
  have hsp := implSpotOf lo hi af ag lf cf n cg h G P W0 (hH.same (below_sameIn B0 hh)) (Nat.le_trans hh B0.size) hwf
  have x0 : Var3 W0 w.heap.size (.slice af lf cf) (.slice ag n cg) (.int .i64 h.hand) := by rw [hW0]; exact ((var3_new w _ _ _ _).allocK _).allocK _
  obtain ⟨x00, x01, x02, _, _, _⟩ := x0
  have lH0 : w.heap.size < W0.heap.size := by omega
  have hBu : ∀ w : World, bigBuild Try.prog 74 #[] w = .ok (.agg hz.toArray) w := build_house0
  have hlz : hz.length = 34 := houseC_len rfl _ _
  have h1z : ∀ v ∈ hz, v.oneCell' = true := houseC_one _ _ _ _ _
  have hiz : (Try.prog.info? 74).map (·.size) = some hz.length := by rw [hlz]; kernel_rfl
  have hPk := fun W => placeOk_any 6 P O W
  have hi2 : (Try.prog.info? 99).map (·.size) = some 2 := by kernel_rfl
  have hvars : ∀ W : World, Below W0.heap.size W0 W → W.cell? ⟨w.heap.size + 1 + 1, 0, none⟩ = some (.int .i64 0) ∧ W.cell? ⟨w.heap.size + 1 + 1, 1, none⟩ = some (.int .i64 0) ∧ W.frozen? ⟨w.heap.size + 1 + 1, 0, none⟩ = false ∧ W.frozen? ⟨w.heap.size + 1 + 1, 1, none⟩ = false ∧ w.heap.size + 1 + 1 < W.heap.size ∧ W.there (w.heap.size + 1) 0 34 ∧ Below w.heap.size w W := fun W B =>
    ⟨(B.cell (p := ⟨w.heap.size + 1 + 1, 0, none⟩) (show w.heap.size + 1 + 1 < W0.heap.size by omega)).trans q0.1, (B.cell (p := ⟨w.heap.size + 1 + 1, 1, none⟩) (show w.heap.size + 1 + 1 < W0.heap.size by omega)).trans q0.2.1, (B.frozen (p := ⟨w.heap.size + 1 + 1, 0, none⟩) (show w.heap.size + 1 + 1 < W0.heap.size by omega)).trans q0.2.2.1, (B.frozen (p := ⟨w.heap.size + 1 + 1, 1, none⟩) (show w.heap.size + 1 + 1 < W0.heap.size by omega)).trans q0.2.2.2, by have := B.size; omega, there_below t0 B (by omega), B0.trans (B.mono B0.size)⟩
  -- what is stored at the end, at whatever world behind
  have hout : ∀ (W : World) (cs : List Value) (a b : Int), cs.length = 34 → (∀ v ∈ cs, v.oneCell' = true) → Below W0.heap.size W0 W → ∃ W', bigStore Try.prog 74 (.pointer (some ⟨w.heap.size + 1, 0, none⟩)) (.agg cs.toArray) W = .ok () W' ∧ W'.cell? ⟨w.heap.size + 1 + 1, 0, none⟩ = some (.int .i64 0) ∧ W'.cell? ⟨w.heap.size + 1 + 1, 1, none⟩ = some (.int .i64 0) ∧ W'.frozen? ⟨w.heap.size + 1 + 1, 0, none⟩ = false ∧ W'.frozen? ⟨w.heap.size + 1 + 1, 1, none⟩ = false ∧ w.heap.size + 1 + 1 < W'.heap.size ∧ Hid (((W'.setCell ⟨w.heap.size + 1 + 1, 0, none⟩ (.int .i64 a)).setCell ⟨w.heap.size + 1 + 1, 1, none⟩ (.int .i64 b)).rangeAt (w.heap.size + 1) 0 cs ∧ ((W'.setCell ⟨w.heap.size + 1 + 1, 0, none⟩ (.int .i64 a)).setCell ⟨w.heap.size + 1 + 1, 1, none⟩ (.int .i64 b)).rangeAt (w.heap.size + 1 + 1) 0 [.int .i64 a, .int .i64 b] ∧ Below w.heap.size w ((W'.setCell ⟨w.heap.size + 1 + 1, 0, none⟩ (.int .i64 a)).setCell ⟨w.heap.size + 1 + 1, 1, none⟩ (.int .i64 b)) ∧ ∀ j, j ≠ w.heap.size + 1 → j ≠ w.heap.size + 1 + 1 → ((W'.setCell ⟨w.heap.size + 1 + 1, 0, none⟩ (.int .i64 a)).setCell ⟨w.heap.size + 1 + 1, 1, none⟩ (.int .i64 b)).heap[j]? = W.heap[j]? ∧ W.heap.size ≤ W'.heap.size) := fun W cs a b hl h1 B => by
    obtain ⟨c0, c1, f0, f1, lQ, tW, bW⟩ := hvars W B
    obtain ⟨o1, o2, o3, o4⟩ := spot_out (a := a) (b := b) hl tW c0 c1 bW
    have e := heap_setCells (w.heap.size + 1) cs 0 W (w.heap.size + 1 + 1) (by omega)
    exact ⟨_, storeH34 W _ cs hl h1 tW, (World.cell?_of_block (a := ⟨w.heap.size + 1 + 1, 0, none⟩) e).trans c0, (World.cell?_of_block (a := ⟨w.heap.size + 1 + 1, 1, none⟩) e).trans c1, (World.frozen?_of_block (a := ⟨w.heap.size + 1 + 1, 0, none⟩) e).trans f0, (World.frozen?_of_block (a := ⟨w.heap.size + 1 + 1, 1, none⟩) e).trans f1, by rw [size_setCells]; exact lQ, o1, o2, o3, fun j j1 j2 => ⟨o4 j j1 j2, by rw [size_setCells]; exact Nat.le_refl _⟩⟩
  have he : is14B h G P O = (placeB 6 P O && isB h G P) := by
    rw [is14B, isB, placeB]
    cases hs : seeB h G
    · simp
    · apply Bool.eq_iff_iff.2
      simp only [Bool.and_eq_true, decide_eq_true_eq, Bool.true_and]
      constructor
      · rintro ⟨⟨a, b⟩, c, d⟩
        exact ⟨⟨⟨⟨a, by omega⟩, c⟩, by omega⟩, a, b⟩
      · rintro ⟨⟨⟨⟨a, b⟩, c⟩, d⟩, e, f⟩
        exact ⟨⟨e, f⟩, c, by omega⟩
  have Hout := hidE hout
  have He := hidE he
  have Hz := hidE (And.intro hlz (And.intro h1z hiz))
  clear hout hvars hH hSt q0 t0 he
  generalize placeB 6 P O = pb at *
  go_enter Try.func81, Try.ntmps81
  go_wp2_with (fail)
  rw [← hW0]
  clear hW0
  refine (hPk _).mono ?_
  rintro e w1 ⟨rfl, rfl⟩
  cases pb
  · obtain ⟨W4, hst, c0, c1, f0, f1, lQ, HR⟩ := Hout.out w1 hz 0 0 hlz h1z (Below.refl _ _)
    have Hno := hidE (show is14B h G P O = false by rw [He.out]; rfl)
    generalize hza : hz.toArray = za at hst hBu
    clear hsp hPk hlz h1z hiz x00 x01 x02 B0 s0
    go_wp2
    refine bodyPost_ret (results_spot Try.results81 _ (w.heap.size + 1) (w.heap.size + 1 + 1) _ rfl rfl HR.out.1 Try.underlying74 rfl Hz.out.2.2 HR.out.2.1 Try.underlying99 rfl hi2) rfl ?_
    exact ⟨hz, 0, 0, Hz.out.1, Hz.out.2.1, by rw [Hno.out]; rfl, HR.out.2.2.1, fun e => by rw [Hno.out] at e; cases e⟩
  · clear hlz h1z hiz hBu
    go_wp2_with (fail)
    refine hsp.mono ?_
    rintro e w3 ⟨cs, a, b, hl, h1, rfl, B3, hL⟩
    have z3 := B3.size
    obtain ⟨W4, hst, c0, c1, f0, f1, lQ, HR⟩ := Hout.out w3 cs a b hl h1 B3
    have hib : is14B h G P O = isB h G P := by rw [He.out]; rfl
    have hiC : (Try.prog.info? 74).map (·.size) = some cs.length := by rw [hl]; kernel_rfl
    have HL := hidE hL
    have Hl := hidE (And.intro hl h1)
    have Hib := hidE hib
    have HiC := hidE hiC
    generalize hcs : cs.toArray = ca at hst ⊢
    have Hcs := hidE hcs
    clear hsp hPk x00 x01 x02 hL hl h1 hib hiC hcs
    go_wp2
    refine bodyPost_ret (results_spot Try.results81 _ (w.heap.size + 1) (w.heap.size + 1 + 1) _ rfl rfl HR.out.1 Try.underlying74 rfl HiC.out HR.out.2.1 Try.underlying99 rfl hi2) rfl ?_
    refine ⟨cs, a, b, Hl.out.1, Hl.out.2, by rw [Hib.out, ← Hcs.out]; rfl, HR.out.2.2.1, fun e => ?_⟩
    rw [Hib.out] at e
    obtain ⟨e1, e2, L, c, e3, k1, k2, k3⟩ := HL.out e
    have hLl := k2.2.1
    have hk := lods_block k2 k3 (w' := _) (HR.out.2.2.2 L (by omega) (by omega)).1 (by have := (HR.out.2.2.2 L (by omega) (by omega)).2; simp; omega)
    exact ⟨e1, e2, L, c, e3, by omega, hk.1, hk.2⟩
end Go.Proofs.Ytbhenppclgolpaa
