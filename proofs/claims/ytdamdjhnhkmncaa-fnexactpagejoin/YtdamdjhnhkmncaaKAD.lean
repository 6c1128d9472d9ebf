/-
  One cell of a row of like elements written.
-/
import Derived.Test.YtdamdjhnhkmncaaKOwn0
import Derived.Test.YtdamdjhnhkmncaaKPB
namespace Go.Proofs.Ytdamdjhnhkmncaa
open Go.RowKit

theorem flatMap_set {α : Type} {f : α → List Value} {n : Nat} (d : α) (hf : ∀ a, (f a).length = n) {l : List α} {i j : Nat} {a : α} (hi : i < l.length) (hj : j < n) {u : Value} (hfa : f a = (f (l.getD i d)).set j u) : (l.set i a).flatMap f = (l.flatMap f).set (i * n + j) u := by
  have e1 : (l.take i).flatMap f ++ (f a ++ (l.drop (i + 1)).flatMap f) = (l.set i a).flatMap f := by rw [set_parts l i a hi, List.flatMap_append, List.flatMap_cons]
  have e2 : l.flatMap f = (l.take i).flatMap f ++ (f (l.getD i d) ++ (l.drop (i + 1)).flatMap f) := by
    conv => lhs; rw [own_parts l i d hi, List.flatMap_append, List.flatMap_cons]
  have hl : ((l.take i).flatMap f).length = i * n := by rw [flatMap_len f n hf, List.length_take]; congr 1; omega
  rw [← e1, e2, List.set_append_right _ _ (by omega), hl, show i * n + j - i * n = j by omega, List.set_append_left _ _ (by rw [hf]; exact hj), hfa]
theorem range_put1 {w : World} {b o : Nat} {cs : List Value} (h : w.rangeAt b o cs) {i : Nat} (u : Value) : (w.setCell ⟨b, o + i, none⟩ u).rangeAt b o (cs.set i u) := fun j v hj => by
  rw [List.getElem?_set] at hj
  by_cases e : i = j
  · subst e
    rw [if_pos rfl] at hj
    by_cases hl : i < cs.length
    · rw [if_pos hl] at hj
      cases hj
      exact cellk_same (h i _ (List.getElem?_eq_getElem hl))
    · rw [if_neg hl] at hj
      cases hj
  · rw [if_neg e] at hj
    exact cellk_else (h j v hj) (by omega)
theorem sheetC_set {zs : List Int} (h4 : zs.length = 4) {o : Nat} (ho : o < 4) (z : Int) : sheetC (zs.set o z) = (sheetC zs).set o (.int .i64 z) := by
  match zs, h4 with
  | [a, b, c, d], _ => rcases (by omega : o = 0 ∨ o = 1 ∨ o = 2 ∨ o = 3) with e | e | e | e <;> subst e <;> rfl
theorem range_setAppL {w : World} {b o : Nat} {xs ys : List Value} {i : Nat} (hi : i < xs.length) {u : Value} {xs' : List Value} (hx : xs' = xs.set i u) (h : w.rangeAt b o (xs ++ ys)) : (w.setCell ⟨b, o + i, none⟩ u).rangeAt b o (xs' ++ ys) := by
  have := range_put1 h (i := i) u
  rwa [List.set_append_left _ _ hi, ← hx] at this

theorem HouseW.word {w : World} {B L c : Nat} {h : Hst} (hW : HouseW w B L c h) {F : Nat} (hF : F < 8) {o : Nat} (ho : o < 4) (z : Int) : HouseW (w.setCell ⟨B, F * 4 + o, none⟩ (.int .i64 z)) B L c (wordP h F o z) := by
  obtain ⟨h1, h2, h3, h4, h5, h6, h7, h8, h9, h10⟩ := hW
  have e0 : w.setCell ⟨B, F * 4 + o, none⟩ (.int .i64 z) = w.setCells B (F * 4 + o) [.int .i64 z] := rfl
  have hz4 := h7 F hF
  refine ⟨?_, World.there_setCells h2 B (F * 4 + o) [.int .i64 z], ⟨h3.1, by rw [World.size_setCell]; exact h10, fun j hj => ?_⟩, World.there_setCells h4 B (F * 4 + o) [.int .i64 z], h5, by show (h.frames.set F _).length = 8; rw [List.length_set]; exact h6, fun j hj => ?_, h8, by rw [World.size_setCell]; exact h9, by rw [World.size_setCell]; exact h10⟩
  · have l1 : (sheetsC h.frames).length = 32 := by rw [sheetsC_len, h6]
    have := range_setAppL (i := F * 4 + o) (u := .int .i64 z) (xs' := sheetsC (h.frames.set F ((fAt h F).set o z))) (by show _ < (sheetsC h.frames).length; rw [l1]; omega) (flatMap_set (f := sheetC) (n := 4) [] (fun _ => rfl) (by rw [h6]; exact hF) ho (sheetC_set hz4 ho z)) h1
    rwa [Nat.zero_add] at this
  · obtain ⟨s, r⟩ := h3.2.2 j hj
    rw [e0]
    exact ⟨s, World.rangeAt_setCells_apart r _ _ _ (Or.inl (Ne.symm h5))⟩
  · show ((h.frames.set F ((fAt h F).set o z)).getD j []).length = 4
    rw [getD_set _ _ _ _ _ (by rw [h6]; exact hF)]
    by_cases hji : j = F
    · rw [if_pos hji, List.length_set]; exact hz4
    · rw [if_neg hji]; exact h7 j hj
/-- A word of a frame read. -/
theorem HouseW.wordAt {w : World} {B L c : Nat} {h : Hst} (hW : HouseW w B L c h) {F : Nat} (hF : F < 8) {o : Nat} (ho : o < 4) : w.cell? ⟨B, F * 4 + o, none⟩ = some (.int .i64 ((fAt h F).getD o 0)) ∧ w.frozen? ⟨B, F * 4 + o, none⟩ = false := by
  obtain ⟨h1, h2, h3, h4, h5, h6, h7, h8, h9, h10⟩ := hW
  obtain ⟨z0, z1, z2, z3⟩ := range_sheets (range_left h1) F (by rw [h6]; exact hF)
  rw [Nat.zero_add] at z0 z1 z2 z3
  have t := (h2 (F * 4 + o) (by omega)).2
  rw [Nat.zero_add] at t
  rcases (by omega : o = 0 ∨ o = 1 ∨ o = 2 ∨ o = 3) with e | e | e | e <;> subst e
  · exact ⟨z0, t⟩
  · exact ⟨z1, t⟩
  · exact ⟨z2, t⟩
  · exact ⟨z3, t⟩
end Go.Proofs.Ytdamdjhnhkmncaa

/-
  What the program's own frameOf does: a page brought in, and where; and put: a word of a frame written, the one that was there told.
-/
set_option linter.unusedSimpArgs false
namespace Go.Proofs.Ytdamdjhnhkmncaa
open Go.RowKit
attribute [local go_sem ↓] Go.wp_at_zero Go.wp_at_succ exec_app exec_lod exec_house exec_mapsA exec_allocL exec_storeL exec_buildL exec_idxM exec_look exec_upd exec_allocH exec_buildH exec_storeH exec_bsL exec_storeQ exec_loadQ exec_idxQ
attribute [local go_sem] bigNext_ok bigSkip_ok

set_option maxRecDepth 100000 in
set_option maxHeartbeats 4000000 in
theorem implFrameOf (B L c g p : Nat) (h : Hst) (w : World) (hW : HouseW w B L c h) (k : OkH h) (hg : g < h.guests.length) (hp : p < 6) :
    Calls Try.prog 82 #[.pointer (some ⟨B, 0, none⟩), .agg #[.int .i64 g, .int .i64 p]] w fun e w' => e = .returned (.int .i64 (mAt (inP h g p) g p).2.1) ∧ HouseW w' B L c (inP h g p) ∧ Upd2 B L w w' := by
  obtain ⟨W2, hW2⟩ : ∃ W2, W2 = w.alloc (.cells #[.int .i64 g, .int .i64 p] 99) := ⟨_, rfl⟩
  have B2 : Below w.heap.size w W2 := by rw [hW2]; exact (Below.refl _ _).alloc (Nat.le_refl _) _
  have s2 : W2.heap.size ≤ w.heap.size + 1 ∧ w.heap.size + 1 ≤ W2.heap.size := by rw [hW2]; simp
  have a2 : W2.cell? ⟨w.heap.size, 0, none⟩ = some (.int .i64 g) ∧ W2.cell? ⟨w.heap.size, 1, none⟩ = some (.int .i64 p) := by rw [hW2]; simp
  have kW := hW.belowK B2
  have lB0 : B < w.heap.size := hW.2.2.2.2.2.2.2.2.1
  have lL0 : L < w.heap.size := hW.2.2.2.2.2.2.2.2.2
  have hbr := implBringIn B L c g p h W2 kW k hg hp
  obtain ⟨k1, _, hm1⟩ := inP_ok k hg hp
  have l1 := inP_len k g p
  have hg1 : g < (inP h g p).guests.length := by omega
  clear hW kW l1
  generalize inP h g p = h1 at *
  obtain ⟨mf, hmf⟩ : ∃ mf, mf = (mAt h1 g p).2.1 := ⟨_, rfl⟩
  rw [← hmf]
  go_enter Try.func82, Try.ntmps82
  go_wp2_with (fail)
  rw [← hW2]
  clear hW2
  refine hbr.mono ?_
  rintro e w3 ⟨rfl, k3, U3⟩
  have U03 := hidE ((Upd2.ofBelow (a := B) (b := L) B2).trans U3)
  have s3 := U3.size
  have a30 := (World.cell?_of_block (a := ⟨w.heap.size, 0, none⟩) (U3.block w.heap.size (by omega) (by omega) (by omega))).trans a2.1
  have a31 := (World.cell?_of_block (a := ⟨w.heap.size, 1, none⟩) (U3.block w.heap.size (by omega) (by omega) (by omega))).trans a2.2
  have l30 : w.heap.size < w3.heap.size := by omega
  have lL3 : L < w3.heap.size := by omega
  have lB3 : B < w3.heap.size := by omega
  have hlods := k3.lods.1
  have hgi : (g : Int) < (h1.guests.length : Int) := by omega
  have hpi : (p : Int) < 6 := by omega
  have h0g : (0 : Int) ≤ (g : Int) := Int.natCast_nonneg _
  have h0p : (0 : Int) ≤ (p : Int) := Int.natCast_nonneg _
  obtain ⟨hsz, hr, hth⟩ := k3.lodAt hg1
  obtain ⟨_, e1, _⟩ := lod_maps hr p (by rw [hsz.1]; exact hp)
  rw [show ((false, 0, false) : E3) = noM from rfl, show (h1.guests.getD g noG).maps.getD p noM = mAt h1 g p from rfl] at e1
  have HK := hidE k3
  rw [← hmf] at e1
  clear hmf
  clear hbr a2 B2 U3 hr hth hm1 hsz k3
  go_wp2_with (fail)
  go_quiet (fail)
  go_wp2
  refine bodyPost_ret (v := .int .i64 mf) (by simp [results, Try.results82, go_sem]) rfl ?_
  have B4 : Below w3.heap.size w3 (w3.drewN nq) := below_drewN (Below.refl _ _) _
  exact ⟨rfl, HK.out.belowK B4, U03.out.trans (Upd2.ofBelow B4)⟩

set_option maxRecDepth 100000 in
set_option maxHeartbeats 4000000 in
theorem implPutW (B L c F o : Nat) (z : Int) (h : Hst) (w : World) (hW : HouseW w B L c h) (hF : F < 8) (ho : o < 4) :
    Calls Try.prog 85 #[.pointer (some ⟨B, 0, none⟩), .int .i64 F, .int .i64 o, .int .i64 z] w fun e w' => e = .returned (.int .i64 ((fAt h F).getD o 0)) ∧ HouseW w' B L c (wordP h F o z) ∧ Upd2 B L w w' := by
  obtain ⟨q, f⟩ := hW.wordAt hF ho
  have kW := hidE (hW.word hF ho z)
  have HU := hidE (Upd2.left (b := L) ((Upd.refl B w).put (F * 4 + o) (.int .i64 z)))
  have lB : B < w.heap.size := hW.2.2.2.2.2.2.2.2.1
  have hFi : (F : Int) < 8 := by omega
  have hoi : (o : Int) < 4 := by omega
  have h0F : (0 : Int) ≤ (F : Int) := Int.natCast_nonneg _
  have h0o : (0 : Int) ≤ (o : Int) := Int.natCast_nonneg _
  clear hW
  generalize (fAt h F).getD o 0 = y at *
  go_enter Try.func85, Try.ntmps85
  go_wp2_with (fail)
  refine bodyPost_ret (v := .int .i64 y) (by simp [results, Try.results85, go_sem]) rfl ?_
  exact ⟨rfl, kW.out, HU.out⟩
end Go.Proofs.Ytdamdjhnhkmncaa
