/-
  What the given functions that make hosts do.
-/
import Derived.Test.YtjegndgdpmlbaaaKOHA
import Derived.Deep.AppendLies
import Derived.Deep.RegionLaw
set_option linter.unusedSimpArgs false
namespace Go.Proofs.Ytjegndgdpmlbaaa
open Go.RowKit
attribute [local go_sem ↓] Go.wp_at_zero Go.wp_at_succ

/-- The three cells of a variable, all of them to be written. -/
def Var3 (w : World) (b : Nat) (x y z : Value) : Prop := w.cell? ⟨b, 0, none⟩ = some x ∧ w.cell? ⟨b, 1, none⟩ = some y ∧ w.cell? ⟨b, 2, none⟩ = some z ∧ w.frozen? ⟨b, 0, none⟩ = false ∧ w.frozen? ⟨b, 1, none⟩ = false ∧ w.frozen? ⟨b, 2, none⟩ = false
theorem Var3.same {w w' : World} {b : Nat} {x y z : Value} (h : Var3 w b x y z) (e : w'.heap[b]? = w.heap[b]?) : Var3 w' b x y z := by
  obtain ⟨h0, h1, h2, f0, f1, f2⟩ := h
  exact ⟨(World.cell?_of_block (a := ⟨b, 0, none⟩) e).trans h0, (World.cell?_of_block (a := ⟨b, 1, none⟩) e).trans h1, (World.cell?_of_block (a := ⟨b, 2, none⟩) e).trans h2, (World.frozen?_of_block (a := ⟨b, 0, none⟩) e).trans f0, (World.frozen?_of_block (a := ⟨b, 1, none⟩) e).trans f1, (World.frozen?_of_block (a := ⟨b, 2, none⟩) e).trans f2⟩
theorem Var3.put0 {w : World} {b : Nat} {x y z : Value} (h : Var3 w b x y z) (u : Value) : Var3 (w.setCell ⟨b, 0, none⟩ u) b u y z := by
  obtain ⟨h0, h1, h2, f0, f1, f2⟩ := h
  exact ⟨cellk_same h0, cellk_else h1 (by omega), cellk_else h2 (by omega), by rw [frozen_put]; exact f0, by rw [frozen_put]; exact f1, by rw [frozen_put]; exact f2⟩
theorem Var3.put1 {w : World} {b : Nat} {x y z : Value} (h : Var3 w b x y z) (u : Value) : Var3 (w.setCell ⟨b, 1, none⟩ u) b x u z := by
  obtain ⟨h0, h1, h2, f0, f1, f2⟩ := h
  exact ⟨cellk_else h0 (by omega), cellk_same h1, cellk_else h2 (by omega), by rw [frozen_put]; exact f0, by rw [frozen_put]; exact f1, by rw [frozen_put]; exact f2⟩
theorem var3_new (w : World) (x y z : Value) (t : TypeId) : Var3 (w.alloc (.cells #[x, y, z] t)) w.heap.size x y z := by
  refine ⟨?_, ?_, ?_, ?_, ?_, ?_⟩ <;> simp

theorem var3_newK {w : World} {b : Nat} {x y z : Value} {t : TypeId} (e : w.heap.size = b) : Var3 (w.alloc (.cells #[x, y, z] t)) b x y z := by subst e; exact var3_new w x y z t
theorem Var3.lt {w : World} {b : Nat} {x y z : Value} (h : Var3 w b x y z) : b < w.heap.size := World.block_lt_of_cell? _ _ h.1
theorem Var3.belowK {w w' : World} {b : Nat} {x y z : Value} (h : Var3 w b x y z) (hB : Below w.heap.size w w') : Var3 w' b x y z := h.same (hB.block _ h.lt)
theorem Var3.allocK {w : World} {b : Nat} {x y z : Value} (h : Var3 w b x y z) (ob : Obj) : Var3 (w.alloc ob) b x y z := h.belowK ((Below.refl _ _).alloc (Nat.le_refl _) _)
theorem Var3.drewK {w : World} {b : Nat} {x y z : Value} (h : Var3 w b x y z) : Var3 w.drew b x y z := h
theorem Var3.putAll {w : World} {b : Nat} {x y z : Value} (h : Var3 w b x y z) (x' y' z' : Value) : Var3 (((w.setCell ⟨b, 0, none⟩ x').setCell ⟨b, 1, none⟩ y').setCell ⟨b, 2, none⟩ z') b x' y' z' := by
  have k := (h.put0 x').put1 y'
  obtain ⟨h0, h1, h2, f0, f1, f2⟩ := k
  exact ⟨cellk_else h0 (by omega), cellk_else h1 (by omega), cellk_same h2, by rw [frozen_put]; exact f0, by rw [frozen_put]; exact f1, by rw [frozen_put]; exact f2⟩
theorem PagesUp.setBelow {w : World} {lo k : Nat} {ms : List (List Int)} {vs : List Value} (h : PagesUp w lo k ms vs) {b j : Nat} (hb : b < lo) (u : Value) : PagesUp (w.setCell ⟨b, j, none⟩ u) lo k ms vs := by
  obtain ⟨hv, bs, cs, hm, h⟩ := h
  exact ⟨hv, bs, cs, hm, fun i hi => ⟨(h i hi).1, ownsRow_setCell_below (h i hi).2 (a := ⟨b, j, none⟩) hb u⟩⟩

/-- An append, kept shut: by one hypothesis on it. -/
def appRun (P : Program) (t ty : TypeId) (x y : Value) (w : World) : Result Value := (Builtin.append_ #[t, t] ty #[x, y]).run P w
theorem exec_app {P : Program} (ρ : Operand → Value) (dst : Option Tmp) (t ty : TypeId) (pos : String) (after : Array _) (guard : Option _) (x y : Operand) (w : World) :
    (execOp ρ ⟨dst, .call { callee := .builtin .append, args := #[x, y], argTypes := #[t, t] }, ty, pos, after, guard⟩).run P w = bigNext (appRun P t ty (ρ x) (ρ y) w) := by
  unfold appRun execOp
  simp only [resolve, invoke, builtin, Sem.run_bind, Sem.run_pure, Result.andThen_ok, List.map_toArray, List.map_cons, List.map_nil]
  cases (Builtin.append_ #[t, t] ty #[ρ x, ρ y]).run P w <;> rfl
attribute [local go_sem ↓] exec_app
attribute [local go_sem] bigNext_ok

set_option maxRecDepth 100000 in
set_option maxHeartbeats 4000000 in
theorem specNew (w : World) : Calls Try.prog 106 #[] w fun e w' => ∃ a c, e = .returned (.agg #[.slice a 8 c, .slice none 0 0, .int .i64 0]) ∧ OwnMem w' w.heap.size w'.heap.size a 8 (zeroM 8) ∧ Below w.heap.size w w' := by
  obtain ⟨i1, hi1, hy0, hy1, hy2⟩ := info_parts infoS
  go_enter Try.func106, Try.ntmps106
  go_wp2_with (fail)
  go_loopw [2] (fun i wr => ∃ k : Nat, ∃ a c vs, k ≤ 8 ∧ i = .int .i64 k ∧ Hid (Var3 wr (w.heap.size + 1) (.slice a k c) (.slice none 0 0) (.int .i64 0)) ∧ Hid (Var3 wr w.heap.size (.slice none 0 0) (.slice none 0 0) (.int .i64 0)) ∧ Hid (wr.ownsRow (w.heap.size + 2) 41 1 (.slice a k c) k vs) ∧ Hid (PagesUp wr (w.heap.size + 2) k (zeroM 8) vs) ∧ w.heap.size + 2 ≤ wr.heap.size ∧ Hid (Below w.heap.size w wr)) (fun i _ => 8 - (intOf i).toNat)
  case atStart =>
    refine ⟨0, none, 0, [], Nat.zero_le _, rfl, ?_, ?_, ⟨rfl, Or.inl ⟨rfl, rfl⟩⟩, ⟨rfl, fun _ => 0, fun _ => 0, fun i j h1 h2 => by omega, fun i hi => by omega⟩, ?_, ?_⟩
    · have := var3_new (w.alloc (.cells #[.slice none 0 0, .slice none 0 0, .int .i64 0] 26)) (.slice none 0 0) (.slice none 0 0) (.int .i64 0) 26
      rwa [World.size_alloc] at this
    · exact (var3_new w (.slice none 0 0) (.slice none 0 0) (.int .i64 0) 26).same (w' := (w.alloc (.cells #[.slice none 0 0, .slice none 0 0, .int .i64 0] 26)).alloc (.cells #[.slice none 0 0, .slice none 0 0, .int .i64 0] 26)) (((Below.refl (w.heap.size + 1) (w.alloc (.cells #[.slice none 0 0, .slice none 0 0, .int .i64 0] 26))).alloc (Nat.le_of_eq (World.size_alloc _ _).symm) _).block _ (by omega))
    · simp
    · show Below w.heap.size w _
      (repeat' (with_reducible (first | exact Below.refl _ _ | apply Below.setCell | apply Below.alloc | apply below_drewN | apply Below.drew))) <;> (first | exact Nat.le_refl _ | (simp; done) | (simp; omega))
  case round =>
    obtain ⟨k, a, c, vs, hk, rfl, hv1, hv0, hown, hP, hsz, hB⟩ := hrel
    by_cases hkl : k < 8
    · have hki : (k : Int) < 8 := by omega
      obtain ⟨c0, c1, c2, f0, f1, f2⟩ := hv1.out
      have hne : some (w.heap.size + 1) ≠ (Value.slice a k c).ownBlock := fun e => by have := (hown.out.lt _ e.symm).1; omega
      have hne0 : some w.heap.size ≠ (Value.slice a k c).ownBlock := fun e => by have := (hown.out.lt _ e.symm).1; omega
      have hown2 : (((wr.alloc (.cells (madeCells #[.int .i64 0] 4) 3)).alloc (.cells #[.slice (some ⟨wr.heap.size, 0, none⟩) 4 4] 41)).drew).ownsRow (w.heap.size + 2) 41 1 (.slice a k c) k vs := (hown.out.alloc (.cells (madeCells #[.int .i64 0] 4) 3)).alloc (.cells #[.slice (some ⟨wr.heap.size, 0, none⟩) 4 4] 41)
      have HC := one_new (wr.alloc (.cells (madeCells #[.int .i64 0] 4) 3)) (.slice (some ⟨wr.heap.size, 0, none⟩) 4 4) 41
      rw [World.size_alloc] at HC
      have B2 : Below wr.heap.size wr ((wr.alloc (.cells (madeCells #[.int .i64 0] 4) 3)).alloc (.cells #[.slice (some ⟨wr.heap.size, 0, none⟩) 4 4] 41)).drew := (((Below.refl wr.heap.size wr).alloc (Nat.le_refl _) _).alloc (by simp) _).drew
      have z0 := (B2.cell (p := ⟨w.heap.size + 1, 0, none⟩) (by simp; omega)).trans c0
      have zf := (B2.frozen (p := ⟨w.heap.size + 1, 0, none⟩) (by simp; omega)).trans f0
      obtain ⟨g, cap, w1, hrun, hown1, hgrow, hat, hlt⟩ := run_append_lies (P := Try.prog) (((wr.alloc (.cells (madeCells #[.int .i64 0] 4) 3)).alloc (.cells #[.slice (some ⟨wr.heap.size, 0, none⟩) 4 4] 41)).drew) 23 23 (w.heap.size + 2) 41 i1 (.slice none 0 0) 1 24 Try.underlying23 hi1 hy0 hy1 hy2 rfl (by decide) _ k vs hown2 ⟨wr.heap.size + 1, 0, none⟩ 1 1 [.slice (some ⟨wr.heap.size, 0, none⟩) 4 4] rfl HC (by simp [Value.oneCell']) (by decide) (by unfold maxLen; omega) (by omega) (by simp; omega) (wr.heap.size + 2) (by simp)
      have hApp : appRun Try.prog 23 23 (.slice a k c) (.slice (some ⟨wr.heap.size + 1, 0, none⟩) 1 1) ((wr.alloc (.cells (madeCells #[.int .i64 0] 4) 3)).alloc (.cells #[.slice (some ⟨wr.heap.size, 0, none⟩) 4 4] 41)).drew = .ok (.slice (some ⟨g, 0, none⟩) (k + 1) cap) w1 := hrun
      have x0 := (hgrow.cell_far ⟨w.heap.size + 1, 0, none⟩ (by simp; omega) hne).trans z0
      have xf := (hgrow.frozen_far ⟨w.heap.size + 1, 0, none⟩ (by simp; omega) hne).trans zf
      have hwb : w.heap.size + 1 < wr.heap.size := by omega
      have hwb1 : w.heap.size + 1 < wr.heap.size + 1 := by omega
      have hg := zeroM_get hkl
      have own2 : (wr.alloc (.cells (madeCells #[.int .i64 0] 4) 3)).ownsRow (w.heap.size + 2) 3 1 (.slice (some ⟨wr.heap.size, 0, none⟩) 4 4) 4 (zv ((zeroM 8).getD k [])) := by
        rw [hg]
        exact own_down (own_made wr _) hsz
      have HN : Hid (Var3 (w1.setCell ⟨w.heap.size + 1, 0, none⟩ (.slice (some ⟨g, 0, none⟩) (k + 1) cap)) (w.heap.size + 1) (.slice (some ⟨g, 0, none⟩) (k + 1) cap) (.slice none 0 0) (.int .i64 0) ∧ Var3 (w1.setCell ⟨w.heap.size + 1, 0, none⟩ (.slice (some ⟨g, 0, none⟩) (k + 1) cap)) w.heap.size (.slice none 0 0) (.slice none 0 0) (.int .i64 0) ∧
          (w1.setCell ⟨w.heap.size + 1, 0, none⟩ (.slice (some ⟨g, 0, none⟩) (k + 1) cap)).ownsRow (w.heap.size + 2) 41 1 (.slice (some ⟨g, 0, none⟩) (k + 1) cap) (k + 1) (vs ++ [.slice (some ⟨wr.heap.size, 0, none⟩) 4 4]) ∧
          PagesUp (w1.setCell ⟨w.heap.size + 1, 0, none⟩ (.slice (some ⟨g, 0, none⟩) (k + 1) cap)) (w.heap.size + 2) (k + 1) (zeroM 8) (vs ++ [.slice (some ⟨wr.heap.size, 0, none⟩) 4 4]) ∧
          w.heap.size + 2 ≤ (w1.setCell ⟨w.heap.size + 1, 0, none⟩ (.slice (some ⟨g, 0, none⟩) (k + 1) cap)).heap.size ∧ Below w.heap.size w (w1.setCell ⟨w.heap.size + 1, 0, none⟩ (.slice (some ⟨g, 0, none⟩) (k + 1) cap))) := by
        have hs1 := hgrow.size
        simp only [World.size_drew, World.size_alloc] at hs1
        refine ⟨?_, ?_, ?_, ?_, ?_, ?_⟩
        · exact Var3.put0 (hv1.out.same ((hgrow.block (w.heap.size + 1) (by simp; omega) hne).trans (B2.block _ (by omega)))) _
        · refine (hv0.out.same ?_)
          rw [Below.heap_setCell _ _ _ _ (by simp), hgrow.block w.heap.size (by simp; omega) hne0]
          exact B2.block _ (by omega)
        · exact ownsRow_setCell_below hown1 (a := ⟨w.heap.size + 1, 0, none⟩) (by simp) _
        · refine PagesUp.setBelow ?_ (by omega) _
          have k1 : PagesUp ((wr.alloc (.cells (madeCells #[.int .i64 0] 4) 3)).alloc (.cells #[.slice (some ⟨wr.heap.size, 0, none⟩) 4 4] 41)) (w.heap.size + 2) (k + 1) (zeroM 8) (vs ++ [.slice (some ⟨wr.heap.size, 0, none⟩) 4 4]) :=
            PagesUp.snoc hP.out ((hP.out.kept (below_grown ((Below.refl wr.heap.size wr).alloc (Nat.le_refl _) _)) (fun T e => by cases e)).kept (below_grown ((Below.refl _ _).alloc (Nat.le_refl _) _)) (fun T e => by cases e)) (Nat.le_refl _) (by rw [hg]; rfl) (own2.alloc _)
          exact PagesUp.kept (w := ((wr.alloc (.cells (madeCells #[.int .i64 0] 4) 3)).alloc (.cells #[.slice (some ⟨wr.heap.size, 0, none⟩) 4 4] 41)).drew) k1 hgrow (own_row hown2)
        · rw [World.size_setCell]; omega
        · refine Below.setCell ?_ (p := ⟨w.heap.size + 1, 0, none⟩) (Nat.le_succ _) _
          exact Below.grown (hB.out.trans (B2.mono (by omega))) hgrow (by simp; omega) (fun j hj => by have := (hown2.lt _ hj).1; omega)
      clear hrun hown1 hgrow hat hlt hown2 HC z0 zf B2 own2 hg hown hP
      go_wp2_with (fail)
      go_region_with (go_at_call 91; refine (specPage _).mono ?_; rintro e w' ⟨rfl, rfl⟩)
      all_goals
        clear hApp
        go_wp2
        go_roundw
        case rel =>
          obtain ⟨n1, n2, n3, n4, n5, n6⟩ := HN.out
          exact ⟨k + 1, _, _, _, by omega, by go_num, n1, n2, n3, n4, n5, n6⟩
        case measure => simp [intOf]; omega
    · have hkk : k = 8 := by omega
      subst hkk
      obtain ⟨a3, c3, hv3, hM, hc3⟩ := own_mem hP.out (by simp [zeroM]) hown.out
      cases hv3
      obtain ⟨c0, c1, c2, f0, f1, f2⟩ := hv1.out
      obtain ⟨d0, d1, d2, e0, e1, e2⟩ := hv0.out
      have hwb : w.heap.size < wr.heap.size := by omega
      have HM : Hid (OwnMem wr (w.heap.size + 2) wr.heap.size a 8 (zeroM 8)) := hM
      clear hM hown hP hc3
      go_wp2_with (fail)
      refine bodyPost_ret (v := .agg #[.slice a 8 c, .slice none 0 0, .int .i64 0]) (by simp [results, Try.results106, go_sem, *]) rfl ?_
      refine ⟨_, _, rfl, ?_, ?_⟩
      · refine OwnMem.wide (lo := w.heap.size + 2) (hi := wr.heap.size) (OwnMem.same ?_ HM.out) (by omega) (by simp)
        intro j j1 j2
        rw [Below.heap_setCell _ _ _ _ (by simp; omega), Below.heap_setCell _ _ _ _ (by simp; omega), Below.heap_setCell _ _ _ _ (by simp; omega)]
      · exact ((hB.out.setCell (p := ⟨w.heap.size, 0, none⟩) (Nat.le_refl _) _).setCell (p := ⟨w.heap.size, 1, none⟩) (Nat.le_refl _) _).setCell (p := ⟨w.heap.size, 2, none⟩) (Nat.le_refl _) _

/-- Lists that have been made, as the program's own zero cells read. -/
def MadeM (w : World) (b : Nat) : Prop := Ents w b 0 (List.replicate 6 noM) ∧ Room w b 18
def MadeQ (w : World) (b : Nat) : Prop := Quads w b 0 (List.replicate 6 noS) ∧ Room w b 24
theorem getD_rep {α : Type} {n i : Nat} {x d : α} (h : i < n) : (List.replicate n x).getD i d = x := by simp [List.getD_eq_getElem?_getD, h]
theorem madeM_of (w : World) {b : Nat} (e : w.heap.size = b) : MadeM (w.alloc (.cells (madeCells #[.bool false, .int .i64 0, .bool false] 18) 35)) b := by
  subst e
  refine ⟨fun i hi => ?_, room_made _ _ _ _⟩
  simp only [List.length_replicate] at hi
  rw [getD_rep hi]
  have h : (w.alloc (.cells (madeCells #[.bool false, .int .i64 0, .bool false] 18) 35)).rangeAt w.heap.size (i * 3) [.bool false, .int .i64 0, .bool false] := range_made w [.bool false, .int .i64 0, .bool false] 6 35 i hi
  rw [Nat.zero_add]
  exact ⟨h 0 _ rfl, h 1 _ rfl, h 2 _ rfl⟩
theorem madeQ_of (w : World) {b : Nat} (e : w.heap.size = b) : MadeQ (w.alloc (.cells (madeCells #[.bool false, .int .i64 0, .int .i64 0, .bool false] 24) 49)) b := by
  subst e
  refine ⟨fun i hi => ?_, room_made _ _ _ _⟩
  simp only [List.length_replicate] at hi
  rw [getD_rep hi]
  have h : (w.alloc (.cells (madeCells #[.bool false, .int .i64 0, .int .i64 0, .bool false] 24) 49)).rangeAt w.heap.size (i * 4) [.bool false, .int .i64 0, .int .i64 0, .bool false] := range_made w [.bool false, .int .i64 0, .int .i64 0, .bool false] 6 49 i hi
  rw [Nat.zero_add]
  exact ⟨h 0 _ rfl, h 1 _ rfl, h 2 _ rfl, h 3 _ rfl⟩
theorem MadeM.lt {w : World} {b : Nat} (h : MadeM w b) : b < w.heap.size := by
  obtain ⟨v, hv⟩ := (h.2 0 (by omega)).1
  exact World.block_lt_of_cell? _ _ hv
theorem MadeQ.lt {w : World} {b : Nat} (h : MadeQ w b) : b < w.heap.size := by
  obtain ⟨v, hv⟩ := (h.2 0 (by omega)).1
  exact World.block_lt_of_cell? _ _ hv
theorem MadeM.same {w w' : World} {b : Nat} (h : MadeM w b) (s : SameIn b (b + 1) w w') : MadeM w' b := ⟨h.1.sameH s (Nat.le_refl _) (Nat.lt_succ_self _), h.2.same s (Nat.le_refl _) (Nat.lt_succ_self _)⟩
theorem MadeQ.same {w w' : World} {b : Nat} (h : MadeQ w b) (s : SameIn b (b + 1) w w') : MadeQ w' b := ⟨h.1.same s (Nat.le_refl _) (Nat.lt_succ_self _), h.2.same s (Nat.le_refl _) (Nat.lt_succ_self _)⟩
theorem MadeM.belowK {w w' : World} {b : Nat} (h : MadeM w b) (hB : Below w.heap.size w w') : MadeM w' b := h.same (below_sameIn hB h.lt)
theorem MadeQ.belowK {w w' : World} {b : Nat} (h : MadeQ w b) (hB : Below w.heap.size w w') : MadeQ w' b := h.same (below_sameIn hB h.lt)
theorem MadeM.allocK {w : World} {b : Nat} (h : MadeM w b) (ob : Obj) : MadeM (w.alloc ob) b := h.belowK ((Below.refl _ _).alloc (Nat.le_refl _) _)
theorem MadeQ.allocK {w : World} {b : Nat} (h : MadeQ w b) (ob : Obj) : MadeQ (w.alloc ob) b := h.belowK ((Below.refl _ _).alloc (Nat.le_refl _) _)
theorem MadeM.drewK {w : World} {b : Nat} (h : MadeM w b) : MadeM w.drew b := h
theorem MadeQ.drewK {w : World} {b : Nat} (h : MadeQ w b) : MadeQ w.drew b := h
theorem MadeM.otherK {w : World} {b b' j : Nat} {u : Value} (h : MadeM w b) (hb : b ≠ b') : MadeM (w.setCell ⟨b', j, none⟩ u) b := h.same fun k h1 h2 => Below.heap_setCell _ _ _ _ (by simp; omega)
theorem MadeQ.otherK {w : World} {b b' j : Nat} {u : Value} (h : MadeQ w b) (hb : b ≠ b') : MadeQ (w.setCell ⟨b', j, none⟩ u) b := h.same fun k h1 h2 => Below.heap_setCell _ _ _ _ (by simp; omega)

/-- A guest of whom all pages are out. -/
def outG (ms : List (List Int)) : Gst := ⟨List.replicate 6 noM, ms, List.replicate 6 noS⟩

set_option maxRecDepth 100000 in
set_option maxHeartbeats 8000000 in
theorem specGuest12 (lo hi : Nat) (a : Option Addr) (cap : Nat) (ms : List (List Int)) (w : World) (h : IsMem w lo hi a 6 ms) (hh : hi ≤ w.heap.size) (hL : ∀ i, i < 6 → 0 < (ms.getD i []).length ∧ (ms.getD i []).length ≤ 1048576) :
    Calls Try.prog 107 #[.slice a 6 cap] w fun e w' => ∃ vm vd vs, e = .returned (.agg #[vm, vd, vs]) ∧ OwnGuest w' w.heap.size w'.heap.size vm vd vs (outG ms) ∧ Below w.heap.size w w' := by
  obtain ⟨mk18, h18⟩ : ∃ c, c = madeCells #[.bool false, .int .i64 0, .bool false] 18 := ⟨_, rfl⟩
  obtain ⟨mk24, h24⟩ : ∃ c, c = madeCells #[.bool false, .int .i64 0, .int .i64 0, .bool false] 24 := ⟨_, rfl⟩
  have hb18 : ∀ (V : World) (b : Nat), V.heap.size = b → MadeM (V.alloc (.cells mk18 35)) b := fun V b e => by rw [h18]; exact madeM_of V e
  have hb24 : ∀ (V : World) (b : Nat), V.heap.size = b → MadeQ (V.alloc (.cells mk24 49)) b := fun V b e => by rw [h24]; exact madeQ_of V e
  have hm1 : ∀ w : World, (Instr.makeSlice 36 (.int .i64 6) (.int .i64 6)).run Try.prog w = .ok (.slice (some ⟨w.heap.size, 0, none⟩) 6 6) (w.alloc (.cells mk18 35)) := fun w => by rw [h18]; exact make_maps 6 (by omega) w
  have hm2 : ∀ w : World, (Instr.makeSlice 37 (.int .i64 6) (.int .i64 6)).run Try.prog w = .ok (.slice (some ⟨w.heap.size, 0, none⟩) 6 6) (w.alloc (.cells mk24 49)) := fun w => by rw [h24]; exact make_shades 6 (by omega) w
  clear h18 h24
  have hCp : ∀ W, Below w.heap.size w W → Var3 W w.heap.size (.slice none 0 0) (.slice none 0 0) (.slice none 0 0) → Calls Try.prog 92 #[.slice a 6 cap] W fun e w' => ∃ ad cd d0, d0 = W.heap.size ∧ e = .returned (.slice ad 6 cd) ∧ OwnMem w' d0 w'.heap.size ad 6 ms ∧ Below W.heap.size W w' ∧ Var3 w' w.heap.size (.slice none 0 0) (.slice none 0 0) (.slice none 0 0) ∧ w.heap.size < w'.heap.size := fun W hB hV => by
    refine (specCopy lo hi a 6 cap ms W (h.same (below_sameIn hB hh)) (Nat.le_trans hh hB.size) (by omega) hL).mono ?_
    rintro e w' ⟨ad, cd, rfl, hM, B1⟩
    have hlt : w.heap.size < W.heap.size := World.block_lt_of_cell? _ _ hV.1
    exact ⟨ad, cd, _, rfl, rfl, hM, B1, hV.same (B1.block _ hlt), Nat.lt_of_lt_of_le hlt B1.size⟩
  go_enter Try.func107, Try.ntmps107
  go_wp2_with (fail)
  go_cut [2, 3, 6] (fun s sm ss wx => ∃ bm bs ad cd d0 d1, s = .pointer (some ⟨w.heap.size, 0, none⟩) ∧ sm = .slice (some ⟨bm, 0, none⟩) 6 6 ∧ ss = .slice (some ⟨bs, 0, none⟩) 6 6 ∧ Var3 wx w.heap.size (.slice (some ⟨bm, 0, none⟩) 6 6) (.slice ad 6 cd) (.slice (some ⟨bs, 0, none⟩) 6 6) ∧ MadeM wx bm ∧ MadeQ wx bs ∧ OwnMem wx d0 d1 ad 6 ms ∧ Below w.heap.size w wx ∧ w.heap.size + 1 ≤ bm ∧ bm < wx.heap.size ∧ w.heap.size + 1 ≤ bs ∧ bs < wx.heap.size ∧ w.heap.size + 1 ≤ d0 ∧ d1 ≤ wx.heap.size ∧ bm ≠ bs ∧ (bm < d0 ∨ d1 ≤ bm) ∧ (bs < d0 ∨ d1 ≤ bs))
  case first =>
    go_region_with (go_at_call 92; refine (hCp _ (by (repeat' (with_reducible (first | exact Below.refl _ _ | apply Below.setCell | apply Below.alloc | apply below_drewN | apply Below.drew))) <;> (first | exact Nat.le_refl _ | (simp; done) | (simp; omega))) (by repeat' (with_reducible (first | exact var3_newK rfl | apply Var3.allocK | apply Var3.drewK)))).mono ?_; rintro e w1 ⟨ad, cd, d0, hd0, rfl, hM, B1, hV, hlt⟩; have hV' := hV; obtain ⟨v0, v1, v2, g0, g1, g2⟩ := hV')
    all_goals go_wp2_with fail
    all_goals go_meet
    all_goals go_light
    all_goals
      have hM18 := fun b (h : MadeM _ b) => h.belowK B1
      have hM24 := fun b (h : MadeQ _ b) => h.belowK B1
      have hvia := fun N W h1 h2 => belowVia (N := N) (w := W) B1 h1 h2
      have s1 := B1.size
      simp only [World.size_alloc, World.size_drew] at s1 hd0
      refine ⟨_, _, ad, cd, d0, w1.heap.size, rfl, rfl, rfl, ?_, ?_, ?_, ?_, ?_, ?_, ?_, ?_, ?_, ?_, ?_, ?_, ?_, ?_⟩
      · repeat' (with_reducible (first | exact hV.putAll _ _ _ | apply Var3.allocK | apply Var3.drewK))
      · (repeat' (with_reducible (first | (apply hb18; (simp only [World.size_alloc, World.size_drew, World.size_setCell]; done)) | apply MadeM.allocK | apply MadeM.drewK | apply MadeM.otherK | apply hM18))) <;> (first | omega | (simp; done) | (simp; omega))
      · (repeat' (with_reducible (first | (apply hb24; (simp only [World.size_alloc, World.size_drew, World.size_setCell]; done)) | apply MadeQ.allocK | apply MadeQ.drewK | apply MadeQ.otherK | apply hM24))) <;> (first | omega | (simp; done) | (simp; omega))
      · (repeat' (with_reducible (first | exact hM | apply OwnMem.allocK | apply OwnMem.drewK | apply OwnMem.otherK))) <;> (first | omega | (simp; done) | (simp; omega))
      · (repeat' (with_reducible (first | exact Below.refl _ _ | apply Below.setCell | apply Below.alloc | apply Below.drew | apply hvia))) <;> (first | exact Nat.le_refl _ | omega | (simp; done) | (simp; omega))
      all_goals (first | omega | (simp; done) | (simp; omega))
  case rest =>
    obtain ⟨bm, bs, ad, cd, d0, d1, rfl, rfl, rfl, hV, hM1, hM2, hM, hB, n1, n2, n3, n4, n5, n6, n7, n8, n9⟩ := hcut
    obtain ⟨v0, v1, v2, g0, g1, g2⟩ := hV
    have HM1 : Hid (MadeM wc bm) := hM1
    have HM2 : Hid (MadeQ wc bs) := hM2
    have HM : Hid (OwnMem wc d0 d1 ad 6 ms) := hM
    have HB : Hid (Below w.heap.size w wc) := hB
    have hl6 := h.1
    clear hM1 hM2 hM hB hCp hm1 hm2 hb18 hb24
    go_wp2
    refine bodyPost_ret (v := .agg #[.slice (some ⟨bm, 0, none⟩) 6 6, .slice ad 6 cd, .slice (some ⟨bs, 0, none⟩) 6 6]) (by simp [results, Try.results107, go_sem, *]) rfl ?_
    refine ⟨_, _, _, rfl, ⟨bm, bs, 6, 6, ad, cd, d0, d1, rfl, by rw [show (outG ms).disk = ms from rfl, hl6], rfl, HM1.out.1, HM1.out.2, HM2.out.1, HM2.out.2, by rw [show (outG ms).disk = ms from rfl, hl6]; exact HM.out, by omega, n2, by omega, n4, by omega, n6, n7, n8, n9⟩, HB.out⟩
end Go.Proofs.Ytjegndgdpmlbaaa

/-
  What the given HostLoad and HostNew do.
-/
set_option linter.unusedSimpArgs false
namespace Go.Proofs.Ytjegndgdpmlbaaa
open Go.RowKit
attribute [local go_sem ↓] Go.wp_at_zero Go.wp_at_succ exec_app
attribute [local go_sem] bigNext_ok

/-- Guests told by the values that lead to them, each in memory of its own, in which the row does not lie. -/
def GuestsVs (w : World) (row : Option Nat) (lo hi k : Nat) (gs : List Gst) (vs : List Value) : Prop :=
  ∃ ps qs : Nat → Nat, (∀ i, i < k → lo ≤ ps i ∧ qs i ≤ hi ∧ ∀ T, row = some T → (T < ps i ∨ qs i ≤ T)) ∧ (∀ i j, i < j → j < k → qs i ≤ ps j) ∧ ∀ i, i < k → ∃ vm vd vq, vs[i * 3]? = some vm ∧ vs[i * 3 + 1]? = some vd ∧ vs[i * 3 + 2]? = some vq ∧ OwnGuest w (ps i) (qs i) vm vd vq (gs.getD i noG)
theorem GuestsVs.nil (w : World) (row : Option Nat) (lo hi : Nat) (gs : List Gst) (vs : List Value) : GuestsVs w row lo hi 0 gs vs := ⟨fun _ => 0, fun _ => 0, fun i hi => by omega, fun i j _ _ => by omega, fun i hi => by omega⟩
theorem GuestsVs.step {wr w' w1 : World} {lo k g : Nat} {gs : List Gst} {vs : List Value} {row : Option Nat} {o : Obj} {vm vd vq : Value} (h : GuestsVs wr row lo wr.heap.size k gs vs) (hvs : vs.length = k * 3) (hlt : ∀ T, row = some T → T < wr.heap.size) (hlo : lo ≤ wr.heap.size)
    (B : Below wr.heap.size wr w') (hG : OwnGuest w' wr.heap.size w'.heap.size vm vd vq (gs.getD k noG)) (hg : (w'.alloc o).grownBy w1 row) (hat : row = some g ∨ g = w'.heap.size + 1) : GuestsVs w1 (some g) lo w1.heap.size (k + 1) gs (vs ++ [vm, vd, vq]) := by
  obtain ⟨ps, qs, h1, h2, h3⟩ := h
  have hs1 := hg.size
  rw [World.size_alloc] at hs1
  have hsB := B.size
  have sm : ∀ a b, b ≤ w'.heap.size → (∀ T, row = some T → (T < a ∨ b ≤ T)) → SameIn a b w' w1 := fun a b hb hT j j1 j2 => by
    rw [hg.block j (by rw [World.size_alloc]; omega) (fun e => by have := hT j e.symm; omega)]
    exact ((Below.refl w'.heap.size w').alloc (Nat.le_refl _) o).block j (by omega)
  obtain ⟨ps', e1, e2⟩ : ∃ ps' : Nat → Nat, ps' k = wr.heap.size ∧ ∀ i, i ≠ k → ps' i = ps i := ⟨fun i => if i = k then wr.heap.size else ps i, by simp, fun i h => by simp [h]⟩
  obtain ⟨qs', f1, f2⟩ : ∃ qs' : Nat → Nat, qs' k = w'.heap.size ∧ ∀ i, i ≠ k → qs' i = qs i := ⟨fun i => if i = k then w'.heap.size else qs i, by simp, fun i h => by simp [h]⟩
  refine ⟨ps', qs', fun i hi => ?_, fun i j hij hj => ?_, fun i hi => ?_⟩
  · by_cases hik : i = k
    · rw [hik, e1, f1]
      refine ⟨hlo, by omega, fun T hT => ?_⟩
      cases hT
      rcases hat with hat | hat
      · have := hlt g hat; omega
      · omega
    · rw [e2 i hik, f2 i hik]
      obtain ⟨a, b, c⟩ := h1 i (by omega)
      refine ⟨a, by omega, fun T hT => ?_⟩
      cases hT
      rcases hat with hat | hat
      · exact c g hat
      · omega
  · rw [f2 i (by omega)]
    have := (h1 i (by omega)).2.1
    by_cases hjk : j = k
    · rw [hjk, e1]; exact this
    · rw [e2 j hjk]; exact h2 i j hij (by omega)
  · by_cases hik : i = k
    · subst hik
      refine ⟨vm, vd, vq, ?_, ?_, ?_, ?_⟩
      · rw [List.getElem?_append_right (by omega), hvs]; simp
      · rw [List.getElem?_append_right (by omega), hvs, show i * 3 + 1 - i * 3 = 1 by omega]; rfl
      · rw [List.getElem?_append_right (by omega), hvs, show i * 3 + 2 - i * 3 = 2 by omega]; rfl
      · rw [e1, f1]
        exact hG.same (sm _ _ (Nat.le_refl _) (fun T hT => Or.inl (hlt T hT)))
    · obtain ⟨a, b, c, c0, c1, c2, hO⟩ := h3 i (by omega)
      obtain ⟨q1, q2, q3⟩ := h1 i (by omega)
      refine ⟨a, b, c, ?_, ?_, ?_, ?_⟩
      · rw [List.getElem?_append_left (by omega)]; exact c0
      · rw [List.getElem?_append_left (by omega)]; exact c1
      · rw [List.getElem?_append_left (by omega)]; exact c2
      · rw [e2 i hik, f2 i hik]
        exact (hO.same (below_sameIn B (by omega))).same (sm _ _ (by omega) q3)
theorem GuestsVs.put {w : World} {row : Option Nat} {lo hi k : Nat} {gs : List Gst} {vs : List Value} (h : GuestsVs w row lo hi k gs vs) {b j : Nat} (hb : b < lo) (u : Value) : GuestsVs (w.setCell ⟨b, j, none⟩ u) row lo hi k gs vs := by
  obtain ⟨ps, qs, h1, h2, h3⟩ := h
  refine ⟨ps, qs, h1, h2, fun i hi => ?_⟩
  obtain ⟨vm, vd, vq, c0, c1, c2, hO⟩ := h3 i hi
  have := (h1 i hi).1
  exact ⟨vm, vd, vq, c0, c1, c2, hO.same fun k h1 h2 => Below.heap_setCell _ _ _ _ (by simp; omega)⟩
theorem GuestsVs.guests {w : World} {lo hi n cg T lo' : Nat} {gs : List Gst} {vs : List Value} {t : TypeId} (h : GuestsVs w (some T) lo hi n gs vs) (ho : w.ownsRow lo' t 3 (.slice (some ⟨T, 0, none⟩) n cg) n vs) : GuestsUp w T lo hi n gs := by
  obtain ⟨ps, qs, h1, h2, h3⟩ := h
  refine ⟨ps, qs, fun i hi => ⟨(h1 i hi).1, (h1 i hi).2.1, (h1 i hi).2.2 T rfl⟩, h2, fun i hi => ?_⟩
  obtain ⟨vm, vd, vq, c0, c1, c2, hO⟩ := h3 i hi
  have k0 := ho.cells rfl _ _ c0
  have k1 := ho.cells rfl _ _ c1
  have k2 := ho.cells rfl _ _ c2
  rw [ad0] at k0 k1 k2
  exact ⟨vm, vd, vq, k0, k1, k2, hO⟩

theorem IsMem.part {w : World} {lo hi b o n : Nat} {ms : List (List Int)} (h : IsMem w lo hi (some ⟨b, o, none⟩) n ms) {k l : Nat} (hk : k + l ≤ n) : IsMem w lo hi (some ⟨b, o + k, none⟩) l ((ms.drop k).take l) := by
  obtain ⟨hl, h⟩ := h
  refine ⟨by rw [List.length_take, List.length_drop]; omega, ?_⟩
  rcases h with h | ⟨b', o', e, g1, g2, h⟩
  · exact Or.inl (by omega)
  · cases e
    refine Or.inr ⟨b, o + k, rfl, g1, g2, fun i hi => ?_⟩
    obtain ⟨a, m, c, q, hI⟩ := h (k + i) (by omega)
    refine ⟨a, m, c, by rw [Nat.add_assoc]; exact q, ?_⟩
    have : ((ms.drop k).take l).getD i [] = ms.getD (k + i) [] := by
      simp only [List.getD_eq_getElem?_getD]
      rw [List.getElem?_take_of_lt hi, List.getElem?_drop]
    rw [this]
    exact hI

/-- The cells of an owned row of guests may be written. -/
theorem own_roomV {w : World} {base : Nat} {t : TypeId} {n cap T : Nat} {vs : List Value} (h : w.ownsRow base t 3 (.slice (some ⟨T, 0, none⟩) n cap) n vs) : n ≤ cap ∧ Room w T (cap * 3) := by
  have hc := h
  obtain ⟨hlen, hd⟩ := h
  rcases hd with ⟨h0, _⟩ | ⟨g, c, cur, hv, _, hh, hnc, _, hsz, htk⟩
  · simp at h0
  · simp at hv
    obtain ⟨rfl, rfl⟩ := hv
    refine ⟨hnc, fun j hj => ⟨⟨cur[j]'(by omega), ?_⟩, ?_⟩⟩
    · simp [World.cell?, hh, Array.getElem?_eq_getElem (show j < cur.size by omega)]
    · simp [World.frozen?, hh]
/-- What the given HostLoad has behind k guests. -/
def LoadUp (w wr : World) (X k : Nat) (af : Option Addr) (cf : Nat) (ag : Option Addr) (cg : Nat) (gs : List Gst) : Prop :=
  Var3 wr X (.slice af 8 cf) (.slice ag k cg) (.int .i64 0) ∧ Var3 wr w.heap.size (.slice none 0 0) (.slice none 0 0) (.int .i64 0) ∧ OwnMem wr (w.heap.size + 1) X af 8 (zeroM 8) ∧ X < wr.heap.size ∧ w.heap.size < X ∧ Below w.heap.size w wr ∧
  ∃ vs, wr.ownsRow (X + 1) 39 3 (.slice ag k cg) k vs ∧ GuestsVs wr (Value.slice ag k cg).ownBlock (X + 1) wr.heap.size k gs vs

theorem loadUp_app {w wr W w' : World} {X k : Nat} {af : Option Addr} {cf : Nat} {ag : Option Addr} {cg : Nat} {gs : List Gst} (h : LoadUp w wr X k af cf ag cg gs) (hk : k ≤ 1000) (BW : Below wr.heap.size wr W) (hW : W.heap.size = wr.heap.size) (B : Below W.heap.size W w') {bm cm cd bs cs : Nat} {ad : Option Addr}
    (hG : OwnGuest w' W.heap.size w'.heap.size (.slice (some ⟨bm, 0, none⟩) 6 cm) (.slice ad 6 cd) (.slice (some ⟨bs, 0, none⟩) 6 cs) (gs.getD k noG)) :
    w'.cell? ⟨X, 1, none⟩ = some (.slice ag k cg) ∧ X < w'.heap.size ∧ ∃ g cap w1, appRun Try.prog 24 24 (.slice ag k cg) (.slice (some ⟨w'.heap.size, 0, none⟩) 1 1) (w'.alloc (.cells #[.slice (some ⟨bm, 0, none⟩) 6 cm, .slice ad 6 cd, .slice (some ⟨bs, 0, none⟩) 6 cs] 39)) = .ok (.slice (some ⟨g, 0, none⟩) (k + 1) cap) w1 ∧
      w1.cell? ⟨X, 1, none⟩ = some (.slice ag k cg) ∧ w1.frozen? ⟨X, 1, none⟩ = false ∧ Hid (LoadUp w (w1.setCell ⟨X, 1, none⟩ (.slice (some ⟨g, 0, none⟩) (k + 1) cap)) X (k + 1) af cf (some ⟨g, 0, none⟩) cap gs) := by
  obtain ⟨hX, h0, hM, hXl, hwX, hB, vs, hown, hgv⟩ := h
  obtain ⟨i0, hi0, hz0, hz1, hz2⟩ := info_parts infoG
  have BB : Below wr.heap.size wr w' := BW.trans (B.mono (Nat.le_of_eq hW.symm))
  have hs := BB.size
  have hown2 : (w'.alloc (.cells #[.slice (some ⟨bm, 0, none⟩) 6 cm, .slice ad 6 cd, .slice (some ⟨bs, 0, none⟩) 6 cs] 39)).ownsRow (X + 1) 39 3 (.slice ag k cg) k vs := by
    refine World.ownsRow.alloc (hown.kept (below_grown BB) ?_) _
    cases (Value.slice ag k cg).ownBlock
    · exact Or.inl rfl
    · exact Or.inr (by simp)
  have hnews := World.news_of_block (heap_alloc_new w' (.cells #[.slice (some ⟨bm, 0, none⟩) 6 cm, .slice ad 6 cd, .slice (some ⟨bs, 0, none⟩) 6 cs] 39))
  obtain ⟨g, cap, w1, hrun, hown1, hgrow, hat, hlt⟩ := run_append_lies (P := Try.prog) (w'.alloc (.cells #[.slice (some ⟨bm, 0, none⟩) 6 cm, .slice ad 6 cd, .slice (some ⟨bs, 0, none⟩) 6 cs] 39)) 24 24 (X + 1) 39 i0 _ 3 72 Try.underlying24 hi0 hz0 hz1 hz2 rfl (by decide) _ k vs hown2 ⟨w'.heap.size, 0, none⟩ 1 1 [.slice (some ⟨bm, 0, none⟩) 6 cm, .slice ad 6 cd, .slice (some ⟨bs, 0, none⟩) 6 cs] rfl hnews (by simp [Value.oneCell']) (by decide) (by unfold maxLen; omega) (by omega) (by simp; omega) (w'.heap.size + 1) (by simp)
  have hne : some X ≠ (Value.slice ag k cg).ownBlock := fun e => by have := (hown.lt _ e.symm).1; omega
  have hne0 : some w.heap.size ≠ (Value.slice ag k cg).ownBlock := fun e => by have := (hown.lt _ e.symm).1; omega
  have hX' := hX.same (BB.block X hXl)
  have hX1 : Var3 w1 X (.slice af 8 cf) (.slice ag k cg) (.int .i64 0) := (hX'.allocK _).same (hgrow.block X (by simp; omega) hne)
  have h01 : Var3 w1 w.heap.size (.slice none 0 0) (.slice none 0 0) (.int .i64 0) := ((h0.same (BB.block _ (by omega))).allocK _).same (hgrow.block _ (by simp; omega) hne0)
  have hs1 := hgrow.size
  rw [World.size_alloc] at hs1
  refine ⟨hX'.2.1, by omega, g, cap, w1, hrun, hX1.2.1, hX1.2.2.2.2.1, hX1.put1 _, ?_, ?_, by rw [World.size_setCell]; omega, hwX, ?_, _, ownsRow_setCell_below hown1 (a := ⟨X, 1, none⟩) (Nat.lt_succ_self _) _, ?_⟩
  · exact h01.same (Below.heap_setCell _ _ _ _ (by simp; omega))
  · refine hM.same fun j j1 j2 => ?_
    rw [Below.heap_setCell _ _ _ _ (by simp; omega), hgrow.block j (by simp; omega) (fun e => by have := (hown.lt _ e.symm).1; omega), ((Below.refl w'.heap.size w').alloc (Nat.le_refl _) _).block j (by omega)]
    exact BB.block j (by omega)
  · refine Below.setCell ?_ (p := ⟨X, 1, none⟩) (Nat.le_of_lt hwX) _
    exact Below.grown ((hB.trans (BB.mono hB.size)).alloc (by omega) _) hgrow (by simp; omega) (fun j hj => by have := (hown2.lt _ hj).1; omega)
  · rw [World.size_setCell]
    refine GuestsVs.put ?_ (Nat.lt_succ_self _) _
    have hvl : vs.length = k * 3 := hown.1
    rw [hW] at hG
    exact GuestsVs.step hgv hvl (fun T hT => (hown.lt _ hT).2) (by omega) BB hG hgrow hat

end Go.Proofs.Ytjegndgdpmlbaaa

/-
  What the given HostLoad and HostNew do, at every argument.
-/
set_option linter.unusedSimpArgs false
namespace Go.Proofs.Ytjegndgdpmlbaaa
open Go.RowKit
attribute [local go_sem ↓] Go.wp_at_zero Go.wp_at_succ exec_app
attribute [local go_sem] bigNext_ok
theorem newH_guests (n : Nat) (i : Nat) (hi : i < n) : ((List.range n).map (ldG (zeroM (n * 6)))).getD i noG = outG (zeroM 6) := by
  simp only [List.getD_eq_getElem?_getD, List.getElem?_map, List.getElem?_range hi, Option.map_some, Option.getD_some, ldG, outG, zeroM, List.drop_replicate, List.take_replicate]
  congr 2
  have := Nat.mul_le_mul_right 6 (show i + 1 ≤ n by omega)
  omega

set_option maxRecDepth 100000 in
set_option maxHeartbeats 8000000 in
theorem specHostNewR (n : Int) (w : World) :
    Calls Try.prog 99 #[.int .i64 n] w fun e w' => ∃ vf vg, e = .returned (.tuple #[.agg #[vf, vg, .int .i64 0], .bool (newB n)]) ∧ OwnHost w' w.heap.size w'.heap.size vf vg (newH n) ∧ Below w.heap.size w w' ∧ (newB n = true → ∃ T cg, vg = .slice (some ⟨T, 0, none⟩) n.toNat cg ∧ n.toNat ≤ cg ∧ Room w' T (cg * 3)) := by
  have hI := specIn n 1 2
  rw [show (decide (1 ≤ n) && decide (n ≤ 2)) = newB n from rfl] at hI
  cases hb : newB n
  · rw [show newH n = noH by rw [newH, hb]; rfl]
    rw [hb] at hI
    go_enter Try.func99, Try.ntmps99
    go_wp2_with (fail)
    refine (hI _).mono ?_
    rintro e w1 ⟨rfl, rfl⟩
    go_wp2
    refine bodyPost_ret (v := .tuple #[.agg #[.slice none 0 0, .slice none 0 0, .int .i64 0], .bool false]) (by simp [results, Try.results99, go_sem, *]) rfl ⟨_, _, rfl, ownHost_none _ (by simp), ?_, fun hc => by cases hc⟩
    (repeat' (with_reducible (first | exact Below.refl _ _ | apply Below.setCell | apply Below.alloc | apply below_drewN | apply Below.drew))) <;> (first | exact Nat.le_refl _ | (simp; done) | (simp; omega))
  · rw [hb] at hI
    have hn : 1 ≤ n ∧ n ≤ 2 := by simpa [newB] using hb
    obtain ⟨N, rfl⟩ := Int.eq_ofNat_of_zero_le (show 0 ≤ n by omega)
    have hN1 : 1 ≤ N := by omega
    have hN2 : N ≤ 2 := by omega
    have hlb : loadB (zeroM (N * 6)) = true := (loadB_nat (by simp [zeroM])).2 ⟨N, rfl, hN1, hN2, okM_zero _⟩
    rw [show newH (N : Int) = ⟨zeroM 8, (List.range N).map (ldG (zeroM (N * 6))), 0⟩ by rw [newH, hb, Int.toNat_natCast, cond_true, loadH_yes (n := N) (by simp [zeroM]) hlb]]
    have hgs : ∀ k, k < N → ((List.range N).map (ldG (zeroM (N * 6)))).getD k noG = outG (zeroM 6) := fun i hi => newH_guests N i hi
    have hgl : ((List.range N).map (ldG (zeroM (N * 6)))).length = N := by simp
    generalize (List.range N).map (ldG (zeroM (N * 6))) = gs at hgs hgl
    have B0 : Below w.heap.size w (w.alloc (.cells #[.slice none 0 0, .slice none 0 0, .int .i64 0] 26)) := (Below.refl _ _).alloc (Nat.le_refl _) _
    clear hb hn hlb
    go_enter Try.func99, Try.ntmps99
    go_wp2_with (fail)
    refine (hI _).mono ?_
    rintro e w1 ⟨rfl, rfl⟩
    go_wp2_with (fail)
    refine (specNew _).mono ?_
    rintro e w2 ⟨af, cf, rfl, hM2, B2⟩
    rw [World.size_alloc] at hM2 B2
    clear hI
    go_wp2_with (fail)
    go_loopw [5] (fun i wr => ∃ k : Nat, ∃ ag cg, k ≤ N ∧ i = .int .i64 k ∧ Hid (LoadUp w wr w2.heap.size k af cf ag cg gs)) (fun i _ => N - (intOf i).toNat)
    case atStart =>
      go_light
      have hs2 := B2.size
      rw [World.size_alloc] at hs2
      refine ⟨0, none, 0, Nat.zero_le _, rfl, var3_newK rfl, ?_, ?_, by simp, by omega, ?_, [], World.ownsRow_nil _ _ _ _, GuestsVs.nil _ _ _ _ _ _⟩
      · exact Var3.allocK ((var3_new w (.slice none 0 0) (.slice none 0 0) (.int .i64 0) 26).same (B2.block _ (by omega))) _
      · exact hM2.same (below_sameIn ((Below.refl _ _).alloc (Nat.le_refl _) _) (Nat.le_refl _))
      · exact (B0.trans (B2.mono (Nat.le_succ _))).alloc (by omega) _
    case round =>
      obtain ⟨k, ag, cg, hk, rfl, hU⟩ := hrel
      by_cases hkl : k < N
      · have hki : (k : Int) < (N : Int) := by omega
        have hU' := hU.out
        obtain ⟨⟨x0, x1, x2, y0, y1, y2⟩, _, _, hXl, hwX, hB, _⟩ := hU'
        have hCm : ∀ W, Below wr.heap.size wr W → W.heap.size = wr.heap.size → Calls Try.prog 108 #[.int .i64 6] W fun e w' => ∃ a c, e = .returned (.slice a 6 c) ∧ w'.cell? ⟨w2.heap.size, 1, none⟩ = some (.slice ag k cg) ∧ w2.heap.size < w'.heap.size ∧ Hid (Below W.heap.size W w') ∧ Hid (OwnMem w' wr.heap.size w'.heap.size a 6 (zeroM 6)) := fun W hBW hsW => by
          refine (specMemNew_yes 6 W (by omega)).mono ?_
          rintro e w' ⟨a, c, rfl, hM, _, B'⟩
          rw [hsW] at hM
          have hBB := hBW.trans (B'.mono (Nat.le_of_eq hsW.symm))
          exact ⟨a, c, rfl, (hBB.cell (p := ⟨w2.heap.size, 1, none⟩) hXl).trans x1, Nat.lt_of_lt_of_le hXl hBB.size, B', hM⟩
        have hCg : ∀ (W W' : World) (a : Option Addr) (c : Nat), Below wr.heap.size wr W → W.heap.size = wr.heap.size → Below W.heap.size W W' → OwnMem W' wr.heap.size W'.heap.size a 6 (zeroM 6) → Calls Try.prog 107 #[.slice a 6 c] W' fun e w' => ∃ bm cm ad cd bs cs, e = .returned (.agg #[.slice (some ⟨bm, 0, none⟩) 6 cm, .slice ad 6 cd, .slice (some ⟨bs, 0, none⟩) 6 cs]) ∧ w'.cell? ⟨w2.heap.size, 1, none⟩ = some (.slice ag k cg) ∧ w2.heap.size < w'.heap.size ∧ ∃ g cap w1, appRun Try.prog 24 24 (.slice ag k cg) (.slice (some ⟨w'.heap.size, 0, none⟩) 1 1) (w'.alloc (.cells #[.slice (some ⟨bm, 0, none⟩) 6 cm, .slice ad 6 cd, .slice (some ⟨bs, 0, none⟩) 6 cs] 39)) = .ok (.slice (some ⟨g, 0, none⟩) (k + 1) cap) w1 ∧
            w1.cell? ⟨w2.heap.size, 1, none⟩ = some (.slice ag k cg) ∧ w1.frozen? ⟨w2.heap.size, 1, none⟩ = false ∧ Hid (LoadUp w (w1.setCell ⟨w2.heap.size, 1, none⟩ (.slice (some ⟨g, 0, none⟩) (k + 1) cap)) w2.heap.size (k + 1) af cf (some ⟨g, 0, none⟩) cap gs) := fun W W' a c hBW hsW BWW hMW => by
          refine (specGuest12 wr.heap.size W'.heap.size a c (zeroM 6) W' hMW.mem (Nat.le_refl _) (fun i hi => by rw [zeroM_get hi]; simp)).mono ?_
          rintro e w' ⟨vm, vd, vs, rfl, hG, B'⟩
          have hG' := hG
          obtain ⟨bm, bs, cm, cs, ad, cd, d0, d1, rfl, rfl, rfl, _⟩ := hG'
          have hsWW := BWW.size
          have hG2 : OwnGuest w' W.heap.size w'.heap.size (.slice (some ⟨bm, 0, none⟩) 6 cm) (.slice ad 6 cd) (.slice (some ⟨bs, 0, none⟩) 6 cs) (gs.getD k noG) := by
            rw [hgs k hkl]
            exact hG.wide hsWW (Nat.le_refl _)
          obtain ⟨q1, q2, q3⟩ := loadUp_app hU.out (by omega) hBW hsW (BWW.trans (B'.mono hsWW)) hG2
          exact ⟨bm, cm, ad, cd, bs, cs, rfl, q1, q2, q3⟩
        go_wp2_with (fail)
        go_region_with (first | (go_at_call 108; refine (hCm _ ((Below.refl _ _).drew) rfl).mono ?_; rintro e w4 ⟨a4, c4, rfl, z3, z4, HB4, HM4⟩) | (go_at_call 107; refine (hCg wr.drew _ _ _ ((Below.refl _ _).drew) rfl HB4.out HM4.out).mono ?_; rintro e w5 ⟨bm, cm, ad, cd, bs, cs, rfl, z1, z2, g, cp, w6, hApp, x6, f6, HN⟩))
        all_goals
          clear hApp hCg hCm
          go_wp2
          go_roundw
          case rel => exact ⟨k + 1, _, _, by omega, by go_num, HN⟩
          case measure => simp [intOf]; omega
      · have hkk : k = N := by omega
        subst hkk
        obtain ⟨⟨x0, x1, x2, y0, y1, y2⟩, ⟨d0, d1, d2, e0, e1, e2⟩, hM, hXl, hwX, hB, vs, hown, hgv⟩ := hU.out
        obtain ⟨T, cg', e, hT1, hT2⟩ := hown.form (by omega)
        cases e
        have hwb : w.heap.size < wr.heap.size := by omega
        have HO : Hid (OwnHost wr (w.heap.size + 1) wr.heap.size (.slice af 8 cf) (.slice (some ⟨T, 0, none⟩) k cg) ⟨zeroM 8, gs, 0⟩) :=
          ⟨af, cf, _, _, rfl, hM, Nat.le_refl _, by omega, _, cg, by rw [hgl], Or.inr ⟨T, w2.heap.size + 1, rfl, by omega, hT2, Or.inr (by omega), by omega, by omega, by rw [hgl]; exact hgv.guests hown⟩⟩
        have HRm := (show Hid (k ≤ cg ∧ Room wr T (cg * 3)) from own_roomV hown)
        have hTl : w.heap.size < T := by omega
        clear hM hown hgv hU
        go_wp2
        refine bodyPost_ret (v := .tuple #[.agg #[.slice af 8 cf, .slice (some ⟨T, 0, none⟩) k cg, .int .i64 0], .bool true]) (by simp [results, Try.results99, go_sem, *]) rfl ?_
        have s5 : SameIn (w.heap.size + 1) wr.heap.size wr (((wr.setCell ⟨w.heap.size, 0, none⟩ (.slice af 8 cf)).setCell ⟨w.heap.size, 1, none⟩ (.slice (some ⟨T, 0, none⟩) k cg)).setCell ⟨w.heap.size, 2, none⟩ (.int .i64 0)) := fun j k1 k2 => by
          rw [Below.heap_setCell _ _ _ _ (by simp; omega), Below.heap_setCell _ _ _ _ (by simp; omega), Below.heap_setCell _ _ _ _ (by simp; omega)]
        refine ⟨_, _, rfl, OwnHost.wide (lo := w.heap.size + 1) (hi := wr.heap.size) (OwnHost.same s5 HO.out) (by omega) (by simp), ?_, fun _ => ⟨T, cg, by rw [Int.toNat_natCast], by rw [Int.toNat_natCast]; exact HRm.out.1, ?_⟩⟩
        · exact ((hB.setCell (p := ⟨w.heap.size, 0, none⟩) (Nat.le_refl _) _).setCell (p := ⟨w.heap.size, 1, none⟩) (Nat.le_refl _) _).setCell (p := ⟨w.heap.size, 2, none⟩) (Nat.le_refl _) _
        · exact Room.same (lo := T) (hi := T + 1) (fun j k1 k2 => by rw [Below.heap_setCell _ _ _ _ (by simp; omega), Below.heap_setCell _ _ _ _ (by simp; omega), Below.heap_setCell _ _ _ _ (by simp; omega)]) HRm.out.2 (Nat.le_refl _) (Nat.lt_succ_self _)
end Go.Proofs.Ytjegndgdpmlbaaa
