/-
  What the given functions that make hosts do.
-/
import Derived.Test.YtpaeigmdhmmjmaaKHostLoad1
import Derived.Deep.AppendLies
import Derived.Deep.RegionLaw
set_option linter.unusedSimpArgs false
namespace Go.Proofs.Ytpaeigmdhmmjmaa
open Go.RowKit
attribute [local go_sem ↓] Go.wp_at_zero Go.wp_at_succ

/-- The three cells of a variable, all of them to be written. -/
def Var3 (w : World) (b : Nat) (x y z : Value) : Prop := w.cell? ⟨b, 0, none⟩ = some x ∧ w.cell? ⟨b, 1, none⟩ = some y ∧ w.cell? ⟨b, 2, none⟩ = some z ∧ w.frozen? ⟨b, 0, none⟩ = false ∧ w.frozen? ⟨b, 1, none⟩ = false ∧ w.frozen? ⟨b, 2, none⟩ = false
theorem Var3.same {w w' : World} {b : Nat} {x y z : Value} (h : Var3 w b x y z) (e : w'.heap[b]? = w.heap[b]?) : Var3 w' b x y z := by
  obtain ⟨h0, h1, h2, f0, f1, f2⟩ := h
  exact ⟨(World.cell?_of_block (a := ⟨b, 0, none⟩) e).trans h0, (World.cell?_of_block (a := ⟨b, 1, none⟩) e).trans h1, (World.cell?_of_block (a := ⟨b, 2, none⟩) e).trans h2, (World.frozen?_of_block (a := ⟨b, 0, none⟩) e).trans f0, (World.frozen?_of_block (a := ⟨b, 1, none⟩) e).trans f1, (World.frozen?_of_block (a := ⟨b, 2, none⟩) e).trans f2⟩
theorem Var3.put0 {w : World} {b : Nat} {x y z : Value} (h : Var3 w b x y z) (u : Value) : Var3 (w.setCell ⟨b, 0, none⟩ u) b u y z := by
  obtain ⟨h0, h1, h2, f0, f1, f2⟩ := h
  exact ⟨cellk_same h0, cellk_else h1 (by omega), cellk_else h2 (by omega), by rw [frozen_put]; exact f0, by rw [frozen_put]; exact f1, by rw [frozen_put]; exact f2⟩
theorem Var3.put1 {w : World} {b : Nat} {x y z : Value} (h : Var3 w b x y z) (u : Value) : Var3 (w.setCell ⟨b, 1, none⟩ u) b x u z := by
  obtain ⟨h0, h1, h2, f0, f1, f2⟩ := h
  exact ⟨cellk_else h0 (by omega), cellk_same h1, cellk_else h2 (by omega), by rw [frozen_put]; exact f0, by rw [frozen_put]; exact f1, by rw [frozen_put]; exact f2⟩
theorem var3_new (w : World) (x y z : Value) (t : TypeId) : Var3 (w.alloc (.cells #[x, y, z] t)) w.heap.size x y z := by
  refine ⟨?_, ?_, ?_, ?_, ?_, ?_⟩ <;> simp

theorem var3_newK {w : World} {b : Nat} {x y z : Value} {t : TypeId} (e : w.heap.size = b) : Var3 (w.alloc (.cells #[x, y, z] t)) b x y z := by subst e; exact var3_new w x y z t
theorem Var3.lt {w : World} {b : Nat} {x y z : Value} (h : Var3 w b x y z) : b < w.heap.size := World.block_lt_of_cell? _ _ h.1
theorem Var3.belowK {w w' : World} {b : Nat} {x y z : Value} (h : Var3 w b x y z) (hB : Below w.heap.size w w') : Var3 w' b x y z := h.same (hB.block _ h.lt)
theorem Var3.allocK {w : World} {b : Nat} {x y z : Value} (h : Var3 w b x y z) (ob : Obj) : Var3 (w.alloc ob) b x y z := h.belowK ((Below.refl _ _).alloc (Nat.le_refl _) _)
theorem Var3.drewK {w : World} {b : Nat} {x y z : Value} (h : Var3 w b x y z) : Var3 w.drew b x y z := h
theorem Var3.putAll {w : World} {b : Nat} {x y z : Value} (h : Var3 w b x y z) (x' y' z' : Value) : Var3 (((w.setCell ⟨b, 0, none⟩ x').setCell ⟨b, 1, none⟩ y').setCell ⟨b, 2, none⟩ z') b x' y' z' := by
  have k := (h.put0 x').put1 y'
  obtain ⟨h0, h1, h2, f0, f1, f2⟩ := k
  exact ⟨cellk_else h0 (by omega), cellk_else h1 (by omega), cellk_same h2, by rw [frozen_put]; exact f0, by rw [frozen_put]; exact f1, by rw [frozen_put]; exact f2⟩
theorem PagesUp.setBelow {w : World} {lo k : Nat} {ms : List (List Int)} {vs : List Value} (h : PagesUp w lo k ms vs) {b j : Nat} (hb : b < lo) (u : Value) : PagesUp (w.setCell ⟨b, j, none⟩ u) lo k ms vs := by
  obtain ⟨hv, bs, cs, hm, h⟩ := h
  exact ⟨hv, bs, cs, hm, fun i hi => ⟨(h i hi).1, ownsRow_setCell_below (h i hi).2 (a := ⟨b, j, none⟩) hb u⟩⟩

/-- An append, kept shut: by one hypothesis on it. -/
def appRun (P : Program) (t ty : TypeId) (x y : Value) (w : World) : Result Value := (Builtin.append_ #[t, t] ty #[x, y]).run P w
theorem exec_app {P : Program} (ρ : Operand → Value) (dst : Option Tmp) (t ty : TypeId) (pos : String) (after : Array _) (guard : Option _) (x y : Operand) (w : World) :
    (execOp ρ ⟨dst, .call { callee := .builtin .append, args := #[x, y], argTypes := #[t, t] }, ty, pos, after, guard⟩).run P w = bigNext (appRun P t ty (ρ x) (ρ y) w) := by
  unfold appRun execOp
  simp only [resolve, invoke, builtin, Sem.run_bind, Sem.run_pure, Result.andThen_ok, List.map_toArray, List.map_cons, List.map_nil]
  cases (Builtin.append_ #[t, t] ty #[ρ x, ρ y]).run P w <;> rfl
attribute [local go_sem ↓] exec_app
attribute [local go_sem] bigNext_ok

set_option maxRecDepth 100000 in
set_option maxHeartbeats 4000000 in
theorem specNew (w : World) : Calls Try.prog 32 #[] w fun e w' => ∃ a c, e = .returned (.agg #[.slice a 8 c, .slice none 0 0, .int .i64 0]) ∧ OwnMem w' w.heap.size w'.heap.size a 8 (zeroM 8) ∧ Below w.heap.size w w' := by
  obtain ⟨i1, hi1, hy0, hy1, hy2⟩ := info_parts infoS
  go_enter Try.func32, Try.ntmps32
  go_wp2_with (fail)
  go_loopw [2] (fun i wr => ∃ k : Nat, ∃ a c vs, k ≤ 8 ∧ i = .int .i64 k ∧ Hid (Var3 wr (w.heap.size + 1) (.slice a k c) (.slice none 0 0) (.int .i64 0)) ∧ Hid (Var3 wr w.heap.size (.slice none 0 0) (.slice none 0 0) (.int .i64 0)) ∧ Hid (wr.ownsRow (w.heap.size + 2) 45 1 (.slice a k c) k vs) ∧ Hid (PagesUp wr (w.heap.size + 2) k (zeroM 8) vs) ∧ w.heap.size + 2 ≤ wr.heap.size ∧ Hid (Below w.heap.size w wr)) (fun i _ => 8 - (intOf i).toNat)
  case atStart =>
    refine ⟨0, none, 0, [], Nat.zero_le _, rfl, ?_, ?_, ⟨rfl, Or.inl ⟨rfl, rfl⟩⟩, ⟨rfl, fun _ => 0, fun _ => 0, fun i j h1 h2 => by omega, fun i hi => by omega⟩, ?_, ?_⟩
    · have := var3_new (w.alloc (.cells #[.slice none 0 0, .slice none 0 0, .int .i64 0] 25)) (.slice none 0 0) (.slice none 0 0) (.int .i64 0) 25
      rwa [World.size_alloc] at this
    · exact (var3_new w (.slice none 0 0) (.slice none 0 0) (.int .i64 0) 25).same (w' := (w.alloc (.cells #[.slice none 0 0, .slice none 0 0, .int .i64 0] 25)).alloc (.cells #[.slice none 0 0, .slice none 0 0, .int .i64 0] 25)) (((Below.refl (w.heap.size + 1) (w.alloc (.cells #[.slice none 0 0, .slice none 0 0, .int .i64 0] 25))).alloc (Nat.le_of_eq (World.size_alloc _ _).symm) _).block _ (by omega))
    · simp
    · show Below w.heap.size w _
      (repeat' (with_reducible (first | exact Below.refl _ _ | apply Below.setCell | apply Below.alloc | apply below_drewN | apply Below.drew))) <;> (first | exact Nat.le_refl _ | (simp; done) | (simp; omega))
  case round =>
    obtain ⟨k, a, c, vs, hk, rfl, hv1, hv0, hown, hP, hsz, hB⟩ := hrel
    by_cases hkl : k < 8
    · have hki : (k : Int) < 8 := by omega
      obtain ⟨c0, c1, c2, f0, f1, f2⟩ := hv1.out
      have hne : some (w.heap.size + 1) ≠ (Value.slice a k c).ownBlock := fun e => by have := (hown.out.lt _ e.symm).1; omega
      have hne0 : some w.heap.size ≠ (Value.slice a k c).ownBlock := fun e => by have := (hown.out.lt _ e.symm).1; omega
      have hown2 : (((wr.alloc (.cells (madeCells #[.int .i64 0] 4) 3)).alloc (.cells #[.slice (some ⟨wr.heap.size, 0, none⟩) 4 4] 45)).drew).ownsRow (w.heap.size + 2) 45 1 (.slice a k c) k vs := (hown.out.alloc (.cells (madeCells #[.int .i64 0] 4) 3)).alloc (.cells #[.slice (some ⟨wr.heap.size, 0, none⟩) 4 4] 45)
      have HC := one_new (wr.alloc (.cells (madeCells #[.int .i64 0] 4) 3)) (.slice (some ⟨wr.heap.size, 0, none⟩) 4 4) 45
      rw [World.size_alloc] at HC
      have B2 : Below wr.heap.size wr ((wr.alloc (.cells (madeCells #[.int .i64 0] 4) 3)).alloc (.cells #[.slice (some ⟨wr.heap.size, 0, none⟩) 4 4] 45)).drew := (((Below.refl wr.heap.size wr).alloc (Nat.le_refl _) _).alloc (by simp) _).drew
      have z0 := (B2.cell (p := ⟨w.heap.size + 1, 0, none⟩) (by simp; omega)).trans c0
      have zf := (B2.frozen (p := ⟨w.heap.size + 1, 0, none⟩) (by simp; omega)).trans f0
      obtain ⟨g, cap, w1, hrun, hown1, hgrow, hat, hlt⟩ := run_append_lies (P := Try.prog) (((wr.alloc (.cells (madeCells #[.int .i64 0] 4) 3)).alloc (.cells #[.slice (some ⟨wr.heap.size, 0, none⟩) 4 4] 45)).drew) 22 22 (w.heap.size + 2) 45 i1 (.slice none 0 0) 1 24 Try.underlying22 hi1 hy0 hy1 hy2 rfl (by decide) _ k vs hown2 ⟨wr.heap.size + 1, 0, none⟩ 1 1 [.slice (some ⟨wr.heap.size, 0, none⟩) 4 4] rfl HC (by simp [Value.oneCell']) (by decide) (by unfold maxLen; omega) (by omega) (by simp; omega) (wr.heap.size + 2) (by simp)
      have hApp : appRun Try.prog 22 22 (.slice a k c) (.slice (some ⟨wr.heap.size + 1, 0, none⟩) 1 1) ((wr.alloc (.cells (madeCells #[.int .i64 0] 4) 3)).alloc (.cells #[.slice (some ⟨wr.heap.size, 0, none⟩) 4 4] 45)).drew = .ok (.slice (some ⟨g, 0, none⟩) (k + 1) cap) w1 := hrun
      have x0 := (hgrow.cell_far ⟨w.heap.size + 1, 0, none⟩ (by simp; omega) hne).trans z0
      have xf := (hgrow.frozen_far ⟨w.heap.size + 1, 0, none⟩ (by simp; omega) hne).trans zf
      have hwb : w.heap.size + 1 < wr.heap.size := by omega
      have hwb1 : w.heap.size + 1 < wr.heap.size + 1 := by omega
      have hg := zeroM_get hkl
      have own2 : (wr.alloc (.cells (madeCells #[.int .i64 0] 4) 3)).ownsRow (w.heap.size + 2) 3 1 (.slice (some ⟨wr.heap.size, 0, none⟩) 4 4) 4 (zv ((zeroM 8).getD k [])) := by
        rw [hg]
        exact own_down (own_made wr _) hsz
      have HN : Hid (Var3 (w1.setCell ⟨w.heap.size + 1, 0, none⟩ (.slice (some ⟨g, 0, none⟩) (k + 1) cap)) (w.heap.size + 1) (.slice (some ⟨g, 0, none⟩) (k + 1) cap) (.slice none 0 0) (.int .i64 0) ∧ Var3 (w1.setCell ⟨w.heap.size + 1, 0, none⟩ (.slice (some ⟨g, 0, none⟩) (k + 1) cap)) w.heap.size (.slice none 0 0) (.slice none 0 0) (.int .i64 0) ∧
          (w1.setCell ⟨w.heap.size + 1, 0, none⟩ (.slice (some ⟨g, 0, none⟩) (k + 1) cap)).ownsRow (w.heap.size + 2) 45 1 (.slice (some ⟨g, 0, none⟩) (k + 1) cap) (k + 1) (vs ++ [.slice (some ⟨wr.heap.size, 0, none⟩) 4 4]) ∧
          PagesUp (w1.setCell ⟨w.heap.size + 1, 0, none⟩ (.slice (some ⟨g, 0, none⟩) (k + 1) cap)) (w.heap.size + 2) (k + 1) (zeroM 8) (vs ++ [.slice (some ⟨wr.heap.size, 0, none⟩) 4 4]) ∧
          w.heap.size + 2 ≤ (w1.setCell ⟨w.heap.size + 1, 0, none⟩ (.slice (some ⟨g, 0, none⟩) (k + 1) cap)).heap.size ∧ Below w.heap.size w (w1.setCell ⟨w.heap.size + 1, 0, none⟩ (.slice (some ⟨g, 0, none⟩) (k + 1) cap))) := by
        have hs1 := hgrow.size
        simp only [World.size_drew, World.size_alloc] at hs1
        refine ⟨?_, ?_, ?_, ?_, ?_, ?_⟩
        · exact Var3.put0 (hv1.out.same ((hgrow.block (w.heap.size + 1) (by simp; omega) hne).trans (B2.block _ (by omega)))) _
        · refine (hv0.out.same ?_)
          rw [Below.heap_setCell _ _ _ _ (by simp), hgrow.block w.heap.size (by simp; omega) hne0]
          exact B2.block _ (by omega)
        · exact ownsRow_setCell_below hown1 (a := ⟨w.heap.size + 1, 0, none⟩) (by simp) _
        · refine PagesUp.setBelow ?_ (by omega) _
          have k1 : PagesUp ((wr.alloc (.cells (madeCells #[.int .i64 0] 4) 3)).alloc (.cells #[.slice (some ⟨wr.heap.size, 0, none⟩) 4 4] 45)) (w.heap.size + 2) (k + 1) (zeroM 8) (vs ++ [.slice (some ⟨wr.heap.size, 0, none⟩) 4 4]) :=
            PagesUp.snoc hP.out ((hP.out.kept (below_grown ((Below.refl wr.heap.size wr).alloc (Nat.le_refl _) _)) (fun T e => by cases e)).kept (below_grown ((Below.refl _ _).alloc (Nat.le_refl _) _)) (fun T e => by cases e)) (Nat.le_refl _) (by rw [hg]; rfl) (own2.alloc _)
          exact PagesUp.kept (w := ((wr.alloc (.cells (madeCells #[.int .i64 0] 4) 3)).alloc (.cells #[.slice (some ⟨wr.heap.size, 0, none⟩) 4 4] 45)).drew) k1 hgrow (own_row hown2)
        · rw [World.size_setCell]; omega
        · refine Below.setCell ?_ (p := ⟨w.heap.size + 1, 0, none⟩) (Nat.le_succ _) _
          exact Below.grown (hB.out.trans (B2.mono (by omega))) hgrow (by simp; omega) (fun j hj => by have := (hown2.lt _ hj).1; omega)
      clear hrun hown1 hgrow hat hlt hown2 HC z0 zf B2 own2 hg hown hP
      go_wp2_with (fail)
      go_region_with (go_at_call 56; refine (specPage _).mono ?_; rintro e w' ⟨rfl, rfl⟩)
      all_goals
        clear hApp
        go_wp2
        go_roundw
        case rel =>
          obtain ⟨n1, n2, n3, n4, n5, n6⟩ := HN.out
          exact ⟨k + 1, _, _, _, by omega, by go_num, n1, n2, n3, n4, n5, n6⟩
        case measure => simp [intOf]; omega
    · have hkk : k = 8 := by omega
      subst hkk
      obtain ⟨a3, c3, hv3, hM, hc3⟩ := own_mem hP.out (by simp [zeroM]) hown.out
      cases hv3
      obtain ⟨c0, c1, c2, f0, f1, f2⟩ := hv1.out
      obtain ⟨d0, d1, d2, e0, e1, e2⟩ := hv0.out
      have hwb : w.heap.size < wr.heap.size := by omega
      have HM : Hid (OwnMem wr (w.heap.size + 2) wr.heap.size a 8 (zeroM 8)) := hM
      clear hM hown hP hc3
      go_wp2_with (fail)
      refine bodyPost_ret (v := .agg #[.slice a 8 c, .slice none 0 0, .int .i64 0]) (by simp [results, Try.results32, go_sem, *]) rfl ?_
      refine ⟨_, _, rfl, ?_, ?_⟩
      · refine OwnMem.wide (lo := w.heap.size + 2) (hi := wr.heap.size) (OwnMem.same ?_ HM.out) (by omega) (by simp)
        intro j j1 j2
        rw [Below.heap_setCell _ _ _ _ (by simp; omega), Below.heap_setCell _ _ _ _ (by simp; omega), Below.heap_setCell _ _ _ _ (by simp; omega)]
      · exact ((hB.out.setCell (p := ⟨w.heap.size, 0, none⟩) (Nat.le_refl _) _).setCell (p := ⟨w.heap.size, 1, none⟩) (Nat.le_refl _) _).setCell (p := ⟨w.heap.size, 2, none⟩) (Nat.le_refl _) _

/-- Lists that have been made, as the program's own zero cells read. -/
def MadeM (w : World) (b : Nat) : Prop := Ents w b 0 (List.replicate 6 noM) ∧ Room w b 18
def MadeQ (w : World) (b : Nat) : Prop := Quads w b 0 (List.replicate 6 noS) ∧ Room w b 24
theorem getD_rep {α : Type} {n i : Nat} {x d : α} (h : i < n) : (List.replicate n x).getD i d = x := by simp [List.getD_eq_getElem?_getD, h]
theorem madeM_of (w : World) {b : Nat} (e : w.heap.size = b) : MadeM (w.alloc (.cells (madeCells #[.bool false, .int .i64 0, .bool false] 18) 64)) b := by
  subst e
  refine ⟨fun i hi => ?_, room_made _ _ _ _⟩
  simp only [List.length_replicate] at hi
  rw [getD_rep hi]
  have h : (w.alloc (.cells (madeCells #[.bool false, .int .i64 0, .bool false] 18) 64)).rangeAt w.heap.size (i * 3) [.bool false, .int .i64 0, .bool false] := range_made w [.bool false, .int .i64 0, .bool false] 6 64 i hi
  rw [Nat.zero_add]
  exact ⟨h 0 _ rfl, h 1 _ rfl, h 2 _ rfl⟩
theorem madeQ_of (w : World) {b : Nat} (e : w.heap.size = b) : MadeQ (w.alloc (.cells (madeCells #[.bool false, .int .i64 0, .int .i64 0, .bool false] 24) 67)) b := by
  subst e
  refine ⟨fun i hi => ?_, room_made _ _ _ _⟩
  simp only [List.length_replicate] at hi
  rw [getD_rep hi]
  have h : (w.alloc (.cells (madeCells #[.bool false, .int .i64 0, .int .i64 0, .bool false] 24) 67)).rangeAt w.heap.size (i * 4) [.bool false, .int .i64 0, .int .i64 0, .bool false] := range_made w [.bool false, .int .i64 0, .int .i64 0, .bool false] 6 67 i hi
  rw [Nat.zero_add]
  exact ⟨h 0 _ rfl, h 1 _ rfl, h 2 _ rfl, h 3 _ rfl⟩
theorem MadeM.lt {w : World} {b : Nat} (h : MadeM w b) : b < w.heap.size := by
  obtain ⟨v, hv⟩ := (h.2 0 (by omega)).1
  exact World.block_lt_of_cell? _ _ hv
theorem MadeQ.lt {w : World} {b : Nat} (h : MadeQ w b) : b < w.heap.size := by
  obtain ⟨v, hv⟩ := (h.2 0 (by omega)).1
  exact World.block_lt_of_cell? _ _ hv
theorem MadeM.same {w w' : World} {b : Nat} (h : MadeM w b) (s : SameIn b (b + 1) w w') : MadeM w' b := ⟨h.1.sameH s (Nat.le_refl _) (Nat.lt_succ_self _), h.2.same s (Nat.le_refl _) (Nat.lt_succ_self _)⟩
theorem MadeQ.same {w w' : World} {b : Nat} (h : MadeQ w b) (s : SameIn b (b + 1) w w') : MadeQ w' b := ⟨h.1.same s (Nat.le_refl _) (Nat.lt_succ_self _), h.2.same s (Nat.le_refl _) (Nat.lt_succ_self _)⟩
theorem MadeM.belowK {w w' : World} {b : Nat} (h : MadeM w b) (hB : Below w.heap.size w w') : MadeM w' b := h.same (below_sameIn hB h.lt)
theorem MadeQ.belowK {w w' : World} {b : Nat} (h : MadeQ w b) (hB : Below w.heap.size w w') : MadeQ w' b := h.same (below_sameIn hB h.lt)
theorem MadeM.allocK {w : World} {b : Nat} (h : MadeM w b) (ob : Obj) : MadeM (w.alloc ob) b := h.belowK ((Below.refl _ _).alloc (Nat.le_refl _) _)
theorem MadeQ.allocK {w : World} {b : Nat} (h : MadeQ w b) (ob : Obj) : MadeQ (w.alloc ob) b := h.belowK ((Below.refl _ _).alloc (Nat.le_refl _) _)
theorem MadeM.drewK {w : World} {b : Nat} (h : MadeM w b) : MadeM w.drew b := h
theorem MadeQ.drewK {w : World} {b : Nat} (h : MadeQ w b) : MadeQ w.drew b := h
theorem MadeM.otherK {w : World} {b b' j : Nat} {u : Value} (h : MadeM w b) (hb : b ≠ b') : MadeM (w.setCell ⟨b', j, none⟩ u) b := h.same fun k h1 h2 => Below.heap_setCell _ _ _ _ (by simp; omega)
theorem MadeQ.otherK {w : World} {b b' j : Nat} {u : Value} (h : MadeQ w b) (hb : b ≠ b') : MadeQ (w.setCell ⟨b', j, none⟩ u) b := h.same fun k h1 h2 => Below.heap_setCell _ _ _ _ (by simp; omega)

/-- A guest of whom all pages are out. -/
def outG (ms : List (List Int)) : Gst := ⟨List.replicate 6 noM, ms, List.replicate 6 noS⟩

set_option maxRecDepth 100000 in
set_option maxHeartbeats 8000000 in
theorem specGuest12 (lo hi : Nat) (a : Option Addr) (cap : Nat) (ms : List (List Int)) (w : World) (h : IsMem w lo hi a 6 ms) (hh : hi ≤ w.heap.size) (hL : ∀ i, i < 6 → 0 < (ms.getD i []).length ∧ (ms.getD i []).length ≤ 1048576) :
    Calls Try.prog 33 #[.slice a 6 cap] w fun e w' => ∃ vm vd vs, e = .returned (.agg #[vm, vd, vs]) ∧ OwnGuest w' w.heap.size w'.heap.size vm vd vs (outG ms) ∧ Below w.heap.size w w' := by
  obtain ⟨mk18, h18⟩ : ∃ c, c = madeCells #[.bool false, .int .i64 0, .bool false] 18 := ⟨_, rfl⟩
  obtain ⟨mk24, h24⟩ : ∃ c, c = madeCells #[.bool false, .int .i64 0, .int .i64 0, .bool false] 24 := ⟨_, rfl⟩
  have hb18 : ∀ (V : World) (b : Nat), V.heap.size = b → MadeM (V.alloc (.cells mk18 64)) b := fun V b e => by rw [h18]; exact madeM_of V e
  have hb24 : ∀ (V : World) (b : Nat), V.heap.size = b → MadeQ (V.alloc (.cells mk24 67)) b := fun V b e => by rw [h24]; exact madeQ_of V e
  have hm1 : ∀ w : World, (Instr.makeSlice 51 (.int .i64 6) (.int .i64 6)).run Try.prog w = .ok (.slice (some ⟨w.heap.size, 0, none⟩) 6 6) (w.alloc (.cells mk18 64)) := fun w => by rw [h18]; exact make_maps 6 (by omega) w
  have hm2 : ∀ w : World, (Instr.makeSlice 52 (.int .i64 6) (.int .i64 6)).run Try.prog w = .ok (.slice (some ⟨w.heap.size, 0, none⟩) 6 6) (w.alloc (.cells mk24 67)) := fun w => by rw [h24]; exact make_shades 6 (by omega) w
  clear h18 h24
  have hCp : ∀ W, Below w.heap.size w W → Var3 W w.heap.size (.slice none 0 0) (.slice none 0 0) (.slice none 0 0) → Calls Try.prog 57 #[.slice a 6 cap] W fun e w' => ∃ ad cd d0, d0 = W.heap.size ∧ e = .returned (.slice ad 6 cd) ∧ OwnMem w' d0 w'.heap.size ad 6 ms ∧ Below W.heap.size W w' ∧ Var3 w' w.heap.size (.slice none 0 0) (.slice none 0 0) (.slice none 0 0) ∧ w.heap.size < w'.heap.size := fun W hB hV => by
    refine (specCopy lo hi a 6 cap ms W (h.same (below_sameIn hB hh)) (Nat.le_trans hh hB.size) (by omega) hL).mono ?_
    rintro e w' ⟨ad, cd, rfl, hM, B1⟩
    have hlt : w.heap.size < W.heap.size := World.block_lt_of_cell? _ _ hV.1
    exact ⟨ad, cd, _, rfl, rfl, hM, B1, hV.same (B1.block _ hlt), Nat.lt_of_lt_of_le hlt B1.size⟩
  go_enter Try.func33, Try.ntmps33
  go_wp2_with (fail)
  go_cut [2, 3, 6] (fun s sm ss wx => ∃ bm bs ad cd d0 d1, s = .pointer (some ⟨w.heap.size, 0, none⟩) ∧ sm = .slice (some ⟨bm, 0, none⟩) 6 6 ∧ ss = .slice (some ⟨bs, 0, none⟩) 6 6 ∧ Var3 wx w.heap.size (.slice (some ⟨bm, 0, none⟩) 6 6) (.slice ad 6 cd) (.slice (some ⟨bs, 0, none⟩) 6 6) ∧ MadeM wx bm ∧ MadeQ wx bs ∧ OwnMem wx d0 d1 ad 6 ms ∧ Below w.heap.size w wx ∧ w.heap.size + 1 ≤ bm ∧ bm < wx.heap.size ∧ w.heap.size + 1 ≤ bs ∧ bs < wx.heap.size ∧ w.heap.size + 1 ≤ d0 ∧ d1 ≤ wx.heap.size ∧ bm ≠ bs ∧ (bm < d0 ∨ d1 ≤ bm) ∧ (bs < d0 ∨ d1 ≤ bs))
  case first =>
    go_region_with (go_at_call 57; refine (hCp _ (by (repeat' (with_reducible (first | exact Below.refl _ _ | apply Below.setCell | apply Below.alloc | apply below_drewN | apply Below.drew))) <;> (first | exact Nat.le_refl _ | (simp; done) | (simp; omega))) (by repeat' (with_reducible (first | exact var3_newK rfl | apply Var3.allocK | apply Var3.drewK)))).mono ?_; rintro e w1 ⟨ad, cd, d0, hd0, rfl, hM, B1, hV, hlt⟩; have hV' := hV; obtain ⟨v0, v1, v2, g0, g1, g2⟩ := hV')
    all_goals go_wp2_with fail
    all_goals go_meet
    all_goals go_light
    all_goals
      have hM18 := fun b (h : MadeM _ b) => h.belowK B1
      have hM24 := fun b (h : MadeQ _ b) => h.belowK B1
      have hvia := fun N W h1 h2 => belowVia (N := N) (w := W) B1 h1 h2
      have s1 := B1.size
      simp only [World.size_alloc, World.size_drew] at s1 hd0
      refine ⟨_, _, ad, cd, d0, w1.heap.size, rfl, rfl, rfl, ?_, ?_, ?_, ?_, ?_, ?_, ?_, ?_, ?_, ?_, ?_, ?_, ?_, ?_⟩
      · repeat' (with_reducible (first | exact hV.putAll _ _ _ | apply Var3.allocK | apply Var3.drewK))
      · (repeat' (with_reducible (first | (apply hb18; (simp only [World.size_alloc, World.size_drew, World.size_setCell]; done)) | apply MadeM.allocK | apply MadeM.drewK | apply MadeM.otherK | apply hM18))) <;> (first | omega | (simp; done) | (simp; omega))
      · (repeat' (with_reducible (first | (apply hb24; (simp only [World.size_alloc, World.size_drew, World.size_setCell]; done)) | apply MadeQ.allocK | apply MadeQ.drewK | apply MadeQ.otherK | apply hM24))) <;> (first | omega | (simp; done) | (simp; omega))
      · (repeat' (with_reducible (first | exact hM | apply OwnMem.allocK | apply OwnMem.drewK | apply OwnMem.otherK))) <;> (first | omega | (simp; done) | (simp; omega))
      · (repeat' (with_reducible (first | exact Below.refl _ _ | apply Below.setCell | apply Below.alloc | apply Below.drew | apply hvia))) <;> (first | exact Nat.le_refl _ | omega | (simp; done) | (simp; omega))
      all_goals (first | omega | (simp; done) | (simp; omega))
  case rest =>
    obtain ⟨bm, bs, ad, cd, d0, d1, rfl, rfl, rfl, hV, hM1, hM2, hM, hB, n1, n2, n3, n4, n5, n6, n7, n8, n9⟩ := hcut
    obtain ⟨v0, v1, v2, g0, g1, g2⟩ := hV
    have HM1 : Hid (MadeM wc bm) := hM1
    have HM2 : Hid (MadeQ wc bs) := hM2
    have HM : Hid (OwnMem wc d0 d1 ad 6 ms) := hM
    have HB : Hid (Below w.heap.size w wc) := hB
    have hl6 := h.1
    clear hM1 hM2 hM hB hCp hm1 hm2 hb18 hb24
    go_wp2
    refine bodyPost_ret (v := .agg #[.slice (some ⟨bm, 0, none⟩) 6 6, .slice ad 6 cd, .slice (some ⟨bs, 0, none⟩) 6 6]) (by simp [results, Try.results33, go_sem, *]) rfl ?_
    refine ⟨_, _, _, rfl, ⟨bm, bs, 6, 6, ad, cd, d0, d1, rfl, by rw [show (outG ms).disk = ms from rfl, hl6], rfl, HM1.out.1, HM1.out.2, HM2.out.1, HM2.out.2, by rw [show (outG ms).disk = ms from rfl, hl6]; exact HM.out, by omega, n2, by omega, n4, by omega, n6, n7, n8, n9⟩, HB.out⟩
end Go.Proofs.Ytpaeigmdhmmjmaa
