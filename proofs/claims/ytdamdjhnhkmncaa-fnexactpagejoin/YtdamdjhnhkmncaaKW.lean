/-
  What the given functions that make hosts do.
-/
import Derived.Test.YtdamdjhnhkmncaaKHostLoad1
import Derived.Deep.AppendLies
import Derived.Deep.RegionLaw
set_option linter.unusedSimpArgs false
namespace Go.Proofs.Ytdamdjhnhkmncaa
open Go.RowKit
attribute [local go_sem ↓] Go.wp_at_zero Go.wp_at_succ

/-- The three cells of a variable, all of them to be written. -/
def Var3 (w : World) (b : Nat) (x y z : Value) : Prop := w.cell? ⟨b, 0, none⟩ = some x ∧ w.cell? ⟨b, 1, none⟩ = some y ∧ w.cell? ⟨b, 2, none⟩ = some z ∧ w.frozen? ⟨b, 0, none⟩ = false ∧ w.frozen? ⟨b, 1, none⟩ = false ∧ w.frozen? ⟨b, 2, none⟩ = false
theorem Var3.same {w w' : World} {b : Nat} {x y z : Value} (h : Var3 w b x y z) (e : w'.heap[b]? = w.heap[b]?) : Var3 w' b x y z := by
  obtain ⟨h0, h1, h2, f0, f1, f2⟩ := h
  exact ⟨(World.cell?_of_block (a := ⟨b, 0, none⟩) e).trans h0, (World.cell?_of_block (a := ⟨b, 1, none⟩) e).trans h1, (World.cell?_of_block (a := ⟨b, 2, none⟩) e).trans h2, (World.frozen?_of_block (a := ⟨b, 0, none⟩) e).trans f0, (World.frozen?_of_block (a := ⟨b, 1, none⟩) e).trans f1, (World.frozen?_of_block (a := ⟨b, 2, none⟩) e).trans f2⟩
theorem Var3.put0 {w : World} {b : Nat} {x y z : Value} (h : Var3 w b x y z) (u : Value) : Var3 (w.setCell ⟨b, 0, none⟩ u) b u y z := by
  obtain ⟨h0, h1, h2, f0, f1, f2⟩ := h
  exact ⟨cellk_same h0, cellk_else h1 (by omega), cellk_else h2 (by omega), by rw [frozen_put]; exact f0, by rw [frozen_put]; exact f1, by rw [frozen_put]; exact f2⟩
theorem Var3.put1 {w : World} {b : Nat} {x y z : Value} (h : Var3 w b x y z) (u : Value) : Var3 (w.setCell ⟨b, 1, none⟩ u) b x u z := by
  obtain ⟨h0, h1, h2, f0, f1, f2⟩ := h
  exact ⟨cellk_else h0 (by omega), cellk_same h1, cellk_else h2 (by omega), by rw [frozen_put]; exact f0, by rw [frozen_put]; exact f1, by rw [frozen_put]; exact f2⟩
theorem var3_new (w : World) (x y z : Value) (t : TypeId) : Var3 (w.alloc (.cells #[x, y, z] t)) w.heap.size x y z := by
  refine ⟨?_, ?_, ?_, ?_, ?_, ?_⟩ <;> simp

theorem var3_newK {w : World} {b : Nat} {x y z : Value} {t : TypeId} (e : w.heap.size = b) : Var3 (w.alloc (.cells #[x, y, z] t)) b x y z := by subst e; exact var3_new w x y z t
theorem Var3.lt {w : World} {b : Nat} {x y z : Value} (h : Var3 w b x y z) : b < w.heap.size := World.block_lt_of_cell? _ _ h.1
theorem Var3.belowK {w w' : World} {b : Nat} {x y z : Value} (h : Var3 w b x y z) (hB : Below w.heap.size w w') : Var3 w' b x y z := h.same (hB.block _ h.lt)
theorem Var3.allocK {w : World} {b : Nat} {x y z : Value} (h : Var3 w b x y z) (ob : Obj) : Var3 (w.alloc ob) b x y z := h.belowK ((Below.refl _ _).alloc (Nat.le_refl _) _)
theorem Var3.drewK {w : World} {b : Nat} {x y z : Value} (h : Var3 w b x y z) : Var3 w.drew b x y z := h
theorem Var3.putAll {w : World} {b : Nat} {x y z : Value} (h : Var3 w b x y z) (x' y' z' : Value) : Var3 (((w.setCell ⟨b, 0, none⟩ x').setCell ⟨b, 1, none⟩ y').setCell ⟨b, 2, none⟩ z') b x' y' z' := by
  have k := (h.put0 x').put1 y'
  obtain ⟨h0, h1, h2, f0, f1, f2⟩ := k
  exact ⟨cellk_else h0 (by omega), cellk_else h1 (by omega), cellk_same h2, by rw [frozen_put]; exact f0, by rw [frozen_put]; exact f1, by rw [frozen_put]; exact f2⟩

/-- An append, kept shut: by one hypothesis on it. -/
def appRun (P : Program) (t ty : TypeId) (x y : Value) (w : World) : Result Value := (Builtin.append_ #[t, t] ty #[x, y]).run P w
theorem exec_app {P : Program} (ρ : Operand → Value) (dst : Option Tmp) (t ty : TypeId) (pos : String) (after : Array _) (guard : Option _) (x y : Operand) (w : World) :
    (execOp ρ ⟨dst, .call { callee := .builtin .append, args := #[x, y], argTypes := #[t, t] }, ty, pos, after, guard⟩).run P w = bigNext (appRun P t ty (ρ x) (ρ y) w) := by
  unfold appRun execOp
  simp only [resolve, invoke, builtin, Sem.run_bind, Sem.run_pure, Result.andThen_ok, List.map_toArray, List.map_cons, List.map_nil]
  cases (Builtin.append_ #[t, t] ty #[ρ x, ρ y]).run P w <;> rfl
attribute [local go_sem ↓] exec_app
attribute [local go_sem] bigNext_ok

/-- Lists that have been made, as the program's own zero cells read. -/
def MadeM (w : World) (b : Nat) : Prop := Ents w b 0 (List.replicate 6 noM) ∧ Room w b 18
def MadeQ (w : World) (b : Nat) : Prop := Quads w b 0 (List.replicate 6 noS) ∧ Room w b 24
theorem MadeM.lt {w : World} {b : Nat} (h : MadeM w b) : b < w.heap.size := by
  obtain ⟨v, hv⟩ := (h.2 0 (by omega)).1
  exact World.block_lt_of_cell? _ _ hv
theorem MadeQ.lt {w : World} {b : Nat} (h : MadeQ w b) : b < w.heap.size := by
  obtain ⟨v, hv⟩ := (h.2 0 (by omega)).1
  exact World.block_lt_of_cell? _ _ hv
theorem MadeM.same {w w' : World} {b : Nat} (h : MadeM w b) (s : SameIn b (b + 1) w w') : MadeM w' b := ⟨h.1.sameH s (Nat.le_refl _) (Nat.lt_succ_self _), h.2.same s (Nat.le_refl _) (Nat.lt_succ_self _)⟩
theorem MadeQ.same {w w' : World} {b : Nat} (h : MadeQ w b) (s : SameIn b (b + 1) w w') : MadeQ w' b := ⟨h.1.same s (Nat.le_refl _) (Nat.lt_succ_self _), h.2.same s (Nat.le_refl _) (Nat.lt_succ_self _)⟩
theorem MadeM.belowK {w w' : World} {b : Nat} (h : MadeM w b) (hB : Below w.heap.size w w') : MadeM w' b := h.same (below_sameIn hB h.lt)
theorem MadeQ.belowK {w w' : World} {b : Nat} (h : MadeQ w b) (hB : Below w.heap.size w w') : MadeQ w' b := h.same (below_sameIn hB h.lt)
theorem MadeM.allocK {w : World} {b : Nat} (h : MadeM w b) (ob : Obj) : MadeM (w.alloc ob) b := h.belowK ((Below.refl _ _).alloc (Nat.le_refl _) _)
theorem MadeQ.allocK {w : World} {b : Nat} (h : MadeQ w b) (ob : Obj) : MadeQ (w.alloc ob) b := h.belowK ((Below.refl _ _).alloc (Nat.le_refl _) _)
theorem MadeM.drewK {w : World} {b : Nat} (h : MadeM w b) : MadeM w.drew b := h
theorem MadeQ.drewK {w : World} {b : Nat} (h : MadeQ w b) : MadeQ w.drew b := h
theorem MadeM.otherK {w : World} {b b' j : Nat} {u : Value} (h : MadeM w b) (hb : b ≠ b') : MadeM (w.setCell ⟨b', j, none⟩ u) b := h.same fun k h1 h2 => Below.heap_setCell _ _ _ _ (by simp; omega)
theorem MadeQ.otherK {w : World} {b b' j : Nat} {u : Value} (h : MadeQ w b) (hb : b ≠ b') : MadeQ (w.setCell ⟨b', j, none⟩ u) b := h.same fun k h1 h2 => Below.heap_setCell _ _ _ _ (by simp; omega)

end Go.Proofs.Ytdamdjhnhkmncaa

/-
  What the given HostLoad and HostNew do.
-/
set_option linter.unusedSimpArgs false
namespace Go.Proofs.Ytdamdjhnhkmncaa
open Go.RowKit
attribute [local go_sem ↓] Go.wp_at_zero Go.wp_at_succ exec_app
attribute [local go_sem] bigNext_ok

/-- Guests told by the values that lead to them, each in memory of its own, in which the row does not lie. -/
def GuestsVs (w : World) (row : Option Nat) (lo hi k : Nat) (gs : List Gst) (vs : List Value) : Prop :=
  ∃ ps qs : Nat → Nat, (∀ i, i < k → lo ≤ ps i ∧ qs i ≤ hi ∧ ∀ T, row = some T → (T < ps i ∨ qs i ≤ T)) ∧ (∀ i j, i < j → j < k → qs i ≤ ps j) ∧ ∀ i, i < k → ∃ vm vd vq, vs[i * 3]? = some vm ∧ vs[i * 3 + 1]? = some vd ∧ vs[i * 3 + 2]? = some vq ∧ OwnGuest w (ps i) (qs i) vm vd vq (gs.getD i noG)
theorem GuestsVs.nil (w : World) (row : Option Nat) (lo hi : Nat) (gs : List Gst) (vs : List Value) : GuestsVs w row lo hi 0 gs vs := ⟨fun _ => 0, fun _ => 0, fun i hi => by omega, fun i j _ _ => by omega, fun i hi => by omega⟩
theorem GuestsVs.step {wr w' w1 : World} {lo k g : Nat} {gs : List Gst} {vs : List Value} {row : Option Nat} {o : Obj} {vm vd vq : Value} (h : GuestsVs wr row lo wr.heap.size k gs vs) (hvs : vs.length = k * 3) (hlt : ∀ T, row = some T → T < wr.heap.size) (hlo : lo ≤ wr.heap.size)
    (B : Below wr.heap.size wr w') (hG : OwnGuest w' wr.heap.size w'.heap.size vm vd vq (gs.getD k noG)) (hg : (w'.alloc o).grownBy w1 row) (hat : row = some g ∨ g = w'.heap.size + 1) : GuestsVs w1 (some g) lo w1.heap.size (k + 1) gs (vs ++ [vm, vd, vq]) := by
  obtain ⟨ps, qs, h1, h2, h3⟩ := h
  have hs1 := hg.size
  rw [World.size_alloc] at hs1
  have hsB := B.size
  have sm : ∀ a b, b ≤ w'.heap.size → (∀ T, row = some T → (T < a ∨ b ≤ T)) → SameIn a b w' w1 := fun a b hb hT j j1 j2 => by
    rw [hg.block j (by rw [World.size_alloc]; omega) (fun e => by have := hT j e.symm; omega)]
    exact ((Below.refl w'.heap.size w').alloc (Nat.le_refl _) o).block j (by omega)
  obtain ⟨ps', e1, e2⟩ : ∃ ps' : Nat → Nat, ps' k = wr.heap.size ∧ ∀ i, i ≠ k → ps' i = ps i := ⟨fun i => if i = k then wr.heap.size else ps i, by simp, fun i h => by simp [h]⟩
  obtain ⟨qs', f1, f2⟩ : ∃ qs' : Nat → Nat, qs' k = w'.heap.size ∧ ∀ i, i ≠ k → qs' i = qs i := ⟨fun i => if i = k then w'.heap.size else qs i, by simp, fun i h => by simp [h]⟩
  refine ⟨ps', qs', fun i hi => ?_, fun i j hij hj => ?_, fun i hi => ?_⟩
  · by_cases hik : i = k
    · rw [hik, e1, f1]
      refine ⟨hlo, by omega, fun T hT => ?_⟩
      cases hT
      rcases hat with hat | hat
      · have := hlt g hat; omega
      · omega
    · rw [e2 i hik, f2 i hik]
      obtain ⟨a, b, c⟩ := h1 i (by omega)
      refine ⟨a, by omega, fun T hT => ?_⟩
      cases hT
      rcases hat with hat | hat
      · exact c g hat
      · omega
  · rw [f2 i (by omega)]
    have := (h1 i (by omega)).2.1
    by_cases hjk : j = k
    · rw [hjk, e1]; exact this
    · rw [e2 j hjk]; exact h2 i j hij (by omega)
  · by_cases hik : i = k
    · subst hik
      refine ⟨vm, vd, vq, ?_, ?_, ?_, ?_⟩
      · rw [List.getElem?_append_right (by omega), hvs]; simp
      · rw [List.getElem?_append_right (by omega), hvs, show i * 3 + 1 - i * 3 = 1 by omega]; rfl
      · rw [List.getElem?_append_right (by omega), hvs, show i * 3 + 2 - i * 3 = 2 by omega]; rfl
      · rw [e1, f1]
        exact hG.same (sm _ _ (Nat.le_refl _) (fun T hT => Or.inl (hlt T hT)))
    · obtain ⟨a, b, c, c0, c1, c2, hO⟩ := h3 i (by omega)
      obtain ⟨q1, q2, q3⟩ := h1 i (by omega)
      refine ⟨a, b, c, ?_, ?_, ?_, ?_⟩
      · rw [List.getElem?_append_left (by omega)]; exact c0
      · rw [List.getElem?_append_left (by omega)]; exact c1
      · rw [List.getElem?_append_left (by omega)]; exact c2
      · rw [e2 i hik, f2 i hik]
        exact (hO.same (below_sameIn B (by omega))).same (sm _ _ (by omega) q3)
theorem GuestsVs.put {w : World} {row : Option Nat} {lo hi k : Nat} {gs : List Gst} {vs : List Value} (h : GuestsVs w row lo hi k gs vs) {b j : Nat} (hb : b < lo) (u : Value) : GuestsVs (w.setCell ⟨b, j, none⟩ u) row lo hi k gs vs := by
  obtain ⟨ps, qs, h1, h2, h3⟩ := h
  refine ⟨ps, qs, h1, h2, fun i hi => ?_⟩
  obtain ⟨vm, vd, vq, c0, c1, c2, hO⟩ := h3 i hi
  have := (h1 i hi).1
  exact ⟨vm, vd, vq, c0, c1, c2, hO.same fun k h1 h2 => Below.heap_setCell _ _ _ _ (by simp; omega)⟩
theorem GuestsVs.guests {w : World} {lo hi n cg T lo' : Nat} {gs : List Gst} {vs : List Value} {t : TypeId} (h : GuestsVs w (some T) lo hi n gs vs) (ho : w.ownsRow lo' t 3 (.slice (some ⟨T, 0, none⟩) n cg) n vs) : GuestsUp w T lo hi n gs := by
  obtain ⟨ps, qs, h1, h2, h3⟩ := h
  refine ⟨ps, qs, fun i hi => ⟨(h1 i hi).1, (h1 i hi).2.1, (h1 i hi).2.2 T rfl⟩, h2, fun i hi => ?_⟩
  obtain ⟨vm, vd, vq, c0, c1, c2, hO⟩ := h3 i hi
  have k0 := ho.cells rfl _ _ c0
  have k1 := ho.cells rfl _ _ c1
  have k2 := ho.cells rfl _ _ c2
  rw [ad0] at k0 k1 k2
  exact ⟨vm, vd, vq, k0, k1, k2, hO⟩

theorem IsMem.part {w : World} {lo hi b o n : Nat} {ms : List (List Int)} (h : IsMem w lo hi (some ⟨b, o, none⟩) n ms) {k l : Nat} (hk : k + l ≤ n) : IsMem w lo hi (some ⟨b, o + k, none⟩) l ((ms.drop k).take l) := by
  obtain ⟨hl, h⟩ := h
  refine ⟨by rw [List.length_take, List.length_drop]; omega, ?_⟩
  rcases h with h | ⟨b', o', e, g1, g2, h⟩
  · exact Or.inl (by omega)
  · cases e
    refine Or.inr ⟨b, o + k, rfl, g1, g2, fun i hi => ?_⟩
    obtain ⟨a, m, c, q, hI⟩ := h (k + i) (by omega)
    refine ⟨a, m, c, by rw [Nat.add_assoc]; exact q, ?_⟩
    have : ((ms.drop k).take l).getD i [] = ms.getD (k + i) [] := by
      simp only [List.getD_eq_getElem?_getD]
      rw [List.getElem?_take_of_lt hi, List.getElem?_drop]
    rw [this]
    exact hI

end Go.Proofs.Ytdamdjhnhkmncaa

/-
  What the given HostLoad and HostNew do, at every argument.
-/
set_option linter.unusedSimpArgs false
namespace Go.Proofs.Ytdamdjhnhkmncaa
open Go.RowKit
attribute [local go_sem ↓] Go.wp_at_zero Go.wp_at_succ exec_app
attribute [local go_sem] bigNext_ok

end Go.Proofs.Ytdamdjhnhkmncaa
