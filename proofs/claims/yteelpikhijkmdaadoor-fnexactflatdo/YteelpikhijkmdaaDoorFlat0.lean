/-
  Rows of entries that a call has made.
-/
import Derived.Test.YteelpikhijkmdaaDoorEnts0
namespace Go.Proofs.YteelpikhijkmdaaDoor
open Go.RowKit

/-- The cells of entries. -/
def flat (es : List E3) : List Value := es.flatMap fun x => [.bool x.1, .int .i64 x.2.1, .bool x.2.2]

theorem flat_snoc {es : List E3} {k : Nat} (hk : k < es.length) {a : Bool} {p : Int} {c : Bool} (h : es.getD k (false, 0, false) = (a, p, c)) : flat (es.take (k + 1)) = flat (es.take k) ++ [.bool a, .int .i64 p, .bool c] := by
  have hg : es[k] = (a, p, c) := by rw [← h, List.getD_eq_getElem?_getD, List.getElem?_eq_getElem hk]; rfl
  rw [List.take_succ_eq_append_getElem hk, hg]
  simp [flat]

theorem flat_len (es : List E3) : (flat es).length = es.length * 3 := by
  induction es with
  | nil => rfl
  | cons x es ih => simp only [flat, List.flatMap_cons, List.length_append, List.length_cons, List.length_nil] at ih ⊢; omega

theorem flat_get (es : List E3) (i : Nat) (hi : i < es.length) :
    (flat es)[i * 3]? = some (.bool (es.getD i (false, 0, false)).1) ∧ (flat es)[i * 3 + 1]? = some (.int .i64 (es.getD i (false, 0, false)).2.1) ∧ (flat es)[i * 3 + 2]? = some (.bool (es.getD i (false, 0, false)).2.2) := by
  induction es generalizing i with
  | nil => simp at hi
  | cons x es ih =>
    have hx : flat (x :: es) = .bool x.1 :: .int .i64 x.2.1 :: .bool x.2.2 :: flat es := rfl
    cases i with
    | zero => rw [hx]; simp
    | succ i =>
      have := ih i (by simpa using hi)
      rw [hx, show (i + 1) * 3 = i * 3 + 3 by omega]
      simpa using this

theorem cell_three_new (w : World) (a b c : Value) (t : TypeId) : ∀ j u, [a, b, c][j]? = some u → (w.alloc (.cells #[a, b, c] t)).cell? ((⟨w.heap.size, 0, none⟩ : Addr).add j) = some u := by
  intro j u hj
  match j, hj with
  | 0, hj => simp at hj; subst hj; simp [Addr.add]
  | 1, hj => simp at hj; subst hj; simp [Addr.add]
  | 2, hj => simp at hj; subst hj; simp [Addr.add]
  | j + 3, hj => simp at hj

/-- What a row that the call owns holds, as entries. -/
theorem ents_own {w : World} {base : Nat} {t : TypeId} {v : Value} {n : Nat} {es : List E3} (h : w.ownsRow base t 3 v n (flat es)) (hn : 0 < n) :
    ∃ T cap, v = .slice (some ⟨T, 0, none⟩) n cap ∧ base ≤ T ∧ T < w.heap.size ∧ Ents w T 0 es := by
  have hc := h
  obtain ⟨hlen, hd⟩ := h
  rcases hd with ⟨_, h0⟩ | ⟨g, cap, cur, rfl, hg, hh, _⟩
  · omega
  · have hlt := (hc.lt g rfl).2
    refine ⟨g, cap, rfl, hg, hlt, fun i hi => ?_⟩
    obtain ⟨e0, e1, e2⟩ := flat_get es i hi
    have ad : ∀ j, (⟨g, 0, none⟩ : Addr).add j = ⟨g, j, none⟩ := fun j => by by_cases h : j = 0 <;> simp [Addr.add, h]
    have k0 := hc.cells rfl _ _ e0
    have k1 := hc.cells rfl _ _ e1
    have k2 := hc.cells rfl _ _ e2
    rw [ad] at k0 k1 k2
    simp only [Nat.zero_add]
    exact ⟨k0, k1, k2⟩

theorem below_grown {W w' : World} (h : Below W.heap.size W w') : W.grownBy w' none := ⟨h.os, h.tape, h.output, h.size, fun k hk _ => h.block k hk⟩

end Go.Proofs.YteelpikhijkmdaaDoor
