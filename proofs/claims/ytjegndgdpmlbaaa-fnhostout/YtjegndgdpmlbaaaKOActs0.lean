/-
  Acts in memory, and what the given ActsTidy does.
-/
import Derived.Test.YtjegndgdpmlbaaaKOHE
import Derived.Test.YtjegndgdpmlbaaaKOA
namespace Go.Proofs.Ytjegndgdpmlbaaa
open Go.RowKit

def actV (a : A5) : Value := .agg #[.int .i64 a.1, .int .i64 a.2.1, .int .i64 a.2.2.1, .int .i64 a.2.2.2.1, .int .i64 a.2.2.2.2]
/-- A row of acts in memory. -/
def Acts (w : World) (b o : Nat) (xs : List A5) : Prop :=
  ∀ i, i < xs.length → w.cell? ⟨b, o + i * 5, none⟩ = some (.int .i64 (xs.getD i noA).1) ∧ w.cell? ⟨b, o + i * 5 + 1, none⟩ = some (.int .i64 (xs.getD i noA).2.1) ∧ w.cell? ⟨b, o + i * 5 + 2, none⟩ = some (.int .i64 (xs.getD i noA).2.2.1) ∧ w.cell? ⟨b, o + i * 5 + 3, none⟩ = some (.int .i64 (xs.getD i noA).2.2.2.1) ∧ w.cell? ⟨b, o + i * 5 + 4, none⟩ = some (.int .i64 (xs.getD i noA).2.2.2.2)
/-- Acts that came in: none, or a row in old memory. -/
def IsActs (w : World) (a : Option Addr) (len : Nat) (xs : List A5) : Prop :=
  xs.length = len ∧ (len = 0 ∨ ∃ b o, a = some ⟨b, o, none⟩ ∧ b < w.heap.size ∧ Acts w b o xs)
theorem Acts.at {N : Nat} {w w' : World} {b o : Nat} {xs : List A5} (h : Acts w b o xs) (hb : Below N w w') (hN : b < N) {k : Nat} (hk : k < xs.length) {a0 a1 a2 a3 a4 : Int} (he : xs.getD k noA = (a0, a1, a2, a3, a4)) :
    w'.cell? ⟨b, o + k * 5, none⟩ = some (.int .i64 a0) ∧ w'.cell? ⟨b, o + k * 5 + 1, none⟩ = some (.int .i64 a1) ∧ w'.cell? ⟨b, o + k * 5 + 2, none⟩ = some (.int .i64 a2) ∧ w'.cell? ⟨b, o + k * 5 + 3, none⟩ = some (.int .i64 a3) ∧ w'.cell? ⟨b, o + k * 5 + 4, none⟩ = some (.int .i64 a4) := by
  obtain ⟨q0, q1, q2, q3, q4⟩ := h k hk
  rw [he] at q0 q1 q2 q3 q4
  exact ⟨(hb.cell (p := ⟨b, o + k * 5, none⟩) hN).trans q0, (hb.cell (p := ⟨b, o + k * 5 + 1, none⟩) hN).trans q1, (hb.cell (p := ⟨b, o + k * 5 + 2, none⟩) hN).trans q2, (hb.cell (p := ⟨b, o + k * 5 + 3, none⟩) hN).trans q3, (hb.cell (p := ⟨b, o + k * 5 + 4, none⟩) hN).trans q4⟩
theorem Acts.below {N : Nat} {w w' : World} {b o : Nat} {xs : List A5} (h : Acts w b o xs) (hb : Below N w w') (hN : b < N) : Acts w' b o xs := fun _ hi => h.at hb hN hi rfl
theorem IsActs.below {w w' : World} {a : Option Addr} {len : Nat} {xs : List A5} (h : IsActs w a len xs) (hb : Below w.heap.size w w') : IsActs w' a len xs := by
  obtain ⟨hl, h⟩ := h
  rcases h with h | ⟨b, o, rfl, hlt, h⟩
  · exact ⟨hl, Or.inl h⟩
  · exact ⟨hl, Or.inr ⟨b, o, rfl, Nat.lt_of_lt_of_le hlt hb.size, h.below hb hlt⟩⟩

set_option maxHeartbeats 400000 in
theorem specOwn21 (a0 a1 a2 a3 a4 : Int) (w : World) :
    Calls Try.prog 112 #[.agg #[.int .i64 a0, .int .i64 a1, .int .i64 a2, .int .i64 a3, .int .i64 a4]] w fun e w' => e = .returned (.bool (ownA (a0, a1, a2, a3, a4))) ∧ Below w.heap.size w w' := by
  by_cases h1 : a0 ≥ 1
  · by_cases h5 : a0 ≤ 5
    · rw [show ownA (a0, a1, a2, a3, a4) = true by simp [ownA, h5]; omega]
      go_enter Try.func112, Try.ntmps112
      go_wp2_with (first | (go_at_call 49; go_in) | fail)
      go_ret
      refine ⟨rfl, ?_⟩
      (repeat' (with_reducible (first | exact Below.refl _ _ | apply Below.setCell | apply Below.alloc | apply below_drewN | apply Below.drew | refine Below.trans ?_ (Below.mono (by assumption) ?_)))) <;> (first | exact Nat.le_refl _ | (simp; done) | (simp; omega) | (simp at *; omega))
    · rw [show ownA (a0, a1, a2, a3, a4) = false by simp [ownA, h5]]
      go_enter Try.func112, Try.ntmps112
      go_wp2_with (first | (go_at_call 49; go_in) | fail)
      go_ret
      refine ⟨rfl, ?_⟩
      (repeat' (with_reducible (first | exact Below.refl _ _ | apply Below.setCell | apply Below.alloc | apply below_drewN | apply Below.drew | refine Below.trans ?_ (Below.mono (by assumption) ?_)))) <;> (first | exact Nat.le_refl _ | (simp; done) | (simp; omega) | (simp at *; omega))
  · rw [show ownA (a0, a1, a2, a3, a4) = false by simp [ownA]; omega]
    go_enter Try.func112, Try.ntmps112
    go_wp2_with (first | (go_at_call 49; go_in) | fail)
    go_ret
    refine ⟨rfl, ?_⟩
    (repeat' (with_reducible (first | exact Below.refl _ _ | apply Below.setCell | apply Below.alloc | apply below_drewN | apply Below.drew | refine Below.trans ?_ (Below.mono (by assumption) ?_)))) <;> (first | exact Nat.le_refl _ | (simp; done) | (simp; omega) | (simp at *; omega))

end Go.Proofs.Ytjegndgdpmlbaaa
