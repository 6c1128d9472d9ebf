/-
  What the laws' own marking of hosts, and their looking for the marks, do: guests, and hosts.
-/
import Derived.Test.YtdamdjhnhkmncaaKHostMark0
import Derived.Test.YtdamdjhnhkmncaaKHostEq0
namespace Go.Proofs.Ytdamdjhnhkmncaa
open Go.RowKit

/-- One guest of a host that is a call's own, and what comes of writing it. -/
theorem GuestsUp.open {w : World} {T lo hi n k : Nat} {gs : List Gst} (h : GuestsUp w T lo hi n gs) (hk : k < n) (hl : gs.length = n) :
    ∃ p q vm vd vs, lo ≤ p ∧ q ≤ hi ∧ (T < p ∨ q ≤ T) ∧ w.cell? ⟨T, k * 3, none⟩ = some vm ∧ w.cell? ⟨T, k * 3 + 1, none⟩ = some vd ∧ w.cell? ⟨T, k * 3 + 2, none⟩ = some vs ∧ OwnGuest w p q vm vd vs (gs.getD k noG) ∧
      ∀ (w' : World) (g' : Gst), Amid p q w w' → OwnGuest w' p q vm vd vs g' → GuestsUp w' T lo hi n (gs.set k g') := by
  obtain ⟨ps, qs, h1, h2, h3⟩ := h
  obtain ⟨vm, vd, vs, c0, c1, c2, hO⟩ := h3 k hk
  obtain ⟨a1, a2, a3⟩ := h1 k hk
  refine ⟨ps k, qs k, vm, vd, vs, a1, a2, a3, c0, c1, c2, hO, fun w' g' hA hO' => ⟨ps, qs, h1, h2, fun i hi => ?_⟩⟩
  have sT : SameIn T (T + 1) w w' := hA.same (by omega)
  obtain ⟨xm, xd, xs, d0, d1, d2, hX⟩ := h3 i hi
  refine ⟨xm, xd, xs, (sT.cell (Nat.le_refl _) (by omega)).trans d0, (sT.cell (Nat.le_refl _) (by omega)).trans d1, (sT.cell (Nat.le_refl _) (by omega)).trans d2, ?_⟩
  by_cases hik : i = k
  · subst hik
    rw [c0] at d0
    rw [c1] at d1
    rw [c2] at d2
    cases d0
    cases d1
    cases d2
    rw [show (gs.set i g').getD i noG = g' by rw [List.getD_eq_getElem?_getD, List.getElem?_set_self (by omega)]; rfl]
    exact hO'
  · rw [show (gs.set k g').getD i noG = gs.getD i noG by rw [List.getD_eq_getElem?_getD, List.getElem?_set_ne (fun e => hik e.symm), ← List.getD_eq_getElem?_getD]]
    refine hX.same (hA.same ?_)
    rcases Nat.lt_or_gt_of_ne hik with hlt | hgt
    · exact Or.inl (h2 i k hlt hk)
    · exact Or.inr (h2 k i hgt hi)

end Go.Proofs.Ytdamdjhnhkmncaa
