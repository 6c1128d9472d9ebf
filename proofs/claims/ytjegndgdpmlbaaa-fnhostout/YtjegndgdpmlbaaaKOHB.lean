/-
  What the laws' own marking of hosts, and their looking for the marks, do.
-/
import Derived.Test.YtjegndgdpmlbaaaKOC
import Derived.Test.YtjegndgdpmlbaaaKOE
import Derived.Test.YtjegndgdpmlbaaaKOA
namespace Go.Proofs.Ytjegndgdpmlbaaa
open Go.RowKit

end Go.Proofs.Ytjegndgdpmlbaaa

/-
  What the laws' own comparing of hosts does where both hold the same.
-/
namespace Go.Proofs.Ytjegndgdpmlbaaa
open Go.RowKit

/-- How great a host may be that is looked at. -/
def SmallG (g : Gst) : Prop := g.maps.length ≤ 1048576 ∧ g.shades.length ≤ 1048576 ∧ g.disk.length ≤ 1048576 ∧ ∀ j, j < g.disk.length → (g.disk.getD j []).length ≤ 1048576
def SmallH (h : Hst) : Prop := h.frames.length ≤ 1048576 ∧ (∀ i, i < h.frames.length → (h.frames.getD i []).length ≤ 1048576) ∧ h.guests.length ≤ 1048576 ∧ ∀ i, i < h.guests.length → SmallG (h.guests.getD i noG)

end Go.Proofs.Ytjegndgdpmlbaaa

/-
  What the laws' own marking of hosts, and their looking for the marks, do: guests, and hosts.
-/
namespace Go.Proofs.Ytjegndgdpmlbaaa
open Go.RowKit

/-- One guest of a host that is a call's own, and what comes of writing it. -/
theorem GuestsUp.open {w : World} {T lo hi n k : Nat} {gs : List Gst} (h : GuestsUp w T lo hi n gs) (hk : k < n) (hl : gs.length = n) :
    ∃ p q vm vd vs, lo ≤ p ∧ q ≤ hi ∧ (T < p ∨ q ≤ T) ∧ w.cell? ⟨T, k * 3, none⟩ = some vm ∧ w.cell? ⟨T, k * 3 + 1, none⟩ = some vd ∧ w.cell? ⟨T, k * 3 + 2, none⟩ = some vs ∧ OwnGuest w p q vm vd vs (gs.getD k noG) ∧
      ∀ (w' : World) (g' : Gst), Amid p q w w' → OwnGuest w' p q vm vd vs g' → GuestsUp w' T lo hi n (gs.set k g') := by
  obtain ⟨ps, qs, h1, h2, h3⟩ := h
  obtain ⟨vm, vd, vs, c0, c1, c2, hO⟩ := h3 k hk
  obtain ⟨a1, a2, a3⟩ := h1 k hk
  refine ⟨ps k, qs k, vm, vd, vs, a1, a2, a3, c0, c1, c2, hO, fun w' g' hA hO' => ⟨ps, qs, h1, h2, fun i hi => ?_⟩⟩
  have sT : SameIn T (T + 1) w w' := hA.same (by omega)
  obtain ⟨xm, xd, xs, d0, d1, d2, hX⟩ := h3 i hi
  refine ⟨xm, xd, xs, (sT.cell (Nat.le_refl _) (by omega)).trans d0, (sT.cell (Nat.le_refl _) (by omega)).trans d1, (sT.cell (Nat.le_refl _) (by omega)).trans d2, ?_⟩
  by_cases hik : i = k
  · subst hik
    rw [c0] at d0
    rw [c1] at d1
    rw [c2] at d2
    cases d0
    cases d1
    cases d2
    rw [show (gs.set i g').getD i noG = g' by rw [List.getD_eq_getElem?_getD, List.getElem?_set_self (by omega)]; rfl]
    exact hO'
  · rw [show (gs.set k g').getD i noG = gs.getD i noG by rw [List.getD_eq_getElem?_getD, List.getElem?_set_ne (fun e => hik e.symm), ← List.getD_eq_getElem?_getD]]
    refine hX.same (hA.same ?_)
    rcases Nat.lt_or_gt_of_ne hik with hlt | hgt
    · exact Or.inl (h2 i k hlt hk)
    · exact Or.inr (h2 k i hgt hi)

end Go.Proofs.Ytjegndgdpmlbaaa

/-
  The walk of the law FnExactMemOk: whatever the memory, both functions give the same, and the memory is left as it was.
-/
namespace Go.Proofs.Ytjegndgdpmlbaaa
open Go.RowKit

end Go.Proofs.Ytjegndgdpmlbaaa
