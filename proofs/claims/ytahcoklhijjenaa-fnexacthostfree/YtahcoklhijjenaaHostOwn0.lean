/-
  Hosts that are a call's own.
-/
import Derived.Test.YtahcoklhijjenaaHostCopy0
namespace Go.Proofs.Ytahcoklhijjenaa
open Go.RowKit

/-- Of a row of guests the first ones are there, one behind the other, each in memory of its own, in which the row does not lie. -/
def GuestsUp (w : World) (T lo hi k : Nat) (gs : List Gst) : Prop :=
  ∃ ps qs : Nat → Nat, (∀ i, i < k → lo ≤ ps i ∧ qs i ≤ hi ∧ (T < ps i ∨ qs i ≤ T)) ∧ (∀ i j, i < j → j < k → qs i ≤ ps j) ∧ ∀ i, i < k → ∃ vm vd vs, w.cell? ⟨T, i * 3, none⟩ = some vm ∧ w.cell? ⟨T, i * 3 + 1, none⟩ = some vd ∧ w.cell? ⟨T, i * 3 + 2, none⟩ = some vs ∧ OwnGuest w (ps i) (qs i) vm vd vs (gs.getD i noG)
/-- A host that is a call's own. -/
def OwnHost (w : World) (lo hi : Nat) (vf vg : Value) (h : Hst) : Prop :=
  ∃ af cf m0 m1, vf = .slice af h.frames.length cf ∧ OwnMem w m0 m1 af h.frames.length h.frames ∧ lo ≤ m0 ∧ m1 ≤ hi ∧
    ∃ ag cg, vg = .slice ag h.guests.length cg ∧ (h.guests.length = 0 ∨ ∃ T g0, ag = some ⟨T, 0, none⟩ ∧ lo ≤ T ∧ T < hi ∧ (T < m0 ∨ m1 ≤ T) ∧ m1 ≤ g0 ∧ lo ≤ g0 ∧ GuestsUp w T g0 hi h.guests.length h.guests)

theorem GuestsUp.same {lo hi : Nat} {w w' : World} {T k : Nat} {gs : List Gst} (h : GuestsUp w T lo hi k gs) (s : SameIn lo hi w w') (sT : SameIn T (T + 1) w w') : GuestsUp w' T lo hi k gs := by
  obtain ⟨ps, qs, h1, h2, h3⟩ := h
  refine ⟨ps, qs, h1, h2, fun i hi => ?_⟩
  obtain ⟨vm, vd, vs, c0, c1, c2, hG⟩ := h3 i hi
  obtain ⟨a, b, _⟩ := h1 i hi
  exact ⟨vm, vd, vs, (sT.cell (Nat.le_refl _) (Nat.lt_succ_self _)).trans c0, (sT.cell (Nat.le_refl _) (Nat.lt_succ_self _)).trans c1, (sT.cell (Nat.le_refl _) (Nat.lt_succ_self _)).trans c2, hG.same (s.part a b)⟩
theorem GuestsUp.wide {lo hi lo' hi' : Nat} {w : World} {T k : Nat} {gs : List Gst} (h : GuestsUp w T lo hi k gs) (k1 : lo' ≤ lo) (k2 : hi ≤ hi') : GuestsUp w T lo' hi' k gs := by
  obtain ⟨ps, qs, h1, h2, h3⟩ := h
  refine ⟨ps, qs, fun i hi => ?_, h2, h3⟩
  obtain ⟨a, b, c⟩ := h1 i hi
  exact ⟨by omega, by omega, c⟩
theorem OwnHost.same {lo hi : Nat} {w w' : World} (s : SameIn lo hi w w') {vf vg : Value} {h : Hst} (k : OwnHost w lo hi vf vg h) : OwnHost w' lo hi vf vg h := by
  obtain ⟨af, cf, m0, m1, e1, hM, l1, l2, ag, cg, e2, hG⟩ := k
  refine ⟨af, cf, m0, m1, e1, hM.same (s.part l1 l2), l1, l2, ag, cg, e2, ?_⟩
  rcases hG with h0 | ⟨T, g0, rfl, t1, t2, t3, t4, t5, hU⟩
  · exact Or.inl h0
  · exact Or.inr ⟨T, g0, rfl, t1, t2, t3, t4, t5, hU.same (s.part t5 (Nat.le_refl _)) (s.part t1 t2)⟩
theorem OwnHost.wide {lo hi lo' hi' : Nat} {w : World} {vf vg : Value} {h : Hst} (k : OwnHost w lo hi vf vg h) (k1 : lo' ≤ lo) (k2 : hi ≤ hi') : OwnHost w lo' hi' vf vg h := by
  obtain ⟨af, cf, m0, m1, e1, hM, l1, l2, ag, cg, e2, hG⟩ := k
  refine ⟨af, cf, m0, m1, e1, hM, by omega, by omega, ag, cg, e2, ?_⟩
  rcases hG with h0 | ⟨T, g0, rfl, t1, t2, t3, t4, t5, hU⟩
  · exact Or.inl h0
  · exact Or.inr ⟨T, g0, rfl, by omega, by omega, t3, t4, by omega, hU.wide (Nat.le_refl _) k2⟩
theorem OwnHost.host {lo hi : Nat} {w : World} {vf vg : Value} {h : Hst} (k : OwnHost w lo hi vf vg h) : HostIn w lo hi vf vg h := by
  obtain ⟨af, cf, m0, m1, e1, hM, l1, l2, ag, cg, e2, hG⟩ := k
  refine ⟨⟨af, cf, e1, hM.mem.wide l1 l2⟩, ag, cg, e2, rfl, ?_⟩
  rcases hG with h0 | ⟨T, g0, rfl, t1, t2, t3, t4, t5, ps, qs, u1, u2, u3⟩
  · exact Or.inl h0
  · refine Or.inr ⟨T, 0, rfl, t1, t2, fun i hi => ?_⟩
    obtain ⟨vm, vd, vs, c0, c1, c2, hU⟩ := u3 i hi
    obtain ⟨a, b, _⟩ := u1 i hi
    exact ⟨vm, vd, vs, by simpa using c0, by simpa using c1, by simpa using c2, hU.guest.wide (by omega) (by omega)⟩
/-- One guest more. -/
theorem GuestsUp.step {w w1 : World} {T lo hi k : Nat} {gs : List Gst} (h : GuestsUp w T lo hi k gs) (s : SameIn lo hi w w1) (sT : SameIn T (T + 1) w w1) (hl : lo ≤ hi) {n : Nat} (hR : Room w1 T n) (hn : k * 3 + 2 < n)
    {p hi' : Nat} (hp : hi ≤ p) (hp' : p ≤ hi') (hT : T < p ∨ hi' ≤ T) {vm vd vs : Value} (hG : OwnGuest w1 p hi' vm vd vs (gs.getD k noG)) :
    GuestsUp (((w1.setCell ⟨T, k * 3, none⟩ vm).setCell ⟨T, k * 3 + 1, none⟩ vd).setCell ⟨T, k * 3 + 2, none⟩ vs) T lo hi' (k + 1) gs := by
  obtain ⟨ps, qs, h1, h2, h3⟩ := h
  have key : ∀ x v, w1.cell? ⟨T, x, none⟩ = some v → ((((w1.setCell ⟨T, k * 3, none⟩ vm).setCell ⟨T, k * 3 + 1, none⟩ vd).setCell ⟨T, k * 3 + 2, none⟩ vs)).cell? ⟨T, x, none⟩ =
      some (if x = k * 3 + 2 then vs else if x = k * 3 + 1 then vd else if x = k * 3 then vm else v) := fun x v hv => cell_put (cell_put (cell_put hv))
  have sS : ∀ a b, (T < a ∨ b ≤ T) → SameIn a b w1 (((w1.setCell ⟨T, k * 3, none⟩ vm).setCell ⟨T, k * 3 + 1, none⟩ vd).setCell ⟨T, k * 3 + 2, none⟩ vs) := fun a b hab j j1 j2 => by
    rw [Below.heap_setCell _ _ _ _ (by simp; omega), Below.heap_setCell _ _ _ _ (by simp; omega), Below.heap_setCell _ _ _ _ (by simp; omega)]
  obtain ⟨ps', e1, e2⟩ : ∃ ps' : Nat → Nat, ps' k = p ∧ ∀ i, i ≠ k → ps' i = ps i := ⟨fun i => if i = k then p else ps i, by simp, fun i h => by simp [h]⟩
  obtain ⟨qs', f1, f2⟩ : ∃ qs' : Nat → Nat, qs' k = hi' ∧ ∀ i, i ≠ k → qs' i = qs i := ⟨fun i => if i = k then hi' else qs i, by simp, fun i h => by simp [h]⟩
  refine ⟨ps', qs', fun i hi => ?_, fun i j hij hj => ?_, fun i hi => ?_⟩
  · by_cases hik : i = k
    · rw [hik, e1, f1]; exact ⟨by omega, Nat.le_refl _, hT⟩
    · rw [e2 i hik, f2 i hik]; obtain ⟨a, b, c⟩ := h1 i (by omega); exact ⟨a, by omega, c⟩
  · rw [f2 i (by omega)]
    by_cases hjk : j = k
    · rw [hjk, e1]; have := (h1 i (by omega)).2.1; omega
    · rw [e2 j hjk]; exact h2 i j hij (by omega)
  · by_cases hik : i = k
    · subst hik
      obtain ⟨⟨x0, r0⟩, _⟩ := hR (i * 3) (by omega)
      obtain ⟨⟨x1, r1⟩, _⟩ := hR (i * 3 + 1) (by omega)
      obtain ⟨⟨x2, r2⟩, _⟩ := hR (i * 3 + 2) (by omega)
      refine ⟨vm, vd, vs, (key _ _ r0).trans ?_, (key _ _ r1).trans ?_, (key _ _ r2).trans ?_, ?_⟩
      · rw [if_neg (by omega), if_neg (by omega), if_pos rfl]
      · rw [if_neg (by omega), if_pos rfl]
      · rw [if_pos rfl]
      · rw [e1, f1]
        exact hG.same (sS _ _ hT)
    · obtain ⟨a, b, c, c0, c1, c2, hO⟩ := h3 i (by omega)
      obtain ⟨q1, q2, q3⟩ := h1 i (by omega)
      have d0 := (sT.cell (Nat.le_refl _) (Nat.lt_succ_self _)).trans c0
      have d1 := (sT.cell (Nat.le_refl _) (Nat.lt_succ_self _)).trans c1
      have d2 := (sT.cell (Nat.le_refl _) (Nat.lt_succ_self _)).trans c2
      refine ⟨a, b, c, (key _ _ d0).trans ?_, (key _ _ d1).trans ?_, (key _ _ d2).trans ?_, ?_⟩
      · rw [if_neg (by omega), if_neg (by omega), if_neg (by omega)]
      · rw [if_neg (by omega), if_neg (by omega), if_neg (by omega)]
      · rw [if_neg (by omega), if_neg (by omega), if_neg (by omega)]
      · rw [e2 i hik, f2 i hik]
        exact (hO.same (s.part q1 q2)).same (sS _ _ q3)
end Go.Proofs.Ytahcoklhijjenaa
