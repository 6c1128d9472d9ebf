/-
  What is seen, plainly; a host to which all guests were carried; shades forgotten.
-/
import Derived.Test.YtjegndgdpmlbaaaKOPB
import Derived.Test.YtjegndgdpmlbaaaKOSpecCarry0
import Derived.Test.YtjegndgdpmlbaaaKOImplForget0
namespace Go.Proofs.Ytjegndgdpmlbaaa
open Go.RowKit

theorem see_get {h : Hst} {g p : Nat} (hp : p < 6) : (seeM h.frames (gOf h g)).getD p [] = pAt h g p := seeM_get _ _ hp
theorem see_ext {h h' : Hst} {g g' : Nat} (he : ∀ p, p < 6 → pAt h g p = pAt h' g' p) : seeM h.frames (gOf h g) = seeM h'.frames (gOf h' g') := by
  refine list_ext [] (by rw [seeM_len, seeM_len]) (fun p hp => ?_)
  rw [seeM_len] at hp
  rw [see_get hp, see_get hp]
  exact he p hp
theorem seeH_same {h h' : Hst} (k : OkH h) (k' : OkH h') (hl : h'.guests.length = h.guests.length) (he : ∀ g p, g < h.guests.length → p < 6 → pAt h' g p = pAt h g p) (G : Int) : seeH h' G = seeH h G := by
  have e1 : seeB h' G = seeB h G := by rw [seeB, seeB, okHost_mk k, okHost_mk k', hl]
  rw [seeH, seeH, e1]
  cases hb : seeB h G
  · rfl
  · simp only [seeB, Bool.and_eq_true, decide_eq_true_eq] at hb
    rw [cond_true, cond_true]
    exact see_ext (h := h') (h' := h) (g := G.toNat) (g' := G.toNat) (fun p hp => he _ p (by omega) hp)

/-- All guests carried. -/
def carP (h : Hst) : Hst := ⟨zeroM 8, carG h, 0⟩
theorem car_ok {h : Hst} (k : OkH h) : OkH (carP h) ∧ (carP h).guests.length = h.guests.length ∧ (∀ g p, g < h.guests.length → p < 6 → pAt (carP h) g p = pAt h g p) ∧ (∀ g p, g < h.guests.length → p < 6 → mAt (carP h) g p = noM) ∧ (∀ g p, g < h.guests.length → p < 6 → sAt (carP h) g p = noS) := by
  have hl : (carP h).guests.length = h.guests.length := by simp [carP, carG]
  have hg' : ∀ g, g < h.guests.length → gOf (carP h) g = outG (seeM h.frames (gOf h g)) := fun g hg => carG_get h hg
  have hm : ∀ g p, g < h.guests.length → p < 6 → mAt (carP h) g p = noM := fun g p hg hp => by
    unfold mAt
    rw [hg' g hg]
    rcases (by omega : p = 0 ∨ p = 1 ∨ p = 2 ∨ p = 3 ∨ p = 4 ∨ p = 5) with e | e | e | e | e | e <;> subst e <;> rfl
  have hs : ∀ g p, g < h.guests.length → p < 6 → sAt (carP h) g p = noS := fun g p hg hp => by
    unfold sAt
    rw [hg' g hg]
    rcases (by omega : p = 0 ∨ p = 1 ∨ p = 2 ∨ p = 3 ∨ p = 4 ∨ p = 5) with e | e | e | e | e | e <;> subst e <;> rfl
  have hd : ∀ g p, g < h.guests.length → p < 6 → dAt (carP h) g p = pAt h g p := fun g p hg hp => by
    unfold dAt
    rw [hg' g hg]
    exact see_get hp
  refine ⟨⟨rfl, fun f hf => ?_, by rw [hl]; exact k.n1, by rw [hl]; exact k.n2, by show (0 : Int) ≤ 0; omega, by show (0 : Int) ≤ 7; omega, fun g hg => ?_, fun g p hg hp => ?_, fun g p hg hp _ => ?_, fun g p hg hp hx => ?_, fun g p g' p' hg hp _ _ hx _ _ _ => ?_, fun g p hg hp _ => ?_, fun g p hg hp hx => ?_⟩, hl, fun g p hg hp => ?_, hm, hs⟩
  · rcases (by omega : f = 0 ∨ f = 1 ∨ f = 2 ∨ f = 3 ∨ f = 4 ∨ f = 5 ∨ f = 6 ∨ f = 7) with e | e | e | e | e | e | e | e <;> subst e <;> rfl
  · rw [hl] at hg
    rw [hg' g hg]
    exact ⟨rfl, seeM_len _ _, rfl⟩
  · rw [hl] at hg; rw [hd g p hg hp]; exact pAt_ok k hg hp
  · rw [hl] at hg; exact hm g p hg hp
  · rw [hl] at hg; rw [hm g p hg hp] at hx; cases hx
  · rw [hl] at hg; rw [hm g p hg hp] at hx; cases hx
  · rw [hl] at hg; exact hs g p hg hp
  · rw [hl] at hg; rw [hs g p hg hp] at hx; cases hx
  · rw [pAt_eq, hm g p hg hp, hd g p hg hp]
    rfl
end Go.Proofs.Ytjegndgdpmlbaaa

/-
  What acts do to a host, plainly: forgetting, sharing, moving, and each act by its kind.
-/
namespace Go.Proofs.Ytjegndgdpmlbaaa
open Go.RowKit

def forgP (h : Hst) (g : Nat) : Hst := setG h g { gOf h g with shades := noSs }
theorem forg_len (h : Hst) (g : Nat) : (forgP h g).guests.length = h.guests.length := setG_len _ _ _
theorem forg_ok {h : Hst} (k : OkH h) {g : Nat} (hg : g < h.guests.length) : OkH (forgP h g) ∧ (∀ g' p', pAt (forgP h g) g' p' = pAt h g' p') ∧ (∀ g' p', mAt (forgP h g) g' p' = mAt h g' p') ∧ (∀ g' i, i < 6 → sAt (forgP h g) g' i = if g' = g then noS else sAt h g' i) := by
  obtain ⟨a, b, c⟩ := k.six g hg
  have hm : ∀ g' p', mAt (forgP h g) g' p' = mAt h g' p' := fun g' p' => by
    unfold mAt forgP
    by_cases e : g' = g
    · subst e; rw [gOf_set_same hg]
    · rw [gOf_set_ne e]
  have hd : ∀ g' p', dAt (forgP h g) g' p' = dAt h g' p' := fun g' p' => by
    unfold dAt forgP
    by_cases e : g' = g
    · subst e; rw [gOf_set_same hg]
    · rw [gOf_set_ne e]
  have hs : ∀ g' i, i < 6 → sAt (forgP h g) g' i = if g' = g then noS else sAt h g' i := fun g' i hi => by
    unfold sAt forgP
    by_cases e : g' = g
    · subst e
      rw [gOf_set_same hg, if_pos rfl]
      rcases (by omega : i = 0 ∨ i = 1 ∨ i = 2 ∨ i = 3 ∨ i = 4 ∨ i = 5) with e | e | e | e | e | e <;> subst e <;> rfl
    · rw [gOf_set_ne e, if_neg e]
  have hl := forg_len h g
  have h6 : Six (forgP h g) := fun i hi => by
    rw [hl] at hi
    unfold forgP
    by_cases e : i = g
    · subst e; rw [gOf_set_same hg]; exact ⟨a, b, rfl⟩
    · rw [gOf_set_ne e]; exact k.six i hi
  refine ⟨⟨k.f8, k.fw, by rw [hl]; exact k.n1, by rw [hl]; exact k.n2, k.h0, k.h7, h6, fun g' p' hg' hp' => ?_, fun g' p' hg' hp' hx => ?_, fun g' p' hg' hp' hx => ?_, fun g1 p1 g2 p2 hg1 hp1 hg2 hp2 c1 c2 c3 c4 => ?_, fun g' j hg' hj hx => ?_, fun g' j hg' hj hx => ?_⟩, fun g' p' => ?_, hm, hs⟩
  · rw [hl] at hg'; rw [hd]; exact k.dw g' p' hg' hp'
  · rw [hl] at hg'; rw [hm] at hx ⊢; exact k.mo g' p' hg' hp' hx
  · rw [hl] at hg'; rw [hm] at hx ⊢; rw [hd]; exact k.mi g' p' hg' hp' hx
  · rw [hl] at hg1 hg2
    rw [hm] at c1 c2 c3 c4
    rw [hm] at c4
    exact k.al g1 p1 g2 p2 hg1 hp1 hg2 hp2 c1 c2 c3 c4
  · rw [hl] at hg'
    rw [hs g' j hj] at hx ⊢
    by_cases e : g' = g
    · rw [if_pos e]
    · rw [if_neg e] at hx ⊢; exact k.so g' j hg' hj hx
  · rw [hl] at hg'
    rw [hs g' j hj] at hx ⊢
    by_cases e : g' = g
    · rw [if_pos e] at hx; cases hx
    · rw [if_neg e] at hx ⊢
      rw [hm]
      exact k.si g' j hg' hj hx
  · rw [pAt_eq, pAt_eq h, hm, hd]
    rfl

/-- The first two frames that are used and have the same. -/
def pairsL : List (Nat × Nat) := (List.range 8).flatMap fun t => ((List.range 8).filter fun f => decide (t < f)).map fun f => (t, f)
def twinB (h : Hst) (x : Nat × Nat) : Bool := decide (0 < usersH h x.1) && (decide (0 < usersH h x.2) && (fAt h x.1 == fAt h x.2))
def twins (h : Hst) : Option (Nat × Nat) := pairsL.find? (twinB h)
def joinB (h : Hst) : Bool := (twins h).isSome
def joinH (h : Hst) : Hst := match twins h with | some x => shareP h x.2 x.1 | none => h
theorem mem_pairsL {t f : Nat} : (t, f) ∈ pairsL ↔ t < f ∧ f < 8 := by
  simp only [pairsL, List.mem_flatMap, List.mem_range, List.mem_map, List.mem_filter, decide_eq_true_eq, Prod.mk.injEq]
  constructor
  · rintro ⟨a, h1, b, ⟨h2, h3⟩, h4, h5⟩
    subst h4 h5
    exact ⟨h3, h2⟩
  · rintro ⟨h1, h2⟩
    exact ⟨t, by omega, f, ⟨h2, h1⟩, rfl, rfl⟩
theorem join_ok {h : Hst} (k : OkH h) : OkH (joinH h) ∧ (joinH h).guests.length = h.guests.length ∧ (∀ g p, g < h.guests.length → p < 6 → pAt (joinH h) g p = pAt h g p) := by
  unfold joinH
  cases ht : twins h with
  | none => exact ⟨k, rfl, fun _ _ _ _ => rfl⟩
  | some x =>
    obtain ⟨t, f⟩ := x
    have h1 := List.mem_of_find?_eq_some ht
    have h2 := List.find?_some ht
    obtain ⟨m1, m2⟩ := mem_pairsL.1 h1
    simp only [twinB, Bool.and_eq_true, beq_iff_eq] at h2
    exact share_ok k (by omega) h2.2.2.symm
/-- What is in a frame moved to the first free one, if it can be. -/
def moveB (h : Hst) (f : Nat) : Bool := decide (0 ≤ firstH h) && decide (0 < usersH h f)
def moveH (h : Hst) (f : Nat) : Hst := bif moveB h f then moveP h f (firstH h).toNat else h
theorem moveH_ok {h : Hst} (k : OkH h) {f : Nat} (hf : f < 8) : OkH (moveH h f) ∧ (moveH h f).guests.length = h.guests.length ∧ (∀ g p, g < h.guests.length → p < 6 → pAt (moveH h f) g p = pAt h g p) := by
  unfold moveH
  cases hb : moveB h f
  · exact ⟨k, rfl, fun _ _ _ _ => rfl⟩
  · rw [cond_true]
    simp only [moveB, Bool.and_eq_true, decide_eq_true_eq] at hb
    rcases firstH_cases h with ⟨e, _⟩ | ⟨r, e, hr, hu, _⟩
    · omega
    · rw [e, Int.toNat_natCast]
      obtain ⟨m1, m2, _, _, _, _, m7⟩ := move_ok k hf hr hu
      exact ⟨m1, m2, m7⟩

/-- A word written by a guest. -/
def wrH (h : Hst) (g p o : Nat) (z : Int) : Hst := wordP (ownP h g p) (mAt (ownP h g p) g p).2.1.toNat o z
theorem wrH_ok {h : Hst} (k : OkH h) {g p o : Nat} (hg : g < h.guests.length) (hp : p < 6) {z : Int} (h0 : 0 ≤ z) (h63 : z ≤ 63) : OkH (wrH h g p o z) ∧ (wrH h g p o z).guests.length = h.guests.length ∧ (∀ g' p', g' < h.guests.length → p' < 6 → pAt (wrH h g p o z) g' p' = if g' = g ∧ p' = p then (pAt h g p).set o z else pAt h g' p') := by
  obtain ⟨k1, l1, c1, m1, w1⟩ := ownP_ok k hg hp
  have hg1 : g < (ownP h g p).guests.length := by omega
  have hF := k1.mi g p hg1 hp m1
  obtain ⟨k2, c2⟩ := word_ok k1 hg1 hp m1 w1 (F := (mAt (ownP h g p) g p).2.1.toNat) (o := o) (by omega) h0 h63
  refine ⟨k2, l1, fun g' p' h1 h2 => ?_⟩
  rw [wrH, c2 g' p' (by omega) h2, c1 g p hg hp]
  by_cases e : g' = g ∧ p' = p
  · rw [if_pos e, if_pos e]
  · rw [if_neg e, if_neg e, c1 g' p' h1 h2]
end Go.Proofs.Ytjegndgdpmlbaaa
