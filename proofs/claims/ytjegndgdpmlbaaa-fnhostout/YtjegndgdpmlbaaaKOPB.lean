/-
  Pages that get another map, plainly, by places: one, several; what is shared, what is moved.
-/
import Derived.Test.YtjegndgdpmlbaaaKOT
import Derived.Test.YtjegndgdpmlbaaaKOPA
namespace Go.Proofs.Ytjegndgdpmlbaaa
open Go.RowKit

/-- A page gets another map; shades that lead to it are forgotten. -/
def settleP (h : Hst) (g p : Nat) (m : E3) : Hst := setG h g (settled (gOf h g) p m 6)
theorem settleP_len (h : Hst) (g p : Nat) (m : E3) : (settleP h g p m).guests.length = h.guests.length := setG_len _ _ _
theorem settleP_at {h : Hst} (hs : Six h) {g p : Nat} (hg : g < h.guests.length) (hp : p < 6) (m : E3) : Six (settleP h g p m) ∧ (∀ g' p', mAt (settleP h g p m) g' p' = if g' = g ∧ p' = p then m else mAt h g' p') ∧ (∀ g' p', dAt (settleP h g p m) g' p' = dAt h g' p') ∧
    (∀ g' i, i < 6 → sAt (settleP h g p m) g' i = bif decide (g' = g) && hitS (p : Int) (sAt h g' i) then noS else sAt h g' i) := by
  obtain ⟨a, b, c⟩ := hs g hg
  refine ⟨fun i hi => ?_, fun g' p' => ?_, fun g' p' => ?_, fun g' i hi => ?_⟩
  · rw [settleP_len] at hi
    unfold settleP
    by_cases e : i = g
    · subst e
      rw [gOf_set_same hg]
      exact ⟨by show ((gOf h i).maps.set p m).length = 6; rw [List.length_set]; exact a, b, by show (fU (gOf h i).shades (p : Int) 6).length = 6; rw [fU_len]; exact c⟩
    · rw [gOf_set_ne e]; exact hs i hi
  · unfold mAt settleP
    by_cases e : g' = g
    · subst e
      rw [gOf_set_same hg]
      show ((gOf h g').maps.set p m).getD p' noM = _
      rw [getD_set _ _ _ _ _ (by rw [a]; exact hp)]
      by_cases e2 : p' = p
      · rw [if_pos e2, if_pos ⟨rfl, e2⟩]
      · rw [if_neg e2, if_neg (fun h => e2 h.2)]
    · rw [gOf_set_ne e, if_neg (fun h => e h.1)]
  · unfold dAt settleP
    by_cases e : g' = g
    · subst e; rw [gOf_set_same hg]; rfl
    · rw [gOf_set_ne e]
  · unfold sAt settleP
    by_cases e : g' = g
    · subst e
      rw [gOf_set_same hg]
      show (fU (gOf h g').shades (p : Int) 6).getD i noS = _
      rw [fU_at c hi]
      simp
    · rw [gOf_set_ne e]
      simp [e]
/-- Several pages. -/
def settleAll (M : Nat → Nat → E3) (h : Hst) (l : List (Nat × Nat)) : Hst := l.foldl (fun h x => settleP h x.1 x.2 (M x.1 x.2)) h
theorem settleAll_at (M : Nat → Nat → E3) : ∀ (l : List (Nat × Nat)) {h : Hst} (_ : Six h) (_ : Plc h.guests.length l), Six (settleAll M h l) ∧ (settleAll M h l).guests.length = h.guests.length ∧ (settleAll M h l).hand = h.hand ∧ (settleAll M h l).frames = h.frames ∧
    (∀ g p, mAt (settleAll M h l) g p = if (g, p) ∈ l then M g p else mAt h g p) ∧ (∀ g p, dAt (settleAll M h l) g p = dAt h g p) ∧
    (∀ g i, i < 6 → sAt (settleAll M h l) g i = if (sAt h g i).1 = true ∧ 0 ≤ (sAt h g i).2.1 ∧ (g, (sAt h g i).2.1.toNat) ∈ l then noS else sAt h g i)
  | [], h, hs, _ => by
    refine ⟨hs, rfl, rfl, rfl, fun g p => ?_, fun g p => rfl, fun g i _ => ?_⟩
    · rw [if_neg (by simp)]; rfl
    · rw [if_neg (by simp)]; rfl
  | x :: l, h, hs, hP => by
    obtain ⟨g0, p0⟩ := x
    obtain ⟨hg0, hp0⟩ := hP (g0, p0) (List.mem_cons_self ..)
    obtain ⟨a1, a2, a3, a4⟩ := settleP_at hs hg0 hp0 (M g0 p0)
    have hl := settleP_len h g0 p0 (M g0 p0)
    obtain ⟨i1, i2, i3, i4, i5, i6, i7⟩ := settleAll_at M l a1 (by rw [hl]; exact fun y hy => hP y (List.mem_cons_of_mem _ hy))
    have e : settleAll M h ((g0, p0) :: l) = settleAll M (settleP h g0 p0 (M g0 p0)) l := rfl
    rw [e]
    refine ⟨i1, by rw [i2, hl], i3, i4, fun g p => ?_, fun g p => by rw [i6, a3], fun g i hi => ?_⟩
    · rw [i5, a2]
      by_cases h1 : (g, p) ∈ l
      · rw [if_pos h1, if_pos (List.mem_cons_of_mem _ h1)]
      · rw [if_neg h1]
        by_cases h2 : g = g0 ∧ p = p0
        · obtain ⟨rfl, rfl⟩ := h2
          rw [if_pos ⟨rfl, rfl⟩, if_pos (List.mem_cons_self ..)]
        · rw [if_neg h2, if_neg (fun hc => by
            rcases List.mem_cons.1 hc with hc | hc
            · cases hc; exact h2 ⟨rfl, rfl⟩
            · exact h1 hc)]
    · rw [i7 g i hi, a4 g i hi]
      by_cases h2 : g = g0 ∧ hitS (p0 : Int) (sAt h g i) = true
      · obtain ⟨rfl, h2⟩ := h2
        obtain ⟨h3, h4⟩ := hitS_iff.1 h2
        rw [h2, show decide (g = g) = true by simp]
        simp only [Bool.true_and, cond_true]
        rw [if_neg (fun hc => by cases hc.1), if_pos ⟨h3, by omega, by rw [h4, Int.toNat_natCast]; exact List.mem_cons_self ..⟩]
      · have hf : (decide (g = g0) && hitS (p0 : Int) (sAt h g i)) = false := by
          by_cases e1 : g = g0
          · have : hitS (p0 : Int) (sAt h g i) = false := by
              cases hc : hitS (p0 : Int) (sAt h g i)
              · rfl
              · exact (h2 ⟨e1, hc⟩).elim
            rw [this, Bool.and_false]
          · simp [e1]
        rw [hf, cond_false]
        by_cases h5 : (sAt h g i).1 = true ∧ 0 ≤ (sAt h g i).2.1 ∧ (g, (sAt h g i).2.1.toNat) ∈ l
        · rw [if_pos h5, if_pos ⟨h5.1, h5.2.1, List.mem_cons_of_mem _ h5.2.2⟩]
        · rw [if_neg h5, if_neg (fun hc => by
            obtain ⟨h6, h0, h7⟩ := hc
            rcases List.mem_cons.1 h7 with h7 | h7
            · simp only [Prod.mk.injEq] at h7
              exact h2 ⟨h7.1, hitS_iff.2 ⟨h6, by omega⟩⟩
            · exact h5 ⟨h6, h0, h7⟩)]
/-- Two hosts told alike by settling the same pages are the same. -/
theorem settleAll_same {M : Nat → Nat → E3} {l m : List (Nat × Nat)} {h : Hst} (hs : Six h) (hl : Plc h.guests.length l) (hm : Plc h.guests.length m) (hlm : ∀ x, x ∈ l ↔ x ∈ m) : settleAll M h l = settleAll M h m := by
  obtain ⟨a1, a2, a3, a4, a5, a6, a7⟩ := settleAll_at M l hs hl
  obtain ⟨b1, b2, b3, b4, b5, b6, b7⟩ := settleAll_at M m hs hm
  refine hst_ext (by rw [a4, b4]) (by rw [a3, b3]) (by rw [a2, b2]) a1 b1 (fun g p _ _ => ?_) (fun g p _ _ => by rw [a6, b6]) (fun g i _ hi => ?_)
  · rw [a5, b5]
    by_cases e : (g, p) ∈ l
    · rw [if_pos e, if_pos ((hlm _).1 e)]
    · rw [if_neg e, if_neg (fun hc => e ((hlm _).2 hc))]
  · rw [a7 g i hi, b7 g i hi]
    by_cases e : (sAt h g i).1 = true ∧ 0 ≤ (sAt h g i).2.1 ∧ (g, (sAt h g i).2.1.toNat) ∈ l
    · rw [if_pos e, if_pos ⟨e.1, e.2.1, (hlm _).1 e.2.2⟩]
    · rw [if_neg e, if_neg (fun hc => e ⟨hc.1, hc.2.1, (hlm _).2 hc.2.2⟩)]

/-- What is in one frame, or another, is in the latter, not to be written. -/
def inFT (from_ to_ : Nat) (m : E3) : Bool := inF from_ m || inF to_ m
def shareL (h : Hst) (from_ to_ : Nat) : List (Nat × Nat) := ten h.guests to_ ++ ten h.guests from_
def shareP (h : Hst) (from_ to_ : Nat) : Hst := settleAll (fun _ _ => (true, (to_ : Int), false)) h (shareL h from_ to_)
theorem mem_shareL {h : Hst} {f t g p : Nat} : (g, p) ∈ shareL h f t ↔ g < h.guests.length ∧ p < 6 ∧ inFT f t (mAt h g p) = true := by
  rw [shareL, List.mem_append, mem_ten, mem_ten, inFT, Bool.or_eq_true]
  constructor
  · rintro (⟨a, b, c⟩ | ⟨a, b, c⟩)
    · exact ⟨a, b, Or.inr c⟩
    · exact ⟨a, b, Or.inl c⟩
  · rintro ⟨a, b, c | c⟩
    · exact Or.inr ⟨a, b, c⟩
    · exact Or.inl ⟨a, b, c⟩
theorem plc_share (h : Hst) (f t : Nat) : Plc h.guests.length (shareL h f t) := fun x hx => by
  obtain ⟨a, b⟩ := x
  obtain ⟨h1, h2, _⟩ := mem_shareL.1 hx
  exact ⟨h1, h2⟩
theorem share_ok {h : Hst} (k : OkH h) {f t : Nat} (ht : t < 8) (hsame : fAt h f = fAt h t) : OkH (shareP h f t) ∧ (shareP h f t).guests.length = h.guests.length ∧ (∀ g p, g < h.guests.length → p < 6 → pAt (shareP h f t) g p = pAt h g p) := by
  obtain ⟨a1, a2, a3, a4, a5, a6, a7⟩ := settleAll_at (fun _ _ => (true, (t : Int), false)) (shareL h f t) k.six (plc_share h f t)
  have hm : ∀ g p, g < h.guests.length → p < 6 → mAt (shareP h f t) g p = if inFT f t (mAt h g p) = true then (true, (t : Int), false) else mAt h g p := fun g p hg hp => by
    rw [shareP, a5]
    by_cases e : inFT f t (mAt h g p) = true
    · rw [if_pos e, if_pos (mem_shareL.2 ⟨hg, hp, e⟩)]
    · rw [if_neg e, if_neg (fun hc => e (mem_shareL.1 hc).2.2)]
  have hS : ∀ g i, g < h.guests.length → i < 6 → sAt (shareP h f t) g i = if (sAt h g i).1 = true ∧ inFT f t (mAt h g (sAt h g i).2.1.toNat) = true then noS else sAt h g i := fun g i hg hi => by
    rw [shareP, a7 g i hi]
    by_cases e : (sAt h g i).1 = true ∧ inFT f t (mAt h g (sAt h g i).2.1.toNat) = true
    · obtain ⟨s2, s5, _⟩ := k.si g i hg hi e.1
      rw [if_pos e, if_pos ⟨e.1, by omega, mem_shareL.2 ⟨hg, by omega, e.2⟩⟩]
    · rw [if_neg e, if_neg (fun hc => e ⟨hc.1, (mem_shareL.1 hc.2.2).2.2⟩)]
  have hin : ∀ m : E3, inFT f t m = true → m.1 = true ∧ (m.2.1 = (f : Int) ∨ m.2.1 = (t : Int)) := fun m hc => by
    rw [inFT, Bool.or_eq_true] at hc
    rcases hc with hc | hc
    · exact ⟨(inF_iff.1 hc).1, Or.inl (inF_iff.1 hc).2⟩
    · exact ⟨(inF_iff.1 hc).1, Or.inr (inF_iff.1 hc).2⟩
  have h1 : ∀ g p, g < h.guests.length → p < 6 → (mAt (shareP h f t) g p).1 = (mAt h g p).1 := fun g p hg hp => by
    rw [hm g p hg hp]
    by_cases e : inFT f t (mAt h g p) = true
    · rw [if_pos e, (hin _ e).1]
    · rw [if_neg e]
  refine ⟨⟨by show (shareP h f t).frames.length = 8; rw [shareP, a4]; exact k.f8, fun i hi => by show okP ((shareP h f t).frames.getD i []) = true; rw [shareP, a4]; exact k.fw i hi, by rw [shareP, a2]; exact k.n1, by rw [shareP, a2]; exact k.n2, by rw [shareP, a3]; exact k.h0, by rw [shareP, a3]; exact k.h7, a1, fun g p hg hp => ?_, fun g p hg hp hx => ?_, fun g p hg hp hx => ?_, fun g p g' p' hg hp hg' hp' c1 c2 c3 c4 => ?_, fun g i hg hi hx => ?_, fun g i hg hi hx => ?_⟩, by rw [shareP, a2], fun g p hg hp => ?_⟩
  · rw [shareP, a2] at hg; rw [shareP, a6]; exact k.dw g p hg hp
  · rw [shareP, a2] at hg
    rw [h1 g p hg hp] at hx
    rw [hm g p hg hp, if_neg (fun hc => by rw [(hin _ hc).1] at hx; cases hx)]
    exact k.mo g p hg hp hx
  · rw [shareP, a2] at hg
    rw [h1 g p hg hp] at hx
    obtain ⟨x1, x2, x3⟩ := k.mi g p hg hp hx
    rw [hm g p hg hp, shareP, a6]
    by_cases e : inFT f t (mAt h g p) = true
    · rw [if_pos e]; exact ⟨by show (0 : Int) ≤ (t : Int); omega, by show (t : Int) ≤ 7; omega, x3⟩
    · rw [if_neg e]; exact ⟨x1, x2, x3⟩
  · rw [shareP, a2] at hg hg'
    rw [h1 g p hg hp] at c1
    rw [h1 g' p' hg' hp'] at c3
    rw [hm g p hg hp] at c2
    by_cases e : inFT f t (mAt h g p) = true
    · rw [if_pos e] at c2; cases c2
    · rw [if_neg e] at c2
      rw [hm g p hg hp, if_neg e, hm g' p' hg' hp'] at c4
      by_cases e' : inFT f t (mAt h g' p') = true
      · rw [if_pos e'] at c4
        refine (e ?_).elim
        rw [inFT, Bool.or_eq_true]
        exact Or.inr (inF_iff.2 ⟨c1, c4.symm⟩)
      · rw [if_neg e'] at c4
        exact k.al g p g' p' hg hp hg' hp' c1 c2 c3 c4
  · rw [shareP, a2] at hg
    rw [hS g i hg hi] at hx ⊢
    by_cases e : (sAt h g i).1 = true ∧ inFT f t (mAt h g (sAt h g i).2.1.toNat) = true
    · rw [if_pos e]
    · rw [if_neg e] at hx ⊢; exact k.so g i hg hi hx
  · rw [shareP, a2] at hg
    rw [hS g i hg hi] at hx ⊢
    by_cases e : (sAt h g i).1 = true ∧ inFT f t (mAt h g (sAt h g i).2.1.toNat) = true
    · rw [if_pos e] at hx; cases hx
    · rw [if_neg e] at hx ⊢
      obtain ⟨s1, s2, s3, s4, s5⟩ := k.si g i hg hi hx
      have e2 : ¬ inFT f t (mAt h g (sAt h g i).2.1.toNat) = true := fun hc => e ⟨hx, hc⟩
      rw [hm g _ hg (by omega), if_neg e2]
      exact ⟨s1, s2, s3, s4, s5⟩
  · have hfr : ∀ i, fAt (shareP h f t) i = fAt h i := fun i => by show (shareP h f t).frames.getD i [] = _; rw [shareP, a4]; rfl
    rw [pAt_eq, pAt_eq h, hm g p hg hp]
    by_cases e : inFT f t (mAt h g p) = true
    · obtain ⟨x1, x2⟩ := hin _ e
      rw [if_pos e, x1, cond_true, cond_true, hfr, show ((true, (t : Int), false) : E3).2.1.toNat = t from Int.toNat_natCast t]
      rcases x2 with x2 | x2
      · rw [x2, Int.toNat_natCast, hsame]
      · rw [x2, Int.toNat_natCast]
    · rw [if_neg e, hfr, show dAt (shareP h f t) g p = dAt h g p by rw [shareP, a6]]
end Go.Proofs.Ytjegndgdpmlbaaa

/-
  What is in a frame moved to a free one, plainly, by places.
-/
namespace Go.Proofs.Ytjegndgdpmlbaaa
open Go.RowKit

def moveP (h : Hst) (f t : Nat) : Hst := settleAll (fun g p => (true, (t : Int), (mAt h g p).2.2)) (setF h t (fAt h f)) (ten h.guests f)
theorem move_ok {h : Hst} (k : OkH h) {f t : Nat} (hf : f < 8) (ht : t < 8) (hu : usersH h t = 0) : OkH (moveP h f t) ∧ (moveP h f t).guests.length = h.guests.length ∧ (moveP h f t).hand = h.hand ∧ (∀ i, fAt (moveP h f t) i = if i = t then fAt h f else fAt h i) ∧ (∀ g p, g < h.guests.length → p < 6 → mAt (moveP h f t) g p = if inF f (mAt h g p) = true then (true, (t : Int), (mAt h g p).2.2) else mAt h g p) ∧
    (∀ g p, dAt (moveP h f t) g p = dAt h g p) ∧ (∀ g p, g < h.guests.length → p < 6 → pAt (moveP h f t) g p = pAt h g p) := by
  have k6 : Six (setF h t (fAt h f)) := k.six
  obtain ⟨a1, a2, a3, a4, a5, a6, a7⟩ := settleAll_at (fun g p => (true, (t : Int), (mAt h g p).2.2)) (ten h.guests f) k6 (plc_ten h f)
  have hz := (users_zero k.six).1 hu
  have hno : ∀ g p, g < h.guests.length → p < 6 → (mAt h g p).1 = true → (mAt h g p).2.1 ≠ (t : Int) := fun g p hg hp h1 h2 => by
    have := hz g p hg hp
    rw [inF_iff.2 ⟨h1, h2⟩] at this
    cases this
  have hfr : ∀ i, fAt (moveP h f t) i = if i = t then fAt h f else fAt h i := fun i => by
    show (moveP h f t).frames.getD i [] = _
    rw [moveP, a4]
    show (h.frames.set t (fAt h f)).getD i [] = _
    rw [getD_set _ _ _ _ _ (by rw [k.f8]; exact ht)]
    rfl
  have hm : ∀ g p, g < h.guests.length → p < 6 → mAt (moveP h f t) g p = if inF f (mAt h g p) = true then (true, (t : Int), (mAt h g p).2.2) else mAt h g p := fun g p hg hp => by
    rw [moveP, a5]
    by_cases e : inF f (mAt h g p) = true
    · rw [if_pos e, if_pos (mem_ten.2 ⟨hg, hp, e⟩)]
    · rw [if_neg e, if_neg (fun hc => e (mem_ten.1 hc).2.2)]
      rfl
  have hD : ∀ g p, dAt (moveP h f t) g p = dAt h g p := fun g p => by rw [moveP, a6]; rfl
  have hS : ∀ g i, g < h.guests.length → i < 6 → sAt (moveP h f t) g i = if (sAt h g i).1 = true ∧ inF f (mAt h g (sAt h g i).2.1.toNat) = true then noS else sAt h g i := fun g i hg hi => by
    have es : sAt (setF h t (fAt h f)) g i = sAt h g i := rfl
    rw [moveP, a7 g i hi, es]
    by_cases e : (sAt h g i).1 = true ∧ inF f (mAt h g (sAt h g i).2.1.toNat) = true
    · obtain ⟨s2, s5, _⟩ := k.si g i hg hi e.1
      rw [if_pos e, if_pos ⟨e.1, by omega, mem_ten.2 ⟨hg, by omega, e.2⟩⟩]
    · rw [if_neg e, if_neg (fun hc => e ⟨hc.1, (mem_ten.1 hc.2.2).2.2⟩)]
  have h1 : ∀ g p, g < h.guests.length → p < 6 → (mAt (moveP h f t) g p).1 = (mAt h g p).1 ∧ (mAt (moveP h f t) g p).2.2 = (mAt h g p).2.2 := fun g p hg hp => by
    rw [hm g p hg hp]
    by_cases e : inF f (mAt h g p) = true
    · rw [if_pos e, (inF_iff.1 e).1]; exact ⟨rfl, rfl⟩
    · rw [if_neg e]; exact ⟨rfl, rfl⟩
  have hlen : (moveP h f t).guests.length = h.guests.length := by rw [moveP, a2]; rfl
  refine ⟨⟨by show (moveP h f t).frames.length = 8; rw [moveP, a4]; show (h.frames.set t (fAt h f)).length = 8; rw [List.length_set]; exact k.f8, fun i hi => ?_, by rw [hlen]; exact k.n1, by rw [hlen]; exact k.n2, by rw [moveP, a3]; exact k.h0, by rw [moveP, a3]; exact k.h7, a1, fun g p hg hp => ?_, fun g p hg hp hx => ?_, fun g p hg hp hx => ?_, fun g p g' p' hg hp hg' hp' c1 c2 c3 c4 => ?_, fun g i hg hi hx => ?_, fun g i hg hi hx => ?_⟩, hlen, by rw [moveP, a3]; rfl, hfr, hm, hD, fun g p hg hp => ?_⟩
  · rw [hfr]
    by_cases e : i = t
    · rw [if_pos e]; exact k.fw f hf
    · rw [if_neg e]; exact k.fw i hi
  · rw [hlen] at hg; rw [hD]; exact k.dw g p hg hp
  · rw [hlen] at hg
    rw [(h1 g p hg hp).1] at hx
    rw [hm g p hg hp, if_neg (fun hc => by rw [(inF_iff.1 hc).1] at hx; cases hx)]
    exact k.mo g p hg hp hx
  · rw [hlen] at hg
    rw [(h1 g p hg hp).1] at hx
    obtain ⟨x1, x2, x3⟩ := k.mi g p hg hp hx
    rw [hm g p hg hp, hD]
    by_cases e : inF f (mAt h g p) = true
    · rw [if_pos e]; exact ⟨by show (0 : Int) ≤ (t : Int); omega, by show (t : Int) ≤ 7; omega, x3⟩
    · rw [if_neg e]; exact ⟨x1, x2, x3⟩
  · rw [hlen] at hg hg'
    rw [(h1 g p hg hp).1] at c1
    rw [(h1 g p hg hp).2] at c2
    rw [(h1 g' p' hg' hp').1] at c3
    rw [hm g p hg hp, hm g' p' hg' hp'] at c4
    by_cases e : inF f (mAt h g p) = true
    · rw [if_pos e] at c4
      by_cases e' : inF f (mAt h g' p') = true
      · exact k.al g p g' p' hg hp hg' hp' c1 c2 c3 (by rw [(inF_iff.1 e).2, (inF_iff.1 e').2])
      · rw [if_neg e'] at c4
        exact (hno g' p' hg' hp' c3 c4).elim
    · rw [if_neg e] at c4
      by_cases e' : inF f (mAt h g' p') = true
      · rw [if_pos e'] at c4
        exact (hno g p hg hp c1 c4.symm).elim
      · rw [if_neg e'] at c4
        exact k.al g p g' p' hg hp hg' hp' c1 c2 c3 c4
  · rw [hlen] at hg
    rw [hS g i hg hi] at hx ⊢
    by_cases e : (sAt h g i).1 = true ∧ inF f (mAt h g (sAt h g i).2.1.toNat) = true
    · rw [if_pos e]
    · rw [if_neg e] at hx ⊢; exact k.so g i hg hi hx
  · rw [hlen] at hg
    rw [hS g i hg hi] at hx ⊢
    by_cases e : (sAt h g i).1 = true ∧ inF f (mAt h g (sAt h g i).2.1.toNat) = true
    · rw [if_pos e] at hx; cases hx
    · rw [if_neg e] at hx ⊢
      obtain ⟨s1, s2, s3, s4, s5⟩ := k.si g i hg hi hx
      have e2 : ¬ inF f (mAt h g (sAt h g i).2.1.toNat) = true := fun hc => e ⟨hx, hc⟩
      rw [hm g _ hg (by omega), if_neg e2]
      exact ⟨s1, s2, s3, s4, s5⟩
  · rw [pAt_eq, pAt_eq h, hm g p hg hp]
    by_cases e : inF f (mAt h g p) = true
    · obtain ⟨x1, x2⟩ := inF_iff.1 e
      rw [if_pos e, x1, cond_true, cond_true, hfr, if_pos (by show (t : Int).toNat = t; exact Int.toNat_natCast t), x2, Int.toNat_natCast]
    · rw [if_neg e, hD]
      cases hx : (mAt h g p).1
      · rfl
      · obtain ⟨x1, x2, _⟩ := k.mi g p hg hp hx
        have := hno g p hg hp hx
        rw [cond_true, cond_true, hfr, if_neg (by omega)]
end Go.Proofs.Ytjegndgdpmlbaaa

/-
  A word of a frame written, a shade written, all shades of a guest forgotten, plainly, by places.
-/
namespace Go.Proofs.Ytjegndgdpmlbaaa
open Go.RowKit

theorem okP_set {zs : List Int} (h : okP zs = true) {o : Nat} {z : Int} (h0 : 0 ≤ z) (h63 : z ≤ 63) : okP (zs.set o z) = true := by
  simp only [okP, Bool.and_eq_true, List.all_eq_true, beq_iff_eq] at h ⊢
  refine ⟨fun x hx => ?_, by rw [List.length_set]; exact h.2⟩
  rcases List.mem_or_eq_of_mem_set hx with hx | rfl
  · exact h.1 x hx
  · simp [okZ, h0, h63]
/-- One word of a frame. -/
def wordP (h : Hst) (F o : Nat) (z : Int) : Hst := setF h F ((fAt h F).set o z)
theorem word_ok {h : Hst} (k : OkH h) {g p : Nat} (hg : g < h.guests.length) (hp : p < 6) (hm : (mAt h g p).1 = true) (hw : (mAt h g p).2.2 = true) {F o : Nat} (hF : (mAt h g p).2.1 = (F : Int)) {z : Int} (h0 : 0 ≤ z) (h63 : z ≤ 63) :
    OkH (wordP h F o z) ∧ (∀ g' p', g' < h.guests.length → p' < 6 → pAt (wordP h F o z) g' p' = if g' = g ∧ p' = p then (pAt h g p).set o z else pAt h g' p') := by
  have hF8 : F < 8 := by have := k.mi g p hg hp hm; omega
  have hfr : ∀ i, fAt (wordP h F o z) i = if i = F then (fAt h F).set o z else fAt h i := fun i => by
    show (h.frames.set F ((fAt h F).set o z)).getD i [] = _
    rw [getD_set _ _ _ _ _ (by rw [k.f8]; exact hF8)]
    rfl
  refine ⟨⟨by show (h.frames.set F _).length = 8; rw [List.length_set]; exact k.f8, fun i hi => ?_, k.n1, k.n2, k.h0, k.h7, k.six, k.dw, k.mo, k.mi, k.al, k.so, k.si⟩, fun g' p' hg' hp' => ?_⟩
  · rw [hfr]
    by_cases e : i = F
    · rw [if_pos e]; exact okP_set (k.fw F hF8) h0 h63
    · rw [if_neg e]; exact k.fw i hi
  · have em : mAt (wordP h F o z) g' p' = mAt h g' p' := rfl
    have ed : dAt (wordP h F o z) g' p' = dAt h g' p' := rfl
    rw [pAt_eq, em, ed]
    by_cases e : g' = g ∧ p' = p
    · rw [if_pos e, e.1, e.2, pAt_eq, hm, cond_true, cond_true, hfr, hF, Int.toNat_natCast, if_pos rfl]
    · rw [if_neg e, pAt_eq]
      cases hx : (mAt h g' p').1
      · rfl
      · have := k.mi g' p' hg' hp' hx
        rw [cond_true, cond_true, hfr, if_neg (fun hc => e (k.al g p g' p' hg hp hg' hp' hm hw hx (by rw [hF]; omega)))]
/-- One shade. -/
def setS (h : Hst) (g i : Nat) (s : S4) : Hst := setG h g (withS (gOf h g) ((gOf h g).shades.set i s))
theorem setS_len (h : Hst) (g i : Nat) (s : S4) : (setS h g i s).guests.length = h.guests.length := setG_len _ _ _
theorem setS_at {h : Hst} (hs : Six h) {g i : Nat} (hg : g < h.guests.length) (hi : i < 6) (s : S4) : Six (setS h g i s) ∧ (∀ g' p', mAt (setS h g i s) g' p' = mAt h g' p') ∧ (∀ g' p', dAt (setS h g i s) g' p' = dAt h g' p') ∧ (∀ g' j, sAt (setS h g i s) g' j = if g' = g ∧ j = i then s else sAt h g' j) := by
  obtain ⟨a, b, c⟩ := hs g hg
  refine ⟨fun j hj => ?_, fun g' p' => ?_, fun g' p' => ?_, fun g' j => ?_⟩
  · rw [setS_len] at hj
    unfold setS
    by_cases e : j = g
    · subst e
      rw [gOf_set_same hg]
      exact ⟨a, b, by show ((gOf h j).shades.set i s).length = 6; rw [List.length_set]; exact c⟩
    · rw [gOf_set_ne e]; exact hs j hj
  · unfold mAt setS
    by_cases e : g' = g
    · subst e; rw [gOf_set_same hg]; rfl
    · rw [gOf_set_ne e]
  · unfold dAt setS
    by_cases e : g' = g
    · subst e; rw [gOf_set_same hg]; rfl
    · rw [gOf_set_ne e]
  · unfold sAt setS
    by_cases e : g' = g
    · subst e
      rw [gOf_set_same hg]
      show ((gOf h g').shades.set i s).getD j noS = _
      rw [getD_set _ _ _ _ _ (by rw [c]; exact hi)]
      by_cases e2 : j = i
      · rw [if_pos e2, if_pos ⟨rfl, e2⟩]
      · rw [if_neg e2, if_neg (fun h => e2 h.2)]
    · rw [gOf_set_ne e, if_neg (fun h => e h.1)]
theorem setS_ok {h : Hst} (k : OkH h) {g i : Nat} (hg : g < h.guests.length) (hi : i < 6) {s : S4} (hn : s.1 = false → s = noS)
    (hy : s.1 = true → 2 ≤ s.2.1 ∧ s.2.1 ≤ 5 ∧ (mAt h g s.2.1.toNat).1 = true ∧ (mAt h g s.2.1.toNat).2.1 = s.2.2.1 ∧ (s.2.2.2 = true → (mAt h g s.2.1.toNat).2.2 = true)) : OkH (setS h g i s) ∧ ∀ g' p', pAt (setS h g i s) g' p' = pAt h g' p' := by
  obtain ⟨b1, b2, b3, b4⟩ := setS_at k.six hg hi s
  have hl := setS_len h g i s
  refine ⟨⟨k.f8, k.fw, by rw [hl]; exact k.n1, by rw [hl]; exact k.n2, k.h0, k.h7, b1, fun g' p' hg' hp' => ?_, fun g' p' hg' hp' hx => ?_, fun g' p' hg' hp' hx => ?_, fun g1 p1 g2 p2 hg1 hp1 hg2 hp2 c1 c2 c3 c4 => ?_, fun g' j hg' hj hx => ?_, fun g' j hg' hj hx => ?_⟩, fun g' p' => ?_⟩
  · rw [hl] at hg'; rw [b3]; exact k.dw g' p' hg' hp'
  · rw [hl] at hg'; rw [b2] at hx ⊢; exact k.mo g' p' hg' hp' hx
  · rw [hl] at hg'; rw [b2] at hx ⊢; rw [b3]; exact k.mi g' p' hg' hp' hx
  · rw [hl] at hg1 hg2
    rw [b2] at c1 c2 c3 c4
    rw [b2] at c4
    exact k.al g1 p1 g2 p2 hg1 hp1 hg2 hp2 c1 c2 c3 c4
  · rw [hl] at hg'
    rw [b4] at hx ⊢
    by_cases e : g' = g ∧ j = i
    · rw [if_pos e] at hx ⊢; exact hn hx
    · rw [if_neg e] at hx ⊢; exact k.so g' j hg' hj hx
  · rw [hl] at hg'
    rw [b4] at hx ⊢
    rw [b2]
    by_cases e : g' = g ∧ j = i
    · rw [if_pos e] at hx ⊢; rw [e.1]; exact hy hx
    · rw [if_neg e] at hx ⊢; exact k.si g' j hg' hj hx
  · rw [pAt_eq, pAt_eq h, b2, b3]
    rfl
end Go.Proofs.Ytjegndgdpmlbaaa

/-
  What a guest's own guest reads and writes, plainly, by places: by a shade, or by a walk.
-/
namespace Go.Proofs.Ytjegndgdpmlbaaa
open Go.RowKit

theorem entE_in {z : Int} (h : (entE z).1 = true) : 2 ≤ (entE z).2.1 ∧ (entE z).2.1 ≤ 5 := by
  simp only [entE, inW, Bool.and_eq_true, decide_eq_true_eq] at h
  have hin : inW z = true := by simp only [inW, Bool.and_eq_true, decide_eq_true_eq]; exact h
  simp only [entE, pgW, hin, cond_true]
  omega
/-- A word of what a page has; the entry that a table tells. -/
def zAt (h : Hst) (g p o : Nat) : Int := (pAt h g p).getD o 0
def eAt (h : Hst) (g i : Nat) : E3 := entE (zAt h g (i / 4) (i % 4))
/-- The host behind a reading by a walk that leads somewhere; the shade that is cast. -/
def castS (h : Hst) (g p : Nat) (w : Bool) : S4 := (true, (p : Int), (mAt h g p).2.1, w && (mAt h g p).2.2)
def rinH (h : Hst) (g i : Nat) : Hst :=
  bif (sAt h g i).1 then h else
    bif (eAt h g i).1 then setS (inP (inP h g (i / 4)) g (eAt h g i).2.1.toNat) g i (castS (inP (inP h g (i / 4)) g (eAt h g i).2.1.toNat) g (eAt h g i).2.1.toNat (eAt h g i).2.2) else inP h g (i / 4)
/-- The page that is read: by the shade, or the entry. -/
def rinG (h : Hst) (g i o : Nat) : Int :=
  bif (sAt h g i).1 then zAt h g (sAt h g i).2.1.toNat o else bif (eAt h g i).1 then zAt h g (eAt h g i).2.1.toNat o else -1
theorem cast_ok {h : Hst} (k : OkH h) {g i p : Nat} (hg : g < h.guests.length) (hi : i < 6) (h2 : 2 ≤ p) (h5 : p ≤ 5) (hm : (mAt h g p).1 = true) (w : Bool) : OkH (setS h g i (castS h g p w)) ∧ ∀ g' p', pAt (setS h g i (castS h g p w)) g' p' = pAt h g' p' :=
  setS_ok k hg hi (fun hc => by cases hc) (fun _ => ⟨by show (2 : Int) ≤ (p : Int); omega, by show (p : Int) ≤ 5; omega, by show (mAt h g (p : Int).toNat).1 = true; rw [Int.toNat_natCast]; exact hm, by show (mAt h g (p : Int).toNat).2.1 = (mAt h g p).2.1; rw [Int.toNat_natCast], fun hw => by
    show (mAt h g (p : Int).toNat).2.2 = true
    rw [Int.toNat_natCast]
    have : (w && (mAt h g p).2.2) = true := hw
    rw [Bool.and_eq_true] at this
    exact this.2⟩)
theorem rin_ok {h : Hst} (k : OkH h) {g i : Nat} (hg : g < h.guests.length) (hi : i < 6) : OkH (rinH h g i) ∧ (rinH h g i).guests.length = h.guests.length ∧ (∀ g' p', g' < h.guests.length → p' < 6 → pAt (rinH h g i) g' p' = pAt h g' p') := by
  rw [rinH]
  cases hs : (sAt h g i).1
  · rw [cond_false]
    obtain ⟨k1, c1, _⟩ := inP_ok k hg (show i / 4 < 6 by omega)
    have l1 := inP_len k g (i / 4)
    cases he : (eAt h g i).1
    · exact ⟨k1, l1, c1⟩
    · obtain ⟨e2, e5⟩ := entE_in he
      have e2 : 2 ≤ (eAt h g i).2.1 := e2
      have e5 : (eAt h g i).2.1 ≤ 5 := e5
      rw [cond_true]
      have hg1 : g < (inP h g (i / 4)).guests.length := by omega
      obtain ⟨k2, c2, m2⟩ := inP_ok k1 hg1 (show (eAt h g i).2.1.toNat < 6 by omega)
      have l2 := inP_len k1 g (eAt h g i).2.1.toNat
      obtain ⟨k3, c3⟩ := cast_ok k2 (i := i) (by omega : g < _) hi (show 2 ≤ (eAt h g i).2.1.toNat by omega) (by omega) m2 (eAt h g i).2.2
      exact ⟨k3, by rw [setS_len, l2, l1], fun g' p' h1 h2 => by rw [c3, c2 g' p' (by omega) h2, c1 g' p' h1 h2]⟩
  · exact ⟨k, rfl, fun _ _ _ _ => rfl⟩

/-- A host behind a writing. -/
def winW (h : Hst) (g i : Nat) : Bool := (sAt h g i).1 && (sAt h g i).2.2.2
def winX (h : Hst) (g i : Nat) : Hst := inP (setS h g i noS) g (i / 4)
def winY (h : Hst) (g i : Nat) : Hst := setS (ownP (winX h g i) g (eAt h g i).2.1.toNat) g i (castS (ownP (winX h g i) g (eAt h g i).2.1.toNat) g (eAt h g i).2.1.toNat true)
def winH (h : Hst) (g i o : Nat) (z : Int) : Hst :=
  bif winW h g i then wordP h (sAt h g i).2.2.1.toNat o z else
    bif (eAt h g i).1 && (eAt h g i).2.2 then wordP (winY h g i) (mAt (winY h g i) g (eAt h g i).2.1.toNat).2.1.toNat o z else winX h g i
def winG (h : Hst) (g i o : Nat) : Int :=
  bif winW h g i then zAt h g (sAt h g i).2.1.toNat o else bif (eAt h g i).1 then (bif (eAt h g i).2.2 then zAt h g (eAt h g i).2.1.toNat o else -2) else -1
theorem winX_ok {h : Hst} (k : OkH h) {g i : Nat} (hg : g < h.guests.length) (hi : i < 6) : OkH (winX h g i) ∧ (winX h g i).guests.length = h.guests.length ∧ (∀ g' p', g' < h.guests.length → p' < 6 → pAt (winX h g i) g' p' = pAt h g' p') := by
  obtain ⟨k0, c0⟩ := setS_ok k hg hi (s := noS) (fun _ => rfl) (fun hc => by cases hc)
  have l0 := setS_len h g i noS
  obtain ⟨k1, c1, _⟩ := inP_ok k0 (by rw [l0]; exact hg) (show i / 4 < 6 by omega)
  exact ⟨k1, by rw [winX, inP_len k0, l0], fun g' p' h1 h2 => by rw [winX, c1 g' p' (by rw [l0]; exact h1) h2, c0]⟩
theorem win_ok {h : Hst} (k : OkH h) {g i o : Nat} (hg : g < h.guests.length) (hi : i < 6) {z : Int} (h0 : 0 ≤ z) (h63 : z ≤ 63) : OkH (winH h g i o z) ∧ (winH h g i o z).guests.length = h.guests.length ∧
    ((winW h g i = false ∧ ((eAt h g i).1 && (eAt h g i).2.2) = false ∧ ∀ g' p', g' < h.guests.length → p' < 6 → pAt (winH h g i o z) g' p' = pAt h g' p') ∨
     (∃ q : Nat, 2 ≤ q ∧ q ≤ 5 ∧ winG h g i o = zAt h g q o ∧ ((winW h g i = true ∧ q = (sAt h g i).2.1.toNat) ∨ (winW h g i = false ∧ ((eAt h g i).1 && (eAt h g i).2.2) = true ∧ q = (eAt h g i).2.1.toNat)) ∧ ∀ g' p', g' < h.guests.length → p' < 6 → pAt (winH h g i o z) g' p' = if g' = g ∧ p' = q then (pAt h g q).set o z else pAt h g' p')) := by
  rw [winH]
  cases hw : winW h g i
  · rw [cond_false]
    obtain ⟨k1, l1, c1⟩ := winX_ok k hg hi
    cases he : (eAt h g i).1 && (eAt h g i).2.2
    · exact ⟨k1, l1, Or.inl ⟨rfl, rfl, c1⟩⟩
    · rw [cond_true]
      have he' := he
      rw [Bool.and_eq_true] at he
      obtain ⟨e2, e5⟩ := entE_in he.1
      have e2 : 2 ≤ (eAt h g i).2.1 := e2
      have e5 : (eAt h g i).2.1 ≤ 5 := e5
      have hg1 : g < (winX h g i).guests.length := by omega
      obtain ⟨k2, l2, c2, m2, w2⟩ := ownP_ok k1 hg1 (show (eAt h g i).2.1.toNat < 6 by omega)
      have hg2 : g < (ownP (winX h g i) g (eAt h g i).2.1.toNat).guests.length := by omega
      obtain ⟨k3, c3⟩ := cast_ok k2 (i := i) hg2 hi (show 2 ≤ (eAt h g i).2.1.toNat by omega) (by omega) m2 true
      have l3 : (winY h g i).guests.length = h.guests.length := by rw [winY, setS_len, l2, l1]
      have b3 := setS_at k2.six hg2 hi (castS (ownP (winX h g i) g (eAt h g i).2.1.toNat) g (eAt h g i).2.1.toNat true)
      have m3 : (mAt (winY h g i) g (eAt h g i).2.1.toNat).1 = true := by rw [winY, b3.2.1]; exact m2
      have w3 : (mAt (winY h g i) g (eAt h g i).2.1.toNat).2.2 = true := by rw [winY, b3.2.1]; exact w2
      have hp : (eAt h g i).2.1.toNat < 6 := by omega
      have k3 : OkH (winY h g i) := k3
      have hF := k3.mi g _ (by omega) hp m3
      obtain ⟨k4, c4⟩ := word_ok k3 (g := g) (p := (eAt h g i).2.1.toNat) (by omega) hp m3 w3 (F := (mAt (winY h g i) g (eAt h g i).2.1.toNat).2.1.toNat) (o := o) (by omega) h0 h63
      have hsame : ∀ g' p', g' < h.guests.length → p' < 6 → pAt (winY h g i) g' p' = pAt h g' p' := fun g' p' h1 h2 => by rw [winY, c3, c2 g' p' (by omega) h2, c1 g' p' h1 h2]
      refine ⟨k4, l3, Or.inr ⟨(eAt h g i).2.1.toNat, by omega, by omega, by rw [winG, hw, he.1, he.2]; rfl, Or.inr ⟨rfl, rfl, rfl⟩, fun g' p' h1 h2 => ?_⟩⟩
      rw [c4 g' p' (by omega) h2]
      by_cases e : g' = g ∧ p' = (eAt h g i).2.1.toNat
      · rw [if_pos e, if_pos e, hsame g _ hg hp]
      · rw [if_neg e, if_neg e, hsame g' p' h1 h2]
  · rw [cond_true]
    have hw' := hw
    rw [winW, Bool.and_eq_true] at hw
    obtain ⟨s2, s5, s3, s4, s6⟩ := k.si g i hg hi hw.1
    have hp : (sAt h g i).2.1.toNat < 6 := by omega
    have hF := k.mi g _ hg hp s3
    obtain ⟨k4, c4⟩ := word_ok k hg hp s3 (s6 hw.2) (F := (sAt h g i).2.2.1.toNat) (o := o) (by rw [s4] at hF ⊢; omega) h0 h63
    exact ⟨k4, rfl, Or.inr ⟨(sAt h g i).2.1.toNat, by omega, by omega, by rw [winG, hw']; rfl, Or.inl ⟨rfl, rfl⟩, c4⟩⟩

end Go.Proofs.Ytjegndgdpmlbaaa
