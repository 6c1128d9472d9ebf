/-
  Pages that get another map, plainly, by places: one, several; what is shared, what is moved.
-/
import Derived.Test.YtdamdjhnhkmncaaKT
import Derived.Test.YtdamdjhnhkmncaaKPA
namespace Go.Proofs.Ytdamdjhnhkmncaa
open Go.RowKit

/-- A page gets another map; shades that lead to it are forgotten. -/
def settleP (h : Hst) (g p : Nat) (m : E3) : Hst := setG h g (settled (gOf h g) p m 6)
theorem settleP_len (h : Hst) (g p : Nat) (m : E3) : (settleP h g p m).guests.length = h.guests.length := setG_len _ _ _
theorem settleP_at {h : Hst} (hs : Six h) {g p : Nat} (hg : g < h.guests.length) (hp : p < 6) (m : E3) : Six (settleP h g p m) ∧ (∀ g' p', mAt (settleP h g p m) g' p' = if g' = g ∧ p' = p then m else mAt h g' p') ∧ (∀ g' p', dAt (settleP h g p m) g' p' = dAt h g' p') ∧
    (∀ g' i, i < 6 → sAt (settleP h g p m) g' i = bif decide (g' = g) && hitS (p : Int) (sAt h g' i) then noS else sAt h g' i) := by
  obtain ⟨a, b, c⟩ := hs g hg
  refine ⟨fun i hi => ?_, fun g' p' => ?_, fun g' p' => ?_, fun g' i hi => ?_⟩
  · rw [settleP_len] at hi
    unfold settleP
    by_cases e : i = g
    · subst e
      rw [gOf_set_same hg]
      exact ⟨by show ((gOf h i).maps.set p m).length = 6; rw [List.length_set]; exact a, b, by show (fU (gOf h i).shades (p : Int) 6).length = 6; rw [fU_len]; exact c⟩
    · rw [gOf_set_ne e]; exact hs i hi
  · unfold mAt settleP
    by_cases e : g' = g
    · subst e
      rw [gOf_set_same hg]
      show ((gOf h g').maps.set p m).getD p' noM = _
      rw [getD_set _ _ _ _ _ (by rw [a]; exact hp)]
      by_cases e2 : p' = p
      · rw [if_pos e2, if_pos ⟨rfl, e2⟩]
      · rw [if_neg e2, if_neg (fun h => e2 h.2)]
    · rw [gOf_set_ne e, if_neg (fun h => e h.1)]
  · unfold dAt settleP
    by_cases e : g' = g
    · subst e; rw [gOf_set_same hg]; rfl
    · rw [gOf_set_ne e]
  · unfold sAt settleP
    by_cases e : g' = g
    · subst e
      rw [gOf_set_same hg]
      show (fU (gOf h g').shades (p : Int) 6).getD i noS = _
      rw [fU_at c hi]
      simp
    · rw [gOf_set_ne e]
      simp [e]
/-- Several pages. -/
def settleAll (M : Nat → Nat → E3) (h : Hst) (l : List (Nat × Nat)) : Hst := l.foldl (fun h x => settleP h x.1 x.2 (M x.1 x.2)) h
theorem settleAll_at (M : Nat → Nat → E3) : ∀ (l : List (Nat × Nat)) {h : Hst} (_ : Six h) (_ : Plc h.guests.length l), Six (settleAll M h l) ∧ (settleAll M h l).guests.length = h.guests.length ∧ (settleAll M h l).hand = h.hand ∧ (settleAll M h l).frames = h.frames ∧
    (∀ g p, mAt (settleAll M h l) g p = if (g, p) ∈ l then M g p else mAt h g p) ∧ (∀ g p, dAt (settleAll M h l) g p = dAt h g p) ∧
    (∀ g i, i < 6 → sAt (settleAll M h l) g i = if (sAt h g i).1 = true ∧ 0 ≤ (sAt h g i).2.1 ∧ (g, (sAt h g i).2.1.toNat) ∈ l then noS else sAt h g i)
  | [], h, hs, _ => by
    refine ⟨hs, rfl, rfl, rfl, fun g p => ?_, fun g p => rfl, fun g i _ => ?_⟩
    · rw [if_neg (by simp)]; rfl
    · rw [if_neg (by simp)]; rfl
  | x :: l, h, hs, hP => by
    obtain ⟨g0, p0⟩ := x
    obtain ⟨hg0, hp0⟩ := hP (g0, p0) (List.mem_cons_self ..)
    obtain ⟨a1, a2, a3, a4⟩ := settleP_at hs hg0 hp0 (M g0 p0)
    have hl := settleP_len h g0 p0 (M g0 p0)
    obtain ⟨i1, i2, i3, i4, i5, i6, i7⟩ := settleAll_at M l a1 (by rw [hl]; exact fun y hy => hP y (List.mem_cons_of_mem _ hy))
    have e : settleAll M h ((g0, p0) :: l) = settleAll M (settleP h g0 p0 (M g0 p0)) l := rfl
    rw [e]
    refine ⟨i1, by rw [i2, hl], i3, i4, fun g p => ?_, fun g p => by rw [i6, a3], fun g i hi => ?_⟩
    · rw [i5, a2]
      by_cases h1 : (g, p) ∈ l
      · rw [if_pos h1, if_pos (List.mem_cons_of_mem _ h1)]
      · rw [if_neg h1]
        by_cases h2 : g = g0 ∧ p = p0
        · obtain ⟨rfl, rfl⟩ := h2
          rw [if_pos ⟨rfl, rfl⟩, if_pos (List.mem_cons_self ..)]
        · rw [if_neg h2, if_neg (fun hc => by
            rcases List.mem_cons.1 hc with hc | hc
            · cases hc; exact h2 ⟨rfl, rfl⟩
            · exact h1 hc)]
    · rw [i7 g i hi, a4 g i hi]
      by_cases h2 : g = g0 ∧ hitS (p0 : Int) (sAt h g i) = true
      · obtain ⟨rfl, h2⟩ := h2
        obtain ⟨h3, h4⟩ := hitS_iff.1 h2
        rw [h2, show decide (g = g) = true by simp]
        simp only [Bool.true_and, cond_true]
        rw [if_neg (fun hc => by cases hc.1), if_pos ⟨h3, by omega, by rw [h4, Int.toNat_natCast]; exact List.mem_cons_self ..⟩]
      · have hf : (decide (g = g0) && hitS (p0 : Int) (sAt h g i)) = false := by
          by_cases e1 : g = g0
          · have : hitS (p0 : Int) (sAt h g i) = false := by
              cases hc : hitS (p0 : Int) (sAt h g i)
              · rfl
              · exact (h2 ⟨e1, hc⟩).elim
            rw [this, Bool.and_false]
          · simp [e1]
        rw [hf, cond_false]
        by_cases h5 : (sAt h g i).1 = true ∧ 0 ≤ (sAt h g i).2.1 ∧ (g, (sAt h g i).2.1.toNat) ∈ l
        · rw [if_pos h5, if_pos ⟨h5.1, h5.2.1, List.mem_cons_of_mem _ h5.2.2⟩]
        · rw [if_neg h5, if_neg (fun hc => by
            obtain ⟨h6, h0, h7⟩ := hc
            rcases List.mem_cons.1 h7 with h7 | h7
            · simp only [Prod.mk.injEq] at h7
              exact h2 ⟨h7.1, hitS_iff.2 ⟨h6, by omega⟩⟩
            · exact h5 ⟨h6, h0, h7⟩)]
/-- Two hosts told alike by settling the same pages are the same. -/
theorem settleAll_same {M : Nat → Nat → E3} {l m : List (Nat × Nat)} {h : Hst} (hs : Six h) (hl : Plc h.guests.length l) (hm : Plc h.guests.length m) (hlm : ∀ x, x ∈ l ↔ x ∈ m) : settleAll M h l = settleAll M h m := by
  obtain ⟨a1, a2, a3, a4, a5, a6, a7⟩ := settleAll_at M l hs hl
  obtain ⟨b1, b2, b3, b4, b5, b6, b7⟩ := settleAll_at M m hs hm
  refine hst_ext (by rw [a4, b4]) (by rw [a3, b3]) (by rw [a2, b2]) a1 b1 (fun g p _ _ => ?_) (fun g p _ _ => by rw [a6, b6]) (fun g i _ hi => ?_)
  · rw [a5, b5]
    by_cases e : (g, p) ∈ l
    · rw [if_pos e, if_pos ((hlm _).1 e)]
    · rw [if_neg e, if_neg (fun hc => e ((hlm _).2 hc))]
  · rw [a7 g i hi, b7 g i hi]
    by_cases e : (sAt h g i).1 = true ∧ 0 ≤ (sAt h g i).2.1 ∧ (g, (sAt h g i).2.1.toNat) ∈ l
    · rw [if_pos e, if_pos ⟨e.1, e.2.1, (hlm _).1 e.2.2⟩]
    · rw [if_neg e, if_neg (fun hc => e ⟨hc.1, hc.2.1, (hlm _).2 hc.2.2⟩)]

/-- What is in one frame, or another, is in the latter, not to be written. -/
def inFT (from_ to_ : Nat) (m : E3) : Bool := inF from_ m || inF to_ m
def shareL (h : Hst) (from_ to_ : Nat) : List (Nat × Nat) := ten h.guests to_ ++ ten h.guests from_
def shareP (h : Hst) (from_ to_ : Nat) : Hst := settleAll (fun _ _ => (true, (to_ : Int), false)) h (shareL h from_ to_)
theorem mem_shareL {h : Hst} {f t g p : Nat} : (g, p) ∈ shareL h f t ↔ g < h.guests.length ∧ p < 6 ∧ inFT f t (mAt h g p) = true := by
  rw [shareL, List.mem_append, mem_ten, mem_ten, inFT, Bool.or_eq_true]
  constructor
  · rintro (⟨a, b, c⟩ | ⟨a, b, c⟩)
    · exact ⟨a, b, Or.inr c⟩
    · exact ⟨a, b, Or.inl c⟩
  · rintro ⟨a, b, c | c⟩
    · exact Or.inr ⟨a, b, c⟩
    · exact Or.inl ⟨a, b, c⟩
theorem plc_share (h : Hst) (f t : Nat) : Plc h.guests.length (shareL h f t) := fun x hx => by
  obtain ⟨a, b⟩ := x
  obtain ⟨h1, h2, _⟩ := mem_shareL.1 hx
  exact ⟨h1, h2⟩
theorem share_ok {h : Hst} (k : OkH h) {f t : Nat} (ht : t < 8) (hsame : fAt h f = fAt h t) : OkH (shareP h f t) ∧ (shareP h f t).guests.length = h.guests.length ∧ (∀ g p, g < h.guests.length → p < 6 → pAt (shareP h f t) g p = pAt h g p) := by
  obtain ⟨a1, a2, a3, a4, a5, a6, a7⟩ := settleAll_at (fun _ _ => (true, (t : Int), false)) (shareL h f t) k.six (plc_share h f t)
  have hm : ∀ g p, g < h.guests.length → p < 6 → mAt (shareP h f t) g p = if inFT f t (mAt h g p) = true then (true, (t : Int), false) else mAt h g p := fun g p hg hp => by
    rw [shareP, a5]
    by_cases e : inFT f t (mAt h g p) = true
    · rw [if_pos e, if_pos (mem_shareL.2 ⟨hg, hp, e⟩)]
    · rw [if_neg e, if_neg (fun hc => e (mem_shareL.1 hc).2.2)]
  have hS : ∀ g i, g < h.guests.length → i < 6 → sAt (shareP h f t) g i = if (sAt h g i).1 = true ∧ inFT f t (mAt h g (sAt h g i).2.1.toNat) = true then noS else sAt h g i := fun g i hg hi => by
    rw [shareP, a7 g i hi]
    by_cases e : (sAt h g i).1 = true ∧ inFT f t (mAt h g (sAt h g i).2.1.toNat) = true
    · obtain ⟨s2, s5, _⟩ := k.si g i hg hi e.1
      rw [if_pos e, if_pos ⟨e.1, by omega, mem_shareL.2 ⟨hg, by omega, e.2⟩⟩]
    · rw [if_neg e, if_neg (fun hc => e ⟨hc.1, (mem_shareL.1 hc.2.2).2.2⟩)]
  have hin : ∀ m : E3, inFT f t m = true → m.1 = true ∧ (m.2.1 = (f : Int) ∨ m.2.1 = (t : Int)) := fun m hc => by
    rw [inFT, Bool.or_eq_true] at hc
    rcases hc with hc | hc
    · exact ⟨(inF_iff.1 hc).1, Or.inl (inF_iff.1 hc).2⟩
    · exact ⟨(inF_iff.1 hc).1, Or.inr (inF_iff.1 hc).2⟩
  have h1 : ∀ g p, g < h.guests.length → p < 6 → (mAt (shareP h f t) g p).1 = (mAt h g p).1 := fun g p hg hp => by
    rw [hm g p hg hp]
    by_cases e : inFT f t (mAt h g p) = true
    · rw [if_pos e, (hin _ e).1]
    · rw [if_neg e]
  refine ⟨⟨by show (shareP h f t).frames.length = 8; rw [shareP, a4]; exact k.f8, fun i hi => by show okP ((shareP h f t).frames.getD i []) = true; rw [shareP, a4]; exact k.fw i hi, by rw [shareP, a2]; exact k.n1, by rw [shareP, a2]; exact k.n2, by rw [shareP, a3]; exact k.h0, by rw [shareP, a3]; exact k.h7, a1, fun g p hg hp => ?_, fun g p hg hp hx => ?_, fun g p hg hp hx => ?_, fun g p g' p' hg hp hg' hp' c1 c2 c3 c4 => ?_, fun g i hg hi hx => ?_, fun g i hg hi hx => ?_⟩, by rw [shareP, a2], fun g p hg hp => ?_⟩
  · rw [shareP, a2] at hg; rw [shareP, a6]; exact k.dw g p hg hp
  · rw [shareP, a2] at hg
    rw [h1 g p hg hp] at hx
    rw [hm g p hg hp, if_neg (fun hc => by rw [(hin _ hc).1] at hx; cases hx)]
    exact k.mo g p hg hp hx
  · rw [shareP, a2] at hg
    rw [h1 g p hg hp] at hx
    obtain ⟨x1, x2, x3⟩ := k.mi g p hg hp hx
    rw [hm g p hg hp, shareP, a6]
    by_cases e : inFT f t (mAt h g p) = true
    · rw [if_pos e]; exact ⟨by show (0 : Int) ≤ (t : Int); omega, by show (t : Int) ≤ 7; omega, x3⟩
    · rw [if_neg e]; exact ⟨x1, x2, x3⟩
  · rw [shareP, a2] at hg hg'
    rw [h1 g p hg hp] at c1
    rw [h1 g' p' hg' hp'] at c3
    rw [hm g p hg hp] at c2
    by_cases e : inFT f t (mAt h g p) = true
    · rw [if_pos e] at c2; cases c2
    · rw [if_neg e] at c2
      rw [hm g p hg hp, if_neg e, hm g' p' hg' hp'] at c4
      by_cases e' : inFT f t (mAt h g' p') = true
      · rw [if_pos e'] at c4
        refine (e ?_).elim
        rw [inFT, Bool.or_eq_true]
        exact Or.inr (inF_iff.2 ⟨c1, c4.symm⟩)
      · rw [if_neg e'] at c4
        exact k.al g p g' p' hg hp hg' hp' c1 c2 c3 c4
  · rw [shareP, a2] at hg
    rw [hS g i hg hi] at hx ⊢
    by_cases e : (sAt h g i).1 = true ∧ inFT f t (mAt h g (sAt h g i).2.1.toNat) = true
    · rw [if_pos e]
    · rw [if_neg e] at hx ⊢; exact k.so g i hg hi hx
  · rw [shareP, a2] at hg
    rw [hS g i hg hi] at hx ⊢
    by_cases e : (sAt h g i).1 = true ∧ inFT f t (mAt h g (sAt h g i).2.1.toNat) = true
    · rw [if_pos e] at hx; cases hx
    · rw [if_neg e] at hx ⊢
      obtain ⟨s1, s2, s3, s4, s5⟩ := k.si g i hg hi hx
      have e2 : ¬ inFT f t (mAt h g (sAt h g i).2.1.toNat) = true := fun hc => e ⟨hx, hc⟩
      rw [hm g _ hg (by omega), if_neg e2]
      exact ⟨s1, s2, s3, s4, s5⟩
  · have hfr : ∀ i, fAt (shareP h f t) i = fAt h i := fun i => by show (shareP h f t).frames.getD i [] = _; rw [shareP, a4]; rfl
    rw [pAt_eq, pAt_eq h, hm g p hg hp]
    by_cases e : inFT f t (mAt h g p) = true
    · obtain ⟨x1, x2⟩ := hin _ e
      rw [if_pos e, x1, cond_true, cond_true, hfr, show ((true, (t : Int), false) : E3).2.1.toNat = t from Int.toNat_natCast t]
      rcases x2 with x2 | x2
      · rw [x2, Int.toNat_natCast, hsame]
      · rw [x2, Int.toNat_natCast]
    · rw [if_neg e, hfr, show dAt (shareP h f t) g p = dAt h g p by rw [shareP, a6]]
end Go.Proofs.Ytdamdjhnhkmncaa

/-
  What is in a frame moved to a free one, plainly, by places.
-/
namespace Go.Proofs.Ytdamdjhnhkmncaa
open Go.RowKit

end Go.Proofs.Ytdamdjhnhkmncaa

/-
  A word of a frame written, a shade written, all shades of a guest forgotten, plainly, by places.
-/
namespace Go.Proofs.Ytdamdjhnhkmncaa
open Go.RowKit

end Go.Proofs.Ytdamdjhnhkmncaa

/-
  What a guest's own guest reads and writes, plainly, by places: by a shade, or by a walk.
-/
namespace Go.Proofs.Ytdamdjhnhkmncaa
open Go.RowKit

end Go.Proofs.Ytdamdjhnhkmncaa
