/-
  Hosts, plainly, by places: what an ok host is, place by place; who is in a frame.
-/
import Derived.Test.YtjegndgdpmlbaaaKOX
import Derived.Test.YtjegndgdpmlbaaaKOHM
namespace Go.Proofs.Ytjegndgdpmlbaaa
open Go.RowKit

def mAt (h : Hst) (g p : Nat) : E3 := (gOf h g).maps.getD p noM
def dAt (h : Hst) (g p : Nat) : List Int := (gOf h g).disk.getD p []
def sAt (h : Hst) (g p : Nat) : S4 := (gOf h g).shades.getD p noS
def fAt (h : Hst) (f : Nat) : List Int := h.frames.getD f []
/-- The lists of a guest have the lengths that they ought to have. -/
def Six (h : Hst) : Prop := ∀ g, g < h.guests.length → (gOf h g).maps.length = 6 ∧ (gOf h g).disk.length = 6 ∧ (gOf h g).shades.length = 6

theorem users_ex {h : Hst} {f : Int} (hu : 1 ≤ usersH h f) : ∃ g p, g < h.guests.length ∧ p < (gOf h g).maps.length ∧ inF f (mAt h g p) = true := by
  have key : ∀ (l : List Gst), 1 ≤ (l.map (usersG f)).sum → ∃ i, i < l.length ∧ 1 ≤ usersG f (l.getD i noG) := by
    intro l
    induction l with
    | nil => intro hc; simp at hc
    | cons x l ih =>
      intro hc
      by_cases hx : 1 ≤ usersG f x
      · exact ⟨0, by simp, by simpa using hx⟩
      · obtain ⟨i, h1, h2⟩ := ih (by simp only [List.map_cons, List.sum_cons] at hc; omega)
        exact ⟨i + 1, by simpa using h1, by simpa using h2⟩
  obtain ⟨g, hg, hug⟩ := key h.guests hu
  have hpos : 0 < ((h.guests.getD g noG).maps.filter (inF f)).length := hug
  obtain ⟨m, hm⟩ := List.exists_mem_of_length_pos hpos
  rw [List.mem_filter] at hm
  obtain ⟨p, hp, e⟩ := List.getElem_of_mem hm.1
  refine ⟨g, p, hg, hp, ?_⟩
  show inF f ((gOf h g).maps.getD p noM) = true
  rw [show (gOf h g).maps.getD p noM = m from (getD_lt (l := (h.guests.getD g noG).maps) hp).trans e]
  exact hm.2
theorem users_zero {h : Hst} {f : Int} (hs : Six h) : usersH h f = 0 ↔ ∀ g p, g < h.guests.length → p < 6 → inF f (mAt h g p) = false := by
  constructor
  · intro hu g p hg hp
    cases hc : inF f (mAt h g p)
    · rfl
    · have := users_pos hg (show p < (gOf h g).maps.length by rw [(hs g hg).1]; exact hp) hc
      omega
  · intro hk
    cases Nat.eq_zero_or_pos (usersH h f) with
    | inl h0 => exact h0
    | inr h1 =>
      obtain ⟨g, p, hg, hp, hc⟩ := users_ex h1
      rw [(hs g hg).1] at hp
      rw [hk g p hg hp] at hc
      cases hc
/-- One map of a host written. -/
def setM (h : Hst) (g p : Nat) (m : E3) : Hst := setG h g (withMs (gOf h g) ((gOf h g).maps.set p m))
theorem setM_len (h : Hst) (g p : Nat) (m : E3) : (setM h g p m).guests.length = h.guests.length := setG_len _ _ _
theorem users_setM {h : Hst} {g p : Nat} (hg : g < h.guests.length) (hp : p < (gOf h g).maps.length) (m : E3) (f : Int) : usersH (setM h g p m) f + (bif inF f (mAt h g p) then 1 else 0) = usersH h f + (bif inF f m then 1 else 0) := by
  have h1 := users_set hg (withMs (gOf h g) ((gOf h g).maps.set p m)) f
  have h2 := users_map hp m (gOf h g).disk (gOf h g).shades f
  have e : withMs (gOf h g) ((gOf h g).maps.set p m) = ⟨(gOf h g).maps.set p m, (gOf h g).disk, (gOf h g).shades⟩ := rfl
  rw [← e] at h2
  have e2 : mAt h g p = (gOf h g).maps.getD p noM := rfl
  rw [e2]
  show usersH (setG h g (withMs (gOf h g) ((gOf h g).maps.set p m))) f + _ = _
  omega
theorem mAt_setM {h : Hst} {g p : Nat} (hg : g < h.guests.length) (hp : p < (gOf h g).maps.length) (m : E3) (g' p' : Nat) : mAt (setM h g p m) g' p' = if g' = g ∧ p' = p then m else mAt h g' p' := by
  unfold mAt setM
  by_cases e : g' = g
  · subst e
    rw [gOf_set_same hg]
    show ((gOf h g').maps.set p m).getD p' noM = _
    rw [getD_set _ _ _ _ _ hp]
    by_cases e2 : p' = p
    · rw [if_pos e2, if_pos ⟨rfl, e2⟩]
    · rw [if_neg e2, if_neg (fun h => e2 h.2)]
  · rw [gOf_set_ne e, if_neg (fun h => e h.1)]
theorem six_setM {h : Hst} (hs : Six h) {g p : Nat} (hg : g < h.guests.length) (m : E3) : Six (setM h g p m) := fun i hi => by
  rw [setM_len] at hi
  unfold setM
  by_cases e : i = g
  · subst e
    rw [gOf_set_same hg]
    obtain ⟨a, b, c⟩ := hs i hi
    exact ⟨by show ((gOf h i).maps.set p m).length = 6; rw [List.length_set]; exact a, b, c⟩
  · rw [gOf_set_ne e]; exact hs i hi
/-- Of a page that is in a frame: it is there alone just if one is counted. -/
theorem users_one {h : Hst} (hs : Six h) {g p : Nat} (hg : g < h.guests.length) (hp : p < 6) {f : Int} (hin : inF f (mAt h g p) = true) :
    usersH h f = 1 ↔ ∀ g' p', g' < h.guests.length → p' < 6 → inF f (mAt h g' p') = true → g' = g ∧ p' = p := by
  have hp' : p < (gOf h g).maps.length := by rw [(hs g hg).1]; exact hp
  have hu := users_setM hg hp' noM f
  rw [hin, show inF f noM = false from rfl, cond_true, cond_false] at hu
  have hz := users_zero (f := f) (six_setM hs (p := p) hg noM)
  rw [setM_len] at hz
  rw [show usersH h f = 1 ↔ usersH (setM h g p noM) f = 0 by constructor <;> intro _ <;> omega, hz]
  constructor
  · intro hk g' p' hg' hp2 hc
    have := hk g' p' hg' hp2
    rw [mAt_setM hg hp'] at this
    by_cases e : g' = g ∧ p' = p
    · exact e
    · rw [if_neg e, hc] at this
      cases this
  · intro hk g' p' hg' hp2
    rw [mAt_setM hg hp']
    by_cases e : g' = g ∧ p' = p
    · rw [if_pos e]; rfl
    · rw [if_neg e]
      cases hc : inF f (mAt h g' p')
      · rfl
      · exact (e (hk g' p' hg' hp2 hc)).elim

/-- An ok host, place by place. -/
structure OkH (h : Hst) : Prop where
  f8 : h.frames.length = 8
  fw : ∀ f, f < 8 → okP (fAt h f) = true
  n1 : 1 ≤ h.guests.length
  n2 : h.guests.length ≤ 2
  h0 : 0 ≤ h.hand
  h7 : h.hand ≤ 7
  six : Six h
  dw : ∀ g p, g < h.guests.length → p < 6 → okP (dAt h g p) = true
  mo : ∀ g p, g < h.guests.length → p < 6 → (mAt h g p).1 = false → mAt h g p = noM
  mi : ∀ g p, g < h.guests.length → p < 6 → (mAt h g p).1 = true → 0 ≤ (mAt h g p).2.1 ∧ (mAt h g p).2.1 ≤ 7 ∧ blankP (dAt h g p) = true
  al : ∀ g p g' p', g < h.guests.length → p < 6 → g' < h.guests.length → p' < 6 → (mAt h g p).1 = true → (mAt h g p).2.2 = true → (mAt h g' p').1 = true → (mAt h g' p').2.1 = (mAt h g p).2.1 → g' = g ∧ p' = p
  so : ∀ g p, g < h.guests.length → p < 6 → (sAt h g p).1 = false → sAt h g p = noS
  si : ∀ g p, g < h.guests.length → p < 6 → (sAt h g p).1 = true → 2 ≤ (sAt h g p).2.1 ∧ (sAt h g p).2.1 ≤ 5 ∧ (mAt h g (sAt h g p).2.1.toNat).1 = true ∧ (mAt h g (sAt h g p).2.1.toNat).2.1 = (sAt h g p).2.2.1 ∧ ((sAt h g p).2.2.2 = true → (mAt h g (sAt h g p).2.1.toNat).2.2 = true)

theorem okM_at {ms : List (List Int)} (h : okM ms = true) {k : Nat} (hk : k < ms.length) : okP (ms.getD k []) = true := by
  rw [okM, List.all_eq_true] at h
  exact h _ (by rw [getD_lt hk]; exact List.getElem_mem hk)
theorem okM_mk {ms : List (List Int)} (h : ∀ k, k < ms.length → okP (ms.getD k []) = true) : okM ms = true := by
  rw [okM, List.all_eq_true]
  intro x hx
  obtain ⟨i, hi, rfl⟩ := List.getElem_of_mem hx
  have := h i hi
  rwa [getD_lt hi] at this
theorem inF_iff {f : Int} {m : E3} : inF f m = true ↔ m.1 = true ∧ m.2.1 = f := by simp [inF]
theorem okHost_of {h : Hst} (ho : okHost h = true) : OkH h := by
  obtain ⟨h0, hg⟩ := (okHost_iff h).1 ho
  simp only [okHost0, Bool.and_eq_true, decide_eq_true_eq, beq_iff_eq] at h0
  obtain ⟨hM, hf8, ⟨hn1, hn2⟩, hh0, hh7⟩ := h0
  have hsix : Six h := fun g hgl => by
    obtain ⟨h0, _⟩ := hg g hgl
    simp only [okGuest0, Bool.and_eq_true, beq_iff_eq] at h0
    exact ⟨h0.1, h0.2.2.2, h0.2.1⟩
  have hmp : ∀ g p, g < h.guests.length → p < 6 → okMap h (mAt h g p) (dAt h g p) = true ∧ okShade (gOf h g) (sAt h g p) = true := fun g p hgl hp => okGuest_map (hg g hgl).2 hp
  refine ⟨hf8, fun f hf => okM_at hM (by omega), hn1, hn2, hh0, hh7, hsix, fun g p hgl hp => ?_, fun g p hgl hp hm => ?_, fun g p hgl hp hm => ?_, fun g p g' p' hgl hp hgl' hp' h1 h2 h3 h4 => ?_, fun g p hgl hp hs => ?_, fun g p hgl hp hs => ?_⟩
  · obtain ⟨h0, _⟩ := hg g hgl
    simp only [okGuest0, Bool.and_eq_true, beq_iff_eq] at h0
    exact okM_at h0.2.2.1 (by rw [h0.2.2.2]; exact hp)
  · have := (hmp g p hgl hp).1
    rw [okMap, hm] at this
    simpa using this
  · have := (hmp g p hgl hp).1
    rw [okMap, hm] at this
    simp only [cond_true, Bool.and_eq_true, decide_eq_true_eq] at this
    exact ⟨this.1.1, this.1.2, this.2.1⟩
  · have := (hmp g p hgl hp).1
    rw [okMap, h1, h2] at this
    simp only [cond_true, Bool.and_eq_true, decide_eq_true_eq, Bool.not_true, Bool.false_or, beq_iff_eq] at this
    exact (users_one hsix hgl hp (inF_iff.2 ⟨h1, rfl⟩)).1 this.2.2 g' p' hgl' hp' (inF_iff.2 ⟨h3, h4⟩)
  · have := (hmp g p hgl hp).2
    rw [okShade, hs] at this
    simpa using this
  · have := (hmp g p hgl hp).2
    rw [okShade, hs] at this
    simp only [cond_true, Bool.and_eq_true, decide_eq_true_eq, beq_iff_eq, Bool.or_eq_true] at this
    obtain ⟨⟨a, b⟩, c, d, e⟩ := this
    refine ⟨a, b, c, d, fun hw => ?_⟩
    rw [hw] at e
    rcases e with e | e
    · cases e
    · exact e
theorem okHost_mk {h : Hst} (k : OkH h) : okHost h = true := by
  rw [okHost_iff]
  refine ⟨?_, fun g hgl => ⟨?_, ?_⟩⟩
  · simp only [okHost0, Bool.and_eq_true, decide_eq_true_eq, beq_iff_eq]
    exact ⟨okM_mk (fun i hi => k.fw i (by rw [k.f8] at hi; exact hi)), k.f8, ⟨k.n1, k.n2⟩, k.h0, k.h7⟩
  · obtain ⟨a, b, c⟩ := k.six g hgl
    simp only [okGuest0, Bool.and_eq_true, beq_iff_eq]
    exact ⟨a, c, okM_mk (fun i hi => k.dw g i hgl (by rw [b] at hi; exact hi)), b⟩
  · rw [okGuest, List.all_eq_true]
    intro p hp
    rw [List.mem_range] at hp
    rw [Bool.and_eq_true]
    refine ⟨?_, ?_⟩
    · show okMap h (mAt h g p) (dAt h g p) = true
      rw [okMap]
      cases h1 : (mAt h g p).1
      · simpa using k.mo g p hgl hp h1
      · obtain ⟨a, b, c⟩ := k.mi g p hgl hp h1
        simp only [cond_true, Bool.and_eq_true, decide_eq_true_eq]
        refine ⟨⟨a, b⟩, c, ?_⟩
        cases h2 : (mAt h g p).2.2
        · rfl
        · have := (users_one k.six hgl hp (f := (mAt h g p).2.1) (inF_iff.2 ⟨h1, rfl⟩)).2 (fun g' p' hg' hp' hc => k.al g p g' p' hgl hp hg' hp' h1 h2 (inF_iff.1 hc).1 (inF_iff.1 hc).2)
          rw [this]
          rfl
    · show okShade (gOf h g) (sAt h g p) = true
      rw [okShade]
      cases h1 : (sAt h g p).1
      · simpa using k.so g p hgl hp h1
      · obtain ⟨a, b, c, d, e⟩ := k.si g p hgl hp h1
        simp only [cond_true, Bool.and_eq_true, decide_eq_true_eq, beq_iff_eq, Bool.or_eq_true]
        refine ⟨⟨a, b⟩, c, d, ?_⟩
        cases h2 : (sAt h g p).2.2.2
        · exact Or.inl rfl
        · exact Or.inr (e h2)

/-- Hosts that have the same at each place are the same. -/
theorem list_ext {α : Type} (d : α) {l l' : List α} (hl : l.length = l'.length) (h : ∀ i, i < l.length → l.getD i d = l'.getD i d) : l = l' := by
  apply List.ext_getElem hl
  intro i h1 h2
  have := h i h1
  rwa [getD_lt h1, getD_lt h2] at this
theorem hst_ext {h h' : Hst} (hf : h.frames = h'.frames) (hh : h.hand = h'.hand) (hn : h.guests.length = h'.guests.length) (hs : Six h) (hs' : Six h') (hm : ∀ g p, g < h.guests.length → p < 6 → mAt h g p = mAt h' g p) (hd : ∀ g p, g < h.guests.length → p < 6 → dAt h g p = dAt h' g p) (hsh : ∀ g p, g < h.guests.length → p < 6 → sAt h g p = sAt h' g p) : h = h' := by
  have hg : h.guests = h'.guests := by
    refine list_ext noG hn (fun g hg => ?_)
    have a := hs g hg
    have b := hs' g (by omega)
    have e1 : (gOf h g).maps = (gOf h' g).maps := list_ext noM (by rw [a.1, b.1]) (fun p hp => hm g p hg (by rw [a.1] at hp; exact hp))
    have e2 : (gOf h g).disk = (gOf h' g).disk := list_ext [] (by rw [a.2.1, b.2.1]) (fun p hp => hd g p hg (by rw [a.2.1] at hp; exact hp))
    have e3 : (gOf h g).shades = (gOf h' g).shades := list_ext noS (by rw [a.2.2, b.2.2]) (fun p hp => hsh g p hg (by rw [a.2.2] at hp; exact hp))
    show gOf h g = gOf h' g
    cases hx : gOf h g with
    | mk m d s =>
      cases hy : gOf h' g with
      | mk m' d' s' =>
        rw [hx, hy] at e1 e2 e3
        simp only at e1 e2 e3
        rw [e1, e2, e3]
  cases h
  cases h'
  simp only at hf hh hg
  rw [hf, hh, hg]

/-- The shades of a page forgotten, at each place. -/
theorem fU_at {ss : List S4} {p : Int} (_hl : ss.length = 6) {j : Nat} (hj : j < 6) : (fU ss p 6).getD j noS = bif hitS p (ss.getD j noS) then noS else ss.getD j noS := by
  rcases fU_noS ss p 6 j with e | ⟨e1, e2⟩
  · rw [e]
    cases hh : hitS p (ss.getD j noS)
    · rw [cond_false]
      -- forgotten only where it leads to the page
      have key : ∀ k, k ≤ 6 → (fU ss p k).getD j noS = ss.getD j noS := by
        intro k
        induction k with
        | zero => intro _; rfl
        | succ k ih =>
          intro hk
          rw [fU]
          cases hk2 : hitS p ((fU ss p k).getD k noS)
          · rw [cond_false]; exact ih (by omega)
          · rw [cond_true]
            by_cases ej : j = k
            · subst ej
              rw [ih (by omega), hh] at hk2
              cases hk2
            · rw [getD_set_ne _ _ _ ej]; exact ih (by omega)
      rw [← key 6 (Nat.le_refl _), e]
    · rfl
  · rw [e1, e2 hj]
    rfl
end Go.Proofs.Ytjegndgdpmlbaaa

/-
  Pages taken out, plainly, by places: one, several, all of a frame.
-/
namespace Go.Proofs.Ytjegndgdpmlbaaa
open Go.RowKit

/-- What a page of a guest has. -/
def pAt (h : Hst) (g p : Nat) : List Int := pageM h.frames (gOf h g) p
theorem pAt_eq (h : Hst) (g p : Nat) : pAt h g p = bif (mAt h g p).1 then fAt h (mAt h g p).2.1.toNat else dAt h g p := rfl
theorem pAt_ok {h : Hst} (k : OkH h) {g p : Nat} (hg : g < h.guests.length) (hp : p < 6) : okP (pAt h g p) = true := by
  rw [pAt_eq]
  cases hm : (mAt h g p).1
  · exact k.dw g p hg hp
  · obtain ⟨a, b, _⟩ := k.mi g p hg hp hm
    exact k.fw _ (by omega)
theorem outP_frames (h : Hst) (g p : Nat) : (outP h g p).frames = h.frames := by
  rw [outP]
  cases ((gOf h g).maps.getD p noM).1 <;> rfl
theorem mAt_out {h : Hst} (k : OkH h) {g p : Nat} (hg : g < h.guests.length) (hp : p < 6) (g' p' : Nat) : mAt (outP h g p) g' p' = if g' = g ∧ p' = p then noM else mAt h g' p' := by
  rw [outP]
  cases hm : ((gOf h g).maps.getD p noM).1
  · rw [cond_false]
    by_cases e : g' = g ∧ p' = p
    · obtain ⟨rfl, rfl⟩ := e
      rw [if_pos ⟨rfl, rfl⟩]
      exact k.mo g' p' hg hp hm
    · rw [if_neg e]
  · rw [cond_true]
    unfold mAt
    by_cases e : g' = g
    · subst e
      rw [gOf_set_same hg]
      show ((gOf h g').maps.set p noM).getD p' noM = _
      rw [getD_set _ _ _ _ _ (by rw [(k.six g' hg).1]; exact hp)]
      by_cases e2 : p' = p
      · rw [if_pos e2, if_pos ⟨rfl, e2⟩]
      · rw [if_neg e2, if_neg (fun h => e2 h.2)]
    · rw [gOf_set_ne e, if_neg (fun h => e h.1)]
theorem dAt_out {h : Hst} (k : OkH h) {g p : Nat} (hg : g < h.guests.length) (hp : p < 6) (g' p' : Nat) : dAt (outP h g p) g' p' = if g' = g ∧ p' = p then pAt h g p else dAt h g' p' := by
  rw [outP]
  cases hm : ((gOf h g).maps.getD p noM).1
  · rw [cond_false]
    by_cases e : g' = g ∧ p' = p
    · obtain ⟨rfl, rfl⟩ := e
      rw [if_pos ⟨rfl, rfl⟩, pAt_eq, show (mAt h g' p').1 = false from hm]
      rfl
    · rw [if_neg e]
  · rw [cond_true]
    unfold dAt
    by_cases e : g' = g
    · subst e
      rw [gOf_set_same hg]
      show ((gOf h g').disk.set p (pAt h g' p)).getD p' [] = _
      rw [getD_set _ _ _ _ _ (by rw [(k.six g' hg).2.1]; exact hp)]
      by_cases e2 : p' = p
      · rw [if_pos e2, if_pos ⟨rfl, e2⟩]
      · rw [if_neg e2, if_neg (fun h => e2 h.2)]
    · rw [gOf_set_ne e, if_neg (fun h => e h.1)]
theorem hitS_iff {p : Int} {s : S4} : hitS p s = true ↔ s.1 = true ∧ s.2.1 = p := by simp [hitS]
theorem sAt_out {h : Hst} (k : OkH h) {g p : Nat} (hg : g < h.guests.length) (_hp : p < 6) {g' i : Nat} (hi : i < 6) : sAt (outP h g p) g' i = bif decide (g' = g) && hitS (p : Int) (sAt h g' i) then noS else sAt h g' i := by
  rw [outP]
  cases hm : ((gOf h g).maps.getD p noM).1
  · rw [cond_false]
    by_cases e : g' = g
    · subst e
      cases hh : hitS (p : Int) (sAt h g' i)
      · simp
      · obtain ⟨h1, h2⟩ := hitS_iff.1 hh
        have := (k.si g' i hg hi h1).2.2.1
        rw [h2, Int.toNat_natCast] at this
        rw [show mAt h g' p = (gOf h g').maps.getD p noM from rfl, hm] at this
        cases this
    · simp [e]
  · rw [cond_true]
    unfold sAt
    by_cases e : g' = g
    · subst e
      rw [gOf_set_same hg]
      show (fU (gOf h g').shades (p : Int) 6).getD i noS = _
      rw [fU_at (k.six g' hg).2.2 hi]
      simp
    · rw [gOf_set_ne e]
      simp [e]
theorem pAt_out {h : Hst} (k : OkH h) {g p : Nat} (hg : g < h.guests.length) (hp : p < 6) (g' p' : Nat) : pAt (outP h g p) g' p' = pAt h g' p' := by
  rw [pAt_eq, pAt_eq h g' p', mAt_out k hg hp, dAt_out k hg hp]
  unfold fAt
  rw [outP_frames]
  by_cases e : g' = g ∧ p' = p
  · rw [if_pos e, if_pos e]
    obtain ⟨rfl, rfl⟩ := e
    exact pAt_eq h g' p'
  · rw [if_neg e, if_neg e]

/-- Several pages taken out. -/
def outAll (h : Hst) (l : List (Nat × Nat)) : Hst := l.foldl (fun h x => outP h x.1 x.2) h
theorem outAll_snoc (h : Hst) (l : List (Nat × Nat)) (g p : Nat) : outAll h (l ++ [(g, p)]) = outP (outAll h l) g p := by simp [outAll]
theorem outAll_app (h : Hst) (l m : List (Nat × Nat)) : outAll h (l ++ m) = outAll (outAll h l) m := by simp [outAll]
/-- Places that there are. -/
def Plc (n : Nat) (l : List (Nat × Nat)) : Prop := ∀ x ∈ l, x.1 < n ∧ x.2 < 6
theorem outAll_ok : ∀ (l : List (Nat × Nat)) {h : Hst} (_ : OkH h) (_ : Plc h.guests.length l), OkH (outAll h l) ∧ (outAll h l).guests.length = h.guests.length ∧ (outAll h l).hand = h.hand ∧ (outAll h l).frames = h.frames ∧
    (∀ g p, pAt (outAll h l) g p = pAt h g p) ∧ (∀ g p, mAt (outAll h l) g p = if (g, p) ∈ l then noM else mAt h g p) ∧ (∀ g p, dAt (outAll h l) g p = if (g, p) ∈ l then pAt h g p else dAt h g p) ∧
    (∀ g i, i < 6 → sAt (outAll h l) g i = if (sAt h g i).1 = true ∧ 0 ≤ (sAt h g i).2.1 ∧ (g, (sAt h g i).2.1.toNat) ∈ l then noS else sAt h g i)
  | [], h, k, _ => by
    refine ⟨k, rfl, rfl, rfl, fun _ _ => rfl, fun g p => ?_, fun g p => ?_, fun g i _ => ?_⟩
    · rw [if_neg (by simp)]; rfl
    · rw [if_neg (by simp)]; rfl
    · rw [if_neg (by simp)]; rfl
  | x :: l, h, k, hP => by
    obtain ⟨g0, p0⟩ := x
    obtain ⟨hg0, hp0⟩ := hP (g0, p0) (List.mem_cons_self ..)
    have k1 : OkH (outP h g0 p0) := okHost_of (okHost_out (okHost_mk k) hg0 hp0)
    have hl := outP_len h g0 p0
    obtain ⟨i1, i2, i3, i4, i5, i6, i7, i8⟩ := outAll_ok l k1 (by rw [hl]; exact fun y hy => hP y (List.mem_cons_of_mem _ hy))
    have e : outAll h ((g0, p0) :: l) = outAll (outP h g0 p0) l := rfl
    rw [e]
    refine ⟨i1, by rw [i2, hl], by rw [i3, outP_hand], by rw [i4, outP_frames], fun g p => by rw [i5, pAt_out k hg0 hp0], fun g p => ?_, fun g p => ?_, fun g i hi => ?_⟩
    · rw [i6, mAt_out k hg0 hp0]
      by_cases h1 : (g, p) ∈ l
      · rw [if_pos h1, if_pos (List.mem_cons_of_mem _ h1)]
      · rw [if_neg h1]
        by_cases h2 : g = g0 ∧ p = p0
        · rw [if_pos h2, if_pos (by rw [h2.1, h2.2]; exact List.mem_cons_self ..)]
        · rw [if_neg h2, if_neg (fun hc => by
            rcases List.mem_cons.1 hc with hc | hc
            · cases hc; exact h2 ⟨rfl, rfl⟩
            · exact h1 hc)]
    · rw [i7, dAt_out k hg0 hp0, pAt_out k hg0 hp0]
      by_cases h1 : (g, p) ∈ l
      · rw [if_pos h1, if_pos (List.mem_cons_of_mem _ h1)]
      · rw [if_neg h1]
        by_cases h2 : g = g0 ∧ p = p0
        · obtain ⟨rfl, rfl⟩ := h2
          rw [if_pos ⟨rfl, rfl⟩, if_pos (List.mem_cons_self ..)]
        · rw [if_neg h2, if_neg (fun hc => by
            rcases List.mem_cons.1 hc with hc | hc
            · cases hc; exact h2 ⟨rfl, rfl⟩
            · exact h1 hc)]
    · rw [i8 g i hi, sAt_out k hg0 hp0 hi]
      by_cases h2 : g = g0 ∧ hitS (p0 : Int) (sAt h g i) = true
      · obtain ⟨rfl, h2⟩ := h2
        obtain ⟨h3, h4⟩ := hitS_iff.1 h2
        rw [h2, show decide (g = g) = true by simp]
        simp only [Bool.true_and, cond_true]
        rw [if_neg (fun hc => by cases hc.1), if_pos ⟨h3, by omega, by rw [h4, Int.toNat_natCast]; exact List.mem_cons_self ..⟩]
      · have hf : (decide (g = g0) && hitS (p0 : Int) (sAt h g i)) = false := by
          by_cases e1 : g = g0
          · have : hitS (p0 : Int) (sAt h g i) = false := by
              cases hc : hitS (p0 : Int) (sAt h g i)
              · rfl
              · exact (h2 ⟨e1, hc⟩).elim
            rw [this, Bool.and_false]
          · simp [e1]
        rw [hf, cond_false]
        by_cases h5 : (sAt h g i).1 = true ∧ 0 ≤ (sAt h g i).2.1 ∧ (g, (sAt h g i).2.1.toNat) ∈ l
        · rw [if_pos h5, if_pos ⟨h5.1, h5.2.1, List.mem_cons_of_mem _ h5.2.2⟩]
        · rw [if_neg h5, if_neg (fun hc => by
            obtain ⟨h6, h0, h7⟩ := hc
            rcases List.mem_cons.1 h7 with h7 | h7
            · simp only [Prod.mk.injEq] at h7
              exact h2 ⟨h7.1, hitS_iff.2 ⟨h6, by omega⟩⟩
            · exact h5 ⟨h6, h0, h7⟩)]

theorem mem_spUp {g j : Nat} {ms : List E3} {f : Int} {g' p' : Nat} : (g', p') ∈ spUp g ms j f ↔ g' = g ∧ p' < j ∧ inF f (ms.getD p' noM) = true := by
  simp only [spUp, List.mem_map, List.mem_filter, List.mem_range, Prod.mk.injEq]
  constructor
  · rintro ⟨a, ⟨h1, h2⟩, h3, h4⟩
    subst h4
    exact ⟨h3.symm, h1, h2⟩
  · rintro ⟨h1, h2, h3⟩
    exact ⟨p', ⟨h2, h3⟩, h1.symm, rfl⟩
theorem mem_tenG {gs : List Gst} {k : Nat} {f : Int} {g' p' : Nat} : (g', p') ∈ tenG gs k f ↔ g' < k ∧ p' < 6 ∧ inF f ((gs.getD g' noG).maps.getD p' noM) = true := by
  simp only [tenG, List.mem_flatMap, List.mem_range]
  constructor
  · rintro ⟨a, h1, h2⟩
    obtain ⟨rfl, h3, h4⟩ := mem_spUp.1 h2
    exact ⟨h1, h3, h4⟩
  · rintro ⟨h1, h2, h3⟩
    exact ⟨g', h1, mem_spUp.2 ⟨rfl, h2, h3⟩⟩
theorem plc_ten (h : Hst) (f : Int) : Plc h.guests.length (ten h.guests f) := fun x hx => by
  obtain ⟨a, b⟩ := x
  obtain ⟨h1, h2, _⟩ := mem_tenG.1 hx
  exact ⟨h1, h2⟩
theorem clrG_all {h : Hst} (k : OkH h) {g : Nat} (hg : g < h.guests.length) (f : Int) : ∀ j, j ≤ 6 → clrG h f g j = outAll h (spUp g (gOf h g).maps j f)
  | 0, _ => rfl
  | j + 1, hj => by
    have ih := clrG_all k hg f j (by omega)
    have hP : Plc h.guests.length (spUp g (gOf h g).maps j f) := fun x hx => by
      obtain ⟨a, b⟩ := x
      obtain ⟨h1, h2, _⟩ := mem_spUp.1 hx
      exact ⟨by omega, by omega⟩
    have hm := (outAll_ok _ k hP).2.2.2.2.2.1 g j
    rw [if_neg (fun hc => by have := (mem_spUp.1 hc).2.1; omega)] at hm
    rw [clrG, ih, spUp_step, show (gOf (outAll h (spUp g (gOf h g).maps j f)) g).maps.getD j noM = (gOf h g).maps.getD j noM from hm]
    cases inF f ((gOf h g).maps.getD j noM)
    · rw [cond_false, cond_false, List.append_nil]
    · rw [cond_true, cond_true, outAll_snoc]
theorem clrH_all {h : Hst} (k : OkH h) (f : Int) : ∀ j, j ≤ h.guests.length → clrH h f j = outAll h (tenG h.guests j f)
  | 0, _ => rfl
  | j + 1, hj => by
    have ih := clrH_all k f j (by omega)
    have hP : Plc h.guests.length (tenG h.guests j f) := fun x hx => by
      obtain ⟨a, b⟩ := x
      obtain ⟨h1, h2, _⟩ := mem_tenG.1 hx
      exact ⟨by omega, h2⟩
    obtain ⟨i1, i2, _, _, _, i6, _⟩ := outAll_ok _ k hP
    rw [clrH, ih, clrG_all i1 (by omega) f 6 (Nat.le_refl _), tenG_step, tenUp, outAll_app]
    congr 1
    unfold spUp
    congr 1
    apply List.filter_congr
    intro p hp
    rw [List.mem_range] at hp
    have := i6 j p
    rw [if_neg (fun hc => by have := (mem_tenG.1 hc).1; omega)] at this
    rw [show (gOf (outAll h (tenG h.guests j f)) j).maps.getD p noM = (gOf h j).maps.getD p noM from this]
    rfl
theorem clrH_ten {h : Hst} (k : OkH h) (f : Int) : clrH h f h.guests.length = outAll h (ten h.guests f) := clrH_all k f _ (Nat.le_refl _)
theorem mem_ten {h : Hst} {f : Int} {g p : Nat} : (g, p) ∈ ten h.guests f ↔ g < h.guests.length ∧ p < 6 ∧ inF f (mAt h g p) = true := mem_tenG
end Go.Proofs.Ytjegndgdpmlbaaa

/-
  Pages brought in, and owned, plainly, by places.
-/
namespace Go.Proofs.Ytjegndgdpmlbaaa
open Go.RowKit

theorem firstI_cases (U : Int → Nat) : ∀ n f, (firstI U f n = -1 ∧ ∀ i : Nat, f ≤ i → i < f + n → U i ≠ 0) ∨ (∃ r : Nat, firstI U f n = (r : Int) ∧ f ≤ r ∧ r < f + n ∧ U r = 0 ∧ ∀ i : Nat, f ≤ i → i < r → U i ≠ 0)
  | 0, f => Or.inl ⟨rfl, fun i h1 h2 => by omega⟩
  | n + 1, f => by
    rw [firstI]
    cases hz : U (f : Int) == 0
    · rw [cond_false]
      have hz' : U (f : Int) ≠ 0 := by simpa using hz
      rcases firstI_cases U n (f + 1) with ⟨h1, h2⟩ | ⟨r, h1, h2, h3, h4, h5⟩
      · refine Or.inl ⟨h1, fun i i1 i2 => ?_⟩
        by_cases e : i = f
        · rw [e]; exact hz'
        · exact h2 i (by omega) (by omega)
      · refine Or.inr ⟨r, h1, by omega, by omega, h4, fun i i1 i2 => ?_⟩
        by_cases e : i = f
        · rw [e]; exact hz'
        · exact h5 i (by omega) i2
    · rw [cond_true]
      exact Or.inr ⟨f, rfl, Nat.le_refl _, by omega, by simpa using hz, fun i i1 i2 => by omega⟩
theorem firstH_cases (h : Hst) : (firstH h = -1 ∧ ∀ i : Nat, i < 8 → usersH h i ≠ 0) ∨ (∃ r : Nat, firstH h = (r : Int) ∧ r < 8 ∧ usersH h r = 0 ∧ ∀ i : Nat, i < r → usersH h i ≠ 0) := by
  rcases firstI_cases (usersH h) 8 0 with ⟨h1, h2⟩ | ⟨r, h1, _, h3, h4, h5⟩
  · exact Or.inl ⟨h1, fun i hi => h2 i (Nat.zero_le _) (by omega)⟩
  · exact Or.inr ⟨r, h1, by omega, h4, fun i hi => h5 i (Nat.zero_le _) hi⟩

/-- A frame is made free for a page that comes in. -/
def nextHand (z : Int) : Int := (z + 1) % 8
def roomH (h : Hst) : Hst := bif decide (firstH h < 0) then clrH (setHand h (nextHand h.hand)) h.hand h.guests.length else h
def roomF (h : Hst) : Nat := bif decide (firstH h < 0) then h.hand.toNat else (firstH h).toNat
def inM (F : Nat) : E3 := (true, (F : Int), true)
def bringH (h : Hst) (g p F : Nat) : Hst := setM (swapH h g p F) g p (inM F)
def inP (h : Hst) (g p : Nat) : Hst := bif ((gOf h g).maps.getD p noM).1 then h else bringH (roomH h) g p (roomF h)

theorem okH_hand {h : Hst} (k : OkH h) {z : Int} (h0 : 0 ≤ z) (h7 : z ≤ 7) : OkH (setHand h z) :=
  ⟨k.f8, k.fw, k.n1, k.n2, h0, h7, k.six, k.dw, k.mo, k.mi, k.al, k.so, k.si⟩
theorem nextHand_ok {h : Hst} (k : OkH h) : 0 ≤ nextHand h.hand ∧ nextHand h.hand ≤ 7 := by
  have := k.h0
  unfold nextHand
  omega
/-- What becomes of a host when room is made. -/
theorem room_ok {h : Hst} (k : OkH h) : OkH (roomH h) ∧ (roomH h).guests.length = h.guests.length ∧ (roomH h).frames = h.frames ∧ roomF h < 8 ∧ usersH (roomH h) (roomF h) = 0 ∧ (∀ g p, pAt (roomH h) g p = pAt h g p) ∧
    (roomH h).hand = (if firstH h < 0 then nextHand h.hand else h.hand) ∧
    (∀ g p, g < h.guests.length → p < 6 → mAt (roomH h) g p = if firstH h < 0 ∧ inF h.hand (mAt h g p) = true then noM else mAt h g p) ∧
    (∀ g p, g < h.guests.length → p < 6 → dAt (roomH h) g p = if firstH h < 0 ∧ inF h.hand (mAt h g p) = true then pAt h g p else dAt h g p) ∧
    (∀ g i, g < h.guests.length → i < 6 → sAt (roomH h) g i = if firstH h < 0 ∧ (sAt h g i).1 = true ∧ inF h.hand (mAt h g (sAt h g i).2.1.toNat) = true then noS else sAt h g i) := by
  have h0 := k.h0
  have h7 := k.h7
  unfold roomH roomF
  rcases firstH_cases h with ⟨e, hall⟩ | ⟨r, e, hr, hu, _⟩
  · have hd : decide (firstH h < 0) = true := by rw [e]; rfl
    have hlt : firstH h < 0 := by rw [e]; decide
    rw [hd, cond_true, cond_true]
    obtain ⟨n0, n7⟩ := nextHand_ok k
    have k1 := okH_hand k n0 n7
    have hc := clrH_ten k1 h.hand
    have hlen : (setHand h (nextHand h.hand)).guests.length = h.guests.length := rfl
    rw [hlen] at hc
    rw [hc]
    obtain ⟨i1, i2, i3, i4, i5, i6, i7, i8⟩ := outAll_ok _ k1 (plc_ten (setHand h (nextHand h.hand)) h.hand)
    have hmem : ∀ g p, (g, p) ∈ ten (setHand h (nextHand h.hand)).guests h.hand ↔ g < h.guests.length ∧ p < 6 ∧ inF h.hand (mAt h g p) = true := fun g p => mem_ten (h := setHand h (nextHand h.hand))
    refine ⟨i1, i2, i4, by omega, ?_, fun g p => i5 g p, by rw [if_pos hlt]; exact i3, fun g p hg hp => ?_, fun g p hg hp => ?_, fun g i hg hi => ?_⟩
    · rw [users_zero i1.six, i2]
      intro g p hg hp
      rw [i6, show ((h.hand.toNat : Nat) : Int) = h.hand by omega]
      by_cases hc : (g, p) ∈ ten (setHand h (nextHand h.hand)).guests h.hand
      · rw [if_pos hc]; rfl
      · rw [if_neg hc]
        cases hx : inF h.hand (mAt (setHand h (nextHand h.hand)) g p)
        · rfl
        · exact (hc ((hmem g p).2 ⟨hg, hp, hx⟩)).elim
    · rw [i6]
      by_cases hc : (g, p) ∈ ten (setHand h (nextHand h.hand)).guests h.hand
      · rw [if_pos hc, if_pos ⟨hlt, ((hmem g p).1 hc).2.2⟩]
      · rw [if_neg hc, if_neg (fun hx => hc ((hmem g p).2 ⟨hg, hp, hx.2⟩))]
        rfl
    · rw [i7]
      by_cases hc : (g, p) ∈ ten (setHand h (nextHand h.hand)).guests h.hand
      · rw [if_pos hc, if_pos ⟨hlt, ((hmem g p).1 hc).2.2⟩]
        rfl
      · rw [if_neg hc, if_neg (fun hx => hc ((hmem g p).2 ⟨hg, hp, hx.2⟩))]
        rfl
    · rw [i8 g i hi]
      have es : sAt (setHand h (nextHand h.hand)) g i = sAt h g i := rfl
      rw [es]
      by_cases hc : (sAt h g i).1 = true ∧ inF h.hand (mAt h g (sAt h g i).2.1.toNat) = true
      · obtain ⟨c1, c2⟩ := hc
        obtain ⟨s2, s5, _⟩ := k.si g i hg hi c1
        rw [if_pos ⟨c1, (by omega), (hmem _ _).2 ⟨hg, by omega, c2⟩⟩, if_pos ⟨hlt, c1, c2⟩]
      · rw [if_neg (fun hx => hc ⟨hx.1, ((hmem g _).1 hx.2.2).2.2⟩), if_neg (fun hx => hc hx.2)]
  · have hd : decide (firstH h < 0) = false := by rw [e]; simp
    have hlt : ¬ firstH h < 0 := by rw [e]; omega
    rw [hd, cond_false, cond_false]
    refine ⟨k, rfl, rfl, by rw [e]; simpa using hr, by rw [e, Int.toNat_natCast]; exact hu, fun _ _ => rfl, by rw [if_neg hlt], fun g p _ _ => ?_, fun g p _ _ => ?_, fun g i _ _ => ?_⟩
    · rw [if_neg (fun hx => hlt hx.1)]
    · rw [if_neg (fun hx => hlt hx.1)]
    · rw [if_neg (fun hx => hlt hx.1)]
theorem room_out {h : Hst} (k : OkH h) {g p : Nat} (hg : g < h.guests.length) (hp : p < 6) (hm : (mAt h g p).1 = false) : (mAt (roomH h) g p).1 = false := by
  obtain ⟨_, _, _, _, _, _, _, i8, _⟩ := room_ok k
  rw [i8 g p hg hp]
  by_cases hc : firstH h < 0 ∧ inF h.hand (mAt h g p) = true
  · rw [if_pos hc]; rfl
  · rw [if_neg hc]; exact hm

theorem bring_len (h : Hst) (g p F : Nat) : (bringH h g p F).guests.length = h.guests.length := by rw [bringH, setM_len, swapH_len]
theorem bring_at {h : Hst} (hs : Six h) (h8 : h.frames.length = 8) {g p F : Nat} (hg : g < h.guests.length) (hp : p < 6) (hF : F < 8) :
    Six (bringH h g p F) ∧ (bringH h g p F).hand = h.hand ∧ (bringH h g p F).frames.length = 8 ∧ (∀ f, fAt (bringH h g p F) f = if f = F then dAt h g p else fAt h f) ∧ (∀ g' p', mAt (bringH h g p F) g' p' = if g' = g ∧ p' = p then inM F else mAt h g' p') ∧
    (∀ g' p', dAt (bringH h g p F) g' p' = if g' = g ∧ p' = p then [0, 0, 0, 0] else dAt h g' p') ∧ (∀ g' i, sAt (bringH h g p F) g' i = sAt h g' i) := by
  have hgs : g < (swapH h g p F).guests.length := by rw [swapH_len]; exact hg
  have hsw : Six (swapH h g p F) := fun i hi => by
    rw [swapH_len] at hi
    by_cases e : i = g
    · subst e
      rw [gOf_swap_same hi]
      obtain ⟨a, b, c⟩ := hs i hi
      exact ⟨a, by show ((gOf h i).disk.set p [0, 0, 0, 0]).length = 6; rw [List.length_set]; exact b, c⟩
    · rw [gOf_swap_ne e]; exact hs i hi
  have hmp : p < (gOf (swapH h g p F) g).maps.length := by rw [(hsw g hgs).1]; exact hp
  have hmsw : ∀ g' p', mAt (swapH h g p F) g' p' = mAt h g' p' := fun g' p' => by
    unfold mAt
    by_cases e : g' = g
    · subst e; rw [gOf_swap_same hg]; rfl
    · rw [gOf_swap_ne e]
  have hset : ∀ g', (gOf (bringH h g p F) g').disk = (gOf (swapH h g p F) g').disk ∧ (gOf (bringH h g p F) g').shades = (gOf (swapH h g p F) g').shades := fun g' => by
    unfold bringH setM
    by_cases e : g' = g
    · subst e; rw [gOf_set_same hgs]; exact ⟨rfl, rfl⟩
    · rw [gOf_set_ne e]; exact ⟨rfl, rfl⟩
  refine ⟨six_setM hsw hgs _, rfl, ?_, fun f => ?_, fun g' p' => ?_, fun g' p' => ?_, fun g' i => ?_⟩
  · show (h.frames.set F (dAt h g p)).length = 8
    rw [List.length_set]; exact h8
  · show (h.frames.set F (dAt h g p)).getD f [] = _
    rw [getD_set _ _ _ _ _ (by omega)]
    rfl
  · unfold bringH
    rw [mAt_setM hgs hmp, hmsw]
  · unfold dAt
    rw [(hset g').1]
    by_cases e : g' = g
    · subst e
      rw [gOf_swap_same hg]
      show ((gOf h g').disk.set p [0, 0, 0, 0]).getD p' [] = _
      rw [getD_set _ _ _ _ _ (by rw [(hs g' hg).2.1]; exact hp)]
      by_cases e2 : p' = p
      · rw [if_pos e2, if_pos ⟨rfl, e2⟩]
      · rw [if_neg e2, if_neg (fun h => e2 h.2)]
    · rw [gOf_swap_ne e, if_neg (fun h => e h.1)]
  · unfold sAt
    rw [(hset g').2]
    by_cases e : g' = g
    · subst e; rw [gOf_swap_same hg]; rfl
    · rw [gOf_swap_ne e]
theorem bring_ok {h : Hst} (k : OkH h) {g p F : Nat} (hg : g < h.guests.length) (hp : p < 6) (hF : F < 8) (hu : usersH h F = 0) (hm : (mAt h g p).1 = false) : OkH (bringH h g p F) ∧ ∀ g' p', g' < h.guests.length → p' < 6 → pAt (bringH h g p F) g' p' = pAt h g' p' := by
  obtain ⟨b1, b2, b3, b4, b5, b6, b7⟩ := bring_at k.six k.f8 hg hp hF
  have hl := bring_len h g p F
  have hz := (users_zero k.six).1 hu
  have hd := k.dw g p hg hp
  have hno : ∀ g' p', g' < h.guests.length → p' < 6 → (mAt h g' p').1 = true → (mAt h g' p').2.1 ≠ (F : Int) := fun g' p' hg' hp' h1 h2 => by
    have := hz g' p' hg' hp'
    rw [inF_iff.2 ⟨h1, h2⟩] at this
    cases this
  refine ⟨⟨b3, fun f hf => ?_, by rw [hl]; exact k.n1, by rw [hl]; exact k.n2, by rw [b2]; exact k.h0, by rw [b2]; exact k.h7, b1, fun g' p' hg' hp' => ?_, fun g' p' hg' hp' hx => ?_, fun g' p' hg' hp' hx => ?_, fun g1 p1 g2 p2 hg1 hp1 hg2 hp2 h1 h2 h3 h4 => ?_, fun g' i hg' hi hx => ?_, fun g' i hg' hi hx => ?_⟩, fun g' p' hg' hp' => ?_⟩
  · rw [b4]
    by_cases e : f = F
    · rw [if_pos e]; exact hd
    · rw [if_neg e]; exact k.fw f hf
  · rw [hl] at hg'
    rw [b6]
    by_cases e : g' = g ∧ p' = p
    · rw [if_pos e]; rfl
    · rw [if_neg e]; exact k.dw g' p' hg' hp'
  · rw [hl] at hg'
    rw [b5] at hx ⊢
    by_cases e : g' = g ∧ p' = p
    · rw [if_pos e] at hx; cases hx
    · rw [if_neg e] at hx ⊢; exact k.mo g' p' hg' hp' hx
  · rw [hl] at hg'
    rw [b5] at hx ⊢
    rw [b6]
    by_cases e : g' = g ∧ p' = p
    · rw [if_pos e, if_pos e]
      exact ⟨by show (0 : Int) ≤ (F : Int); omega, by show (F : Int) ≤ 7; omega, rfl⟩
    · rw [if_neg e] at hx
      rw [if_neg e, if_neg e]
      exact k.mi g' p' hg' hp' hx
  · rw [hl] at hg1 hg2
    rw [b5] at h1 h2 h3 h4
    rw [b5 g1 p1] at h4
    by_cases e1 : g1 = g ∧ p1 = p
    · rw [if_pos e1] at h4
      by_cases e2 : g2 = g ∧ p2 = p
      · exact ⟨by rw [e1.1, e2.1], by rw [e1.2, e2.2]⟩
      · rw [if_neg e2] at h3 h4
        exact (hno g2 p2 hg2 hp2 h3 h4).elim
    · rw [if_neg e1] at h1 h2 h4
      by_cases e2 : g2 = g ∧ p2 = p
      · rw [if_pos e2] at h4
        exact (hno g1 p1 hg1 hp1 h1 h4.symm).elim
      · rw [if_neg e2] at h3 h4
        exact k.al g1 p1 g2 p2 hg1 hp1 hg2 hp2 h1 h2 h3 h4
  · rw [hl] at hg'
    rw [b7] at hx ⊢
    exact k.so g' i hg' hi hx
  · rw [hl] at hg'
    rw [b7] at hx ⊢
    obtain ⟨s1, s2, s3, s4, s5⟩ := k.si g' i hg' hi hx
    have hne : ¬ (g' = g ∧ (sAt h g' i).2.1.toNat = p) := fun e => by
      rw [e.2, e.1, hm] at s3
      cases s3
    rw [b5, if_neg hne]
    exact ⟨s1, s2, s3, s4, s5⟩
  · rw [pAt_eq, pAt_eq h, b5]
    by_cases e : g' = g ∧ p' = p
    · obtain ⟨rfl, rfl⟩ := e
      rw [if_pos ⟨rfl, rfl⟩, show (inM F).1 = true from rfl, cond_true, b4, if_pos (by show ((F : Int)).toNat = F; simp), hm]
      rfl
    · rw [if_neg e, b6, if_neg e, b4]
      cases hx : (mAt h g' p').1
      · rfl
      · have h1 := hno g' p' hg' hp' hx
        have h2 := k.mi g' p' hg' hp' hx
        rw [cond_true, cond_true, if_neg (by omega)]
theorem inP_len {h : Hst} (k : OkH h) (g p : Nat) : (inP h g p).guests.length = h.guests.length := by
  rw [inP]
  cases ((gOf h g).maps.getD p noM).1
  · rw [cond_false, bring_len]; exact (room_ok k).2.1
  · rfl
theorem inP_ok {h : Hst} (k : OkH h) {g p : Nat} (hg : g < h.guests.length) (hp : p < 6) : OkH (inP h g p) ∧ (∀ g' p', g' < h.guests.length → p' < 6 → pAt (inP h g p) g' p' = pAt h g' p') ∧ (mAt (inP h g p) g p).1 = true := by
  rw [inP]
  cases hm : ((gOf h g).maps.getD p noM).1
  · obtain ⟨i1, i2, i3, i4, i5, i6, _⟩ := room_ok k
    have hmo := room_out k hg hp hm
    have hg' : g < (roomH h).guests.length := by rw [i2]; exact hg
    obtain ⟨c1, c2⟩ := bring_ok i1 hg' hp i4 i5 hmo
    obtain ⟨b1, b2, b3, b4, b5, b6, b7⟩ := bring_at i1.six i1.f8 hg' hp i4
    rw [cond_false]
    refine ⟨c1, fun g' p' h1 h2 => ?_, ?_⟩
    · rw [c2 g' p' (by rw [i2]; exact h1) h2, i6]
    · rw [b5, if_pos ⟨rfl, rfl⟩]; rfl
  · exact ⟨k, fun _ _ _ _ => rfl, hm⟩

/-- A page that may be written, alone. -/
def ownP (h : Hst) (g p : Nat) : Hst :=
  bif (mAt (inP h g p) g p).2.2 then inP h g p else bif usersH (inP h g p) (mAt (inP h g p) g p).2.1 == 1 then setM (inP h g p) g p (true, (mAt (inP h g p) g p).2.1, true) else inP (outP (inP h g p) g p) g p
theorem setW_ok {h : Hst} (k : OkH h) {g p : Nat} (hg : g < h.guests.length) (hp : p < 6) (hm : (mAt h g p).1 = true) (hu : usersH h (mAt h g p).2.1 = 1) : OkH (setM h g p (true, (mAt h g p).2.1, true)) ∧ (∀ g' p', pAt (setM h g p (true, (mAt h g p).2.1, true)) g' p' = pAt h g' p') := by
  have hp' : p < (gOf h g).maps.length := by rw [(k.six g hg).1]; exact hp
  have hl := setM_len h g p (true, (mAt h g p).2.1, true)
  have hM := mAt_setM hg hp' (true, (mAt h g p).2.1, true)
  have hD : ∀ g' p', dAt (setM h g p (true, (mAt h g p).2.1, true)) g' p' = dAt h g' p' := fun g' p' => by
    unfold dAt setM
    by_cases e : g' = g
    · subst e; rw [gOf_set_same hg]; rfl
    · rw [gOf_set_ne e]
  have hS : ∀ g' p', sAt (setM h g p (true, (mAt h g p).2.1, true)) g' p' = sAt h g' p' := fun g' p' => by
    unfold sAt setM
    by_cases e : g' = g
    · subst e; rw [gOf_set_same hg]; rfl
    · rw [gOf_set_ne e]
  have h1 := (users_one k.six hg hp (inF_iff.2 ⟨hm, rfl⟩)).1 hu
  have hin : ∀ g' p', (mAt (setM h g p (true, (mAt h g p).2.1, true)) g' p').1 = (mAt h g' p').1 ∧ (mAt (setM h g p (true, (mAt h g p).2.1, true)) g' p').2.1 = (mAt h g' p').2.1 := fun g' p' => by
    rw [hM]
    by_cases e : g' = g ∧ p' = p
    · rw [if_pos e, e.1, e.2, hm]; exact ⟨rfl, rfl⟩
    · rw [if_neg e]; exact ⟨rfl, rfl⟩
  refine ⟨⟨k.f8, k.fw, by rw [hl]; exact k.n1, by rw [hl]; exact k.n2, k.h0, k.h7, six_setM k.six hg _, fun g' p' hg' hp2 => ?_, fun g' p' hg' hp2 hx => ?_, fun g' p' hg' hp2 hx => ?_, fun g1 p1 g2 p2 hg1 hp1 hg2 hp2 c1 c2 c3 c4 => ?_, fun g' i hg' hi hx => ?_, fun g' i hg' hi hx => ?_⟩, fun g' p' => ?_⟩
  · rw [hl] at hg'; rw [hD]; exact k.dw g' p' hg' hp2
  · rw [hl] at hg'
    rw [(hin g' p').1] at hx
    rw [hM, if_neg (fun e => by rw [e.1, e.2, hm] at hx; cases hx)]
    exact k.mo g' p' hg' hp2 hx
  · rw [hl] at hg'
    rw [(hin g' p').1] at hx
    rw [(hin g' p').2, hD]
    exact k.mi g' p' hg' hp2 hx
  · rw [hl] at hg1 hg2
    rw [(hin g1 p1).1] at c1
    rw [(hin g2 p2).1] at c3
    rw [(hin g2 p2).2, (hin g1 p1).2] at c4
    rw [hM] at c2
    by_cases e : g1 = g ∧ p1 = p
    · rw [e.1, e.2] at c4 ⊢
      exact h1 g2 p2 hg2 hp2 (inF_iff.2 ⟨c3, c4⟩)
    · rw [if_neg e] at c2
      exact k.al g1 p1 g2 p2 hg1 hp1 hg2 hp2 c1 c2 c3 c4
  · rw [hl] at hg'; rw [hS] at hx ⊢; exact k.so g' i hg' hi hx
  · rw [hl] at hg'
    rw [hS] at hx ⊢
    obtain ⟨s1, s2, s3, s4, s5⟩ := k.si g' i hg' hi hx
    refine ⟨s1, s2, by rw [(hin _ _).1]; exact s3, by rw [(hin _ _).2]; exact s4, fun hw => ?_⟩
    rw [hM]
    by_cases e : g' = g ∧ (sAt h g' i).2.1.toNat = p
    · rw [if_pos e]
    · rw [if_neg e]; exact s5 hw
  · rw [pAt_eq, pAt_eq h, (hin _ _).1, (hin _ _).2, hD]
    rfl
theorem ownP_ok {h : Hst} (k : OkH h) {g p : Nat} (hg : g < h.guests.length) (hp : p < 6) : OkH (ownP h g p) ∧ (ownP h g p).guests.length = h.guests.length ∧ (∀ g' p', g' < h.guests.length → p' < 6 → pAt (ownP h g p) g' p' = pAt h g' p') ∧ (mAt (ownP h g p) g p).1 = true ∧ (mAt (ownP h g p) g p).2.2 = true := by
  obtain ⟨k1, c1, m1⟩ := inP_ok k hg hp
  have l1 := inP_len k g p
  have hg1 : g < (inP h g p).guests.length := by rw [l1]; exact hg
  rw [ownP]
  cases hw : (mAt (inP h g p) g p).2.2
  · rw [cond_false]
    cases hu : usersH (inP h g p) (mAt (inP h g p) g p).2.1 == 1
    · rw [cond_false]
      have k2 : OkH (outP (inP h g p) g p) := okHost_of (okHost_out (okHost_mk k1) hg1 hp)
      have l2 := outP_len (inP h g p) g p
      have hg2 : g < (outP (inP h g p) g p).guests.length := by rw [l2]; exact hg1
      obtain ⟨k3, c3, m3⟩ := inP_ok k2 hg2 hp
      refine ⟨k3, by rw [inP_len k2, l2, l1], fun g' p' h1 h2 => ?_, m3, ?_⟩
      · rw [c3 g' p' (by rw [l2, l1]; exact h1) h2, pAt_out k1 hg1 hp, c1 g' p' h1 h2]
      · have hm2 : ((gOf (outP (inP h g p) g p) g).maps.getD p noM) = noM := by
          have := mAt_out k1 hg1 hp g p
          rwa [if_pos ⟨rfl, rfl⟩] at this
        rw [inP, hm2, show (noM : E3).1 = false from rfl, cond_false]
        obtain ⟨i1, i2, _, i4, _⟩ := room_ok k2
        have := (bring_at i1.six i1.f8 (show g < (roomH (outP (inP h g p) g p)).guests.length by rw [i2]; exact hg2) hp i4).2.2.2.2.1 g p
        rw [this, if_pos ⟨rfl, rfl⟩]
        rfl
    · rw [cond_true]
      have hu' : usersH (inP h g p) (mAt (inP h g p) g p).2.1 = 1 := by simpa using hu
      obtain ⟨k2, c2⟩ := setW_ok k1 hg1 hp m1 hu'
      have hM := mAt_setM hg1 (show p < (gOf (inP h g p) g).maps.length by rw [(k1.six g hg1).1]; exact hp) (true, (mAt (inP h g p) g p).2.1, true) g p
      rw [if_pos ⟨rfl, rfl⟩] at hM
      exact ⟨k2, by rw [setM_len, l1], fun g' p' h1 h2 => by rw [c2, c1 g' p' h1 h2], by rw [hM], by rw [hM]⟩
  · exact ⟨k1, l1, c1, m1, hw⟩
end Go.Proofs.Ytjegndgdpmlbaaa

/-
  A host that is written in place: where its rows are behind some acts on it, and what else has turned.
-/
namespace Go.Proofs.Ytjegndgdpmlbaaa
open Go.RowKit

/-- Behind acts on a host in place: its rows are where some were, or in new memory from M on; all else old is as it was. -/
structure Mv (w w' : World) (M N n : Nat) (A A' : Pl → Nat) (h' : Hst) : Prop where
  fr : A' .fr = A .fr
  gs : A' .gs = A .gs
  rm : A' (.maps 9) = A (.maps 9)
  pl : ∀ x, x.ok n → (∃ y, y.ok n ∧ A' x = A y) ∨ M ≤ A' x
  sep : SepH w' N A' h'
  len : h'.guests.length = n
  bel : Below N w w'
  keep : ∀ j, j < w.heap.size → (∀ x, x.ok n → A x ≠ j) → w'.heap[j]? = w.heap[j]?
  lo : w.heap.size ≤ M
  hi : M ≤ w'.heap.size
theorem Mv.size {w w' : World} {M N n : Nat} {A A' : Pl → Nat} {h' : Hst} (a : Mv w w' M N n A A' h') : w.heap.size ≤ w'.heap.size := Nat.le_trans a.lo a.hi
theorem Mv.start {w w' : World} {M N n : Nat} {A : Pl → Nat} {h : Hst} (k : SepH w N A h) (hn : h.guests.length = n) (hB : Below w.heap.size w w') (hN : N ≤ w.heap.size) (lo : w.heap.size ≤ M) (hi : M ≤ w'.heap.size) : Mv w w' M N n A A h :=
  ⟨rfl, rfl, rfl, fun x hx => Or.inl ⟨x, hx, rfl⟩, k.belowK hB, hn, hB.mono hN, fun j hj _ => hB.block j hj, lo, hi⟩
theorem Mv.refl {w : World} {N n : Nat} {A : Pl → Nat} {h : Hst} (k : SepH w N A h) (hn : h.guests.length = n) (hN : N ≤ w.heap.size) : Mv w w w.heap.size N n A A h := Mv.start k hn (Below.refl _ _) hN (Nat.le_refl _) (Nat.le_refl _)
theorem Mv.weak {w w' : World} {M M' N n : Nat} {A A' : Pl → Nat} {h' : Hst} (a : Mv w w' M N n A A' h') (h1 : w.heap.size ≤ M') (h2 : M' ≤ M) : Mv w w' M' N n A A' h' :=
  ⟨a.fr, a.gs, a.rm, fun x hx => (a.pl x hx).imp id (fun e => by omega), a.sep, a.len, a.bel, a.keep, h1, Nat.le_trans h2 a.hi⟩
/-- None of its rows is a variable of the call's own, nor any other memory that was there. -/
theorem Mv.ne {w w' : World} {M N n : Nat} {A A' : Pl → Nat} {h' : Hst} (a : Mv w w' M N n A A' h') {j : Nat} (hj : j < M) (hA : ∀ x, x.ok n → A x ≠ j) (x : Pl) (hx : x.ok n) : A' x ≠ j := by
  rcases a.pl x hx with ⟨y, hy, e⟩ | e
  · rw [e]; exact hA y hy
  · omega
theorem Mv.off {w w' : World} {M N n : Nat} {A A' : Pl → Nat} {h' : Hst} (a : Mv w w' M N n A A' h') (hA : ∀ x, x.ok n → A x < w.heap.size) {b i : Nat} (h1 : w.heap.size ≤ b) (h2 : b < M) (hN : N ≤ w.heap.size) (u : Value) : Mv w (w'.setCell ⟨b, i, none⟩ u) M N n A A' h' := by
  refine ⟨a.fr, a.gs, a.rm, a.pl, a.sep.off (fun x hx => ?_) u, a.len, a.bel.setCell (p := ⟨b, i, none⟩) (by show N ≤ b; omega) u, fun j hj hx => ?_, a.lo, by rw [World.size_setCell]; exact a.hi⟩
  · rw [a.len] at hx
    exact a.ne h2 (fun y hy => by have := hA y hy; omega) x hx
  · rw [Below.heap_setCell _ _ _ _ (by simp; omega)]
    exact a.keep j hj hx
theorem Mv.off3 {w w' : World} {M N n : Nat} {A A' : Pl → Nat} {h' : Hst} (a : Mv w w' M N n A A' h') (hA : ∀ x, x.ok n → A x < w.heap.size) {b : Nat} (h1 : w.heap.size ≤ b) (h2 : b < M) (hN : N ≤ w.heap.size) (u0 u1 u2 : Value) : Mv w (((w'.setCell ⟨b, 0, none⟩ u0).setCell ⟨b, 1, none⟩ u1).setCell ⟨b, 2, none⟩ u2) M N n A A' h' :=
  ((a.off hA h1 h2 hN _).off hA h1 h2 hN _).off hA h1 h2 hN _
theorem Mv.below {w w' w2 : World} {M N n : Nat} {A A' : Pl → Nat} {h' : Hst} (a : Mv w w' M N n A A' h') (hN : N ≤ w.heap.size) (hB : Below w'.heap.size w' w2) : Mv w w2 M N n A A' h' :=
  ⟨a.fr, a.gs, a.rm, a.pl, a.sep.belowK hB, a.len, a.bel.trans (hB.mono (Nat.le_trans hN a.size)), fun j hj hx => (hB.block j (Nat.lt_of_lt_of_le hj a.size)).trans (a.keep j hj hx), a.lo, Nat.le_trans a.hi hB.size⟩
theorem Mv.call {w w' w2 : World} {M N n : Nat} {A A' A2 : Pl → Nat} {h' h2 : Hst} (a : Mv w w' M N n A A' h') (_hA : ∀ x, x.ok n → A x < w.heap.size) (b : Mv w' w2 w'.heap.size N n A' A2 h2) : Mv w w2 M N n A A2 h2 := by
  have hs := a.hi
  have lo := a.lo
  refine ⟨b.fr.trans a.fr, b.gs.trans a.gs, b.rm.trans a.rm, fun x hx => ?_, b.sep, b.len, a.bel.trans b.bel, fun j hj hx => ?_, a.lo, Nat.le_trans hs b.hi⟩
  · rcases b.pl x hx with ⟨y, hy, e⟩ | e
    · rcases a.pl y hy with ⟨z, hz, e2⟩ | e2
      · exact Or.inl ⟨z, hz, by rw [e, e2]⟩
      · exact Or.inr (by omega)
    · exact Or.inr (by omega)
  · rw [b.keep j (by omega) (fun y hy => a.ne (by omega) hx y hy)]
    exact a.keep j hj hx
/-- A variable of the call's own, over a call on the host. -/
theorem Mv.own {w w' w2 : World} {M N n : Nat} {A A' A2 : Pl → Nat} {h' h2 : Hst} (a : Mv w w' M N n A A' h') (hA : ∀ x, x.ok n → A x < w.heap.size) (b : Mv w' w2 w'.heap.size N n A' A2 h2) {j : Nat} (h1 : w.heap.size ≤ j) (h3 : j < M) : w2.heap[j]? = w'.heap[j]? :=
  b.keep j (Nat.lt_of_lt_of_le h3 a.hi) (fun x hx => a.ne h3 (fun y hy => by have := hA y hy; omega) x hx)
/-- One row written by a step law of SepH. -/
theorem Mv.put {w w' w2 : World} {M N n : Nat} {A A' : Pl → Nat} {h' h2 : Hst} (a : Mv w w' M N n A A' h') (k2 : SepH w2 N A' h2) (hl : h2.guests.length = n) (hb : Below N w' w2) {x0 : Pl} (hx0 : x0.ok n) (hs : w'.heap.size ≤ w2.heap.size) (hw : ∀ j, j < w'.heap.size → j ≠ A' x0 → w2.heap[j]? = w'.heap[j]?) : Mv w w2 M N n A A' h2 :=
  ⟨a.fr, a.gs, a.rm, a.pl, k2, hl, a.bel.trans hb, fun j hj hx => by
    have := a.lo
    have := a.hi
    rw [hw j (by omega) (fun e => a.ne (by omega) hx x0 hx0 e.symm)]
    exact a.keep j hj hx, a.lo, Nat.le_trans a.hi hs⟩
theorem mv_of_moved {w wr : World} {M N n : Nat} {A : Pl → Nat} {h' : Hst} (a : Moved w wr M N n A h') (hl : h'.guests.length = n) (lo : w.heap.size ≤ M) : ∃ A', Mv w wr M N n A A' h' := by
  obtain ⟨⟨A', a1, a2, a3, k⟩, b, x, s⟩ := a
  exact ⟨A', a1, a2.1, a2.2, fun x hx => (a3 x hx).imp (fun e => ⟨x, hx, e⟩) id, k, hl, b, x, lo, s⟩

theorem outMv (N : Nat) (A : Pl → Nat) (h : Hst) (g p : Nat) (n cf cg : Nat) (w : World) (k : SepH w N A h) (ho : okHost h = true) (hn : h.guests.length = n) (hg : g < n) (hp : p < 6) (hN : N ≤ w.heap.size) :
    Calls Try.prog 69 #[.agg #[.slice (some ⟨A .fr, 0, none⟩) 8 cf, .slice (some ⟨A .gs, 0, none⟩) n cg, .int .i64 h.hand], .int .i64 g, .int .i64 p] w fun e w' => e = .returned (.agg #[.slice (some ⟨A .fr, 0, none⟩) 8 cf, .slice (some ⟨A .gs, 0, none⟩) n cg, .int .i64 h.hand]) ∧ ∃ A', Mv w w' w.heap.size N n A A' (outP h g p) := by
  refine (specOut13 N A h g p n cf cg w k ho hn hg hp hN).mono ?_
  rintro e w' ⟨rfl, ⟨A', a1, a2, a3, k'⟩, b, x⟩
  exact ⟨rfl, A', a1, a2.1, a2.2, fun x hx => (a3 x hx).imp (fun e => ⟨x, hx, e⟩) id, k', by rw [outP_len]; exact hn, b, x, Nat.le_refl _, b.size⟩
theorem forgetMv (N : Nat) (A : Pl → Nat) (h : Hst) (g : Nat) (P : Int) (n cf cg : Nat) (z : Int) (w : World) (k : SepH w N A h) (hn : h.guests.length = n) (hg : g < n) (hN : N ≤ w.heap.size) :
    Calls Try.prog 94 #[.agg #[.slice (some ⟨A .fr, 0, none⟩) 8 cf, .slice (some ⟨A .gs, 0, none⟩) n cg, .int .i64 z], .int .i64 g, .int .i64 P] w fun e w' => e = .returned (.agg #[.slice (some ⟨A .fr, 0, none⟩) 8 cf, .slice (some ⟨A .gs, 0, none⟩) n cg, .int .i64 z]) ∧ Mv w w' w.heap.size N n A A (setG h g (withS (gOf h g) (fU (gOf h g).shades P 6))) := by
  refine (specForget13 N A h g P n cf cg z w k hn hg hN).mono ?_
  rintro e w' ⟨rfl, k', b, x⟩
  exact ⟨rfl, rfl, rfl, rfl, fun x hx => Or.inl ⟨x, hx, rfl⟩, k', by rw [setG_len]; exact hn, b, fun j hj hx => x j hj (fun e => hx (.shd g) hg e.symm), Nat.le_refl _, b.size⟩
theorem clearMv (N : Nat) (A : Pl → Nat) (h : Hst) (f : Int) (n cf cg : Nat) (w : World) (k : SepH w N A h) (ho : okHost h = true) (hn : h.guests.length = n) (hN : N ≤ w.heap.size) :
    Calls Try.prog 90 #[.agg #[.slice (some ⟨A .fr, 0, none⟩) 8 cf, .slice (some ⟨A .gs, 0, none⟩) n cg, .int .i64 h.hand], .int .i64 f] w fun e w' => e = .returned (.agg #[.slice (some ⟨A .fr, 0, none⟩) 8 cf, .slice (some ⟨A .gs, 0, none⟩) n cg, .int .i64 h.hand]) ∧ ∃ A', Mv w w' w.heap.size N n A A' (clrH h f n) := by
  refine (specClear N A h f n cf cg w k ho hn hN).mono ?_
  rintro e w' ⟨rfl, m⟩
  exact ⟨rfl, mv_of_moved m (by rw [(clrH_ok ho n (by omega)).2.1, hn]) (Nat.le_refl _)⟩
theorem SepH.hand {w : World} {N : Nat} {A : Pl → Nat} {h : Hst} (k : SepH w N A h) (z : Int) : SepH w N A (setHand h z) :=
  ⟨k.n2, k.f8, k.f4, k.sz, k.inj, k.low, fun x hx => by
    have := k.held x hx
    cases x using Pl.seven <;> exact this⟩
end Go.Proofs.Ytjegndgdpmlbaaa
