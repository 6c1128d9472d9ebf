/-
  Hosts, plainly, by places: what an ok host is, place by place; who is in a frame.
-/
import Derived.Test.YtdamdjhnhkmncaaKX
import Derived.Test.YtdamdjhnhkmncaaKTen0
namespace Go.Proofs.Ytdamdjhnhkmncaa
open Go.RowKit

def mAt (h : Hst) (g p : Nat) : E3 := (gOf h g).maps.getD p noM
def dAt (h : Hst) (g p : Nat) : List Int := (gOf h g).disk.getD p []
def sAt (h : Hst) (g p : Nat) : S4 := (gOf h g).shades.getD p noS
def fAt (h : Hst) (f : Nat) : List Int := h.frames.getD f []
/-- The lists of a guest have the lengths that they ought to have. -/
def Six (h : Hst) : Prop := ∀ g, g < h.guests.length → (gOf h g).maps.length = 6 ∧ (gOf h g).disk.length = 6 ∧ (gOf h g).shades.length = 6

theorem users_ex {h : Hst} {f : Int} (hu : 1 ≤ usersH h f) : ∃ g p, g < h.guests.length ∧ p < (gOf h g).maps.length ∧ inF f (mAt h g p) = true := by
  have key : ∀ (l : List Gst), 1 ≤ (l.map (usersG f)).sum → ∃ i, i < l.length ∧ 1 ≤ usersG f (l.getD i noG) := by
    intro l
    induction l with
    | nil => intro hc; simp at hc
    | cons x l ih =>
      intro hc
      by_cases hx : 1 ≤ usersG f x
      · exact ⟨0, by simp, by simpa using hx⟩
      · obtain ⟨i, h1, h2⟩ := ih (by simp only [List.map_cons, List.sum_cons] at hc; omega)
        exact ⟨i + 1, by simpa using h1, by simpa using h2⟩
  obtain ⟨g, hg, hug⟩ := key h.guests hu
  have hpos : 0 < ((h.guests.getD g noG).maps.filter (inF f)).length := hug
  obtain ⟨m, hm⟩ := List.exists_mem_of_length_pos hpos
  rw [List.mem_filter] at hm
  obtain ⟨p, hp, e⟩ := List.getElem_of_mem hm.1
  refine ⟨g, p, hg, hp, ?_⟩
  show inF f ((gOf h g).maps.getD p noM) = true
  rw [show (gOf h g).maps.getD p noM = m from (getD_lt (l := (h.guests.getD g noG).maps) hp).trans e]
  exact hm.2
theorem users_zero {h : Hst} {f : Int} (hs : Six h) : usersH h f = 0 ↔ ∀ g p, g < h.guests.length → p < 6 → inF f (mAt h g p) = false := by
  constructor
  · intro hu g p hg hp
    cases hc : inF f (mAt h g p)
    · rfl
    · have := users_pos hg (show p < (gOf h g).maps.length by rw [(hs g hg).1]; exact hp) hc
      omega
  · intro hk
    cases Nat.eq_zero_or_pos (usersH h f) with
    | inl h0 => exact h0
    | inr h1 =>
      obtain ⟨g, p, hg, hp, hc⟩ := users_ex h1
      rw [(hs g hg).1] at hp
      rw [hk g p hg hp] at hc
      cases hc
/-- One map of a host written. -/
def setM (h : Hst) (g p : Nat) (m : E3) : Hst := setG h g (withMs (gOf h g) ((gOf h g).maps.set p m))
theorem setM_len (h : Hst) (g p : Nat) (m : E3) : (setM h g p m).guests.length = h.guests.length := setG_len _ _ _
theorem users_setM {h : Hst} {g p : Nat} (hg : g < h.guests.length) (hp : p < (gOf h g).maps.length) (m : E3) (f : Int) : usersH (setM h g p m) f + (bif inF f (mAt h g p) then 1 else 0) = usersH h f + (bif inF f m then 1 else 0) := by
  have h1 := users_set hg (withMs (gOf h g) ((gOf h g).maps.set p m)) f
  have h2 := users_map hp m (gOf h g).disk (gOf h g).shades f
  have e : withMs (gOf h g) ((gOf h g).maps.set p m) = ⟨(gOf h g).maps.set p m, (gOf h g).disk, (gOf h g).shades⟩ := rfl
  rw [← e] at h2
  have e2 : mAt h g p = (gOf h g).maps.getD p noM := rfl
  rw [e2]
  show usersH (setG h g (withMs (gOf h g) ((gOf h g).maps.set p m))) f + _ = _
  omega
theorem mAt_setM {h : Hst} {g p : Nat} (hg : g < h.guests.length) (hp : p < (gOf h g).maps.length) (m : E3) (g' p' : Nat) : mAt (setM h g p m) g' p' = if g' = g ∧ p' = p then m else mAt h g' p' := by
  unfold mAt setM
  by_cases e : g' = g
  · subst e
    rw [gOf_set_same hg]
    show ((gOf h g').maps.set p m).getD p' noM = _
    rw [getD_set _ _ _ _ _ hp]
    by_cases e2 : p' = p
    · rw [if_pos e2, if_pos ⟨rfl, e2⟩]
    · rw [if_neg e2, if_neg (fun h => e2 h.2)]
  · rw [gOf_set_ne e, if_neg (fun h => e h.1)]
theorem six_setM {h : Hst} (hs : Six h) {g p : Nat} (hg : g < h.guests.length) (m : E3) : Six (setM h g p m) := fun i hi => by
  rw [setM_len] at hi
  unfold setM
  by_cases e : i = g
  · subst e
    rw [gOf_set_same hg]
    obtain ⟨a, b, c⟩ := hs i hi
    exact ⟨by show ((gOf h i).maps.set p m).length = 6; rw [List.length_set]; exact a, b, c⟩
  · rw [gOf_set_ne e]; exact hs i hi
/-- Of a page that is in a frame: it is there alone just if one is counted. -/
theorem users_one {h : Hst} (hs : Six h) {g p : Nat} (hg : g < h.guests.length) (hp : p < 6) {f : Int} (hin : inF f (mAt h g p) = true) :
    usersH h f = 1 ↔ ∀ g' p', g' < h.guests.length → p' < 6 → inF f (mAt h g' p') = true → g' = g ∧ p' = p := by
  have hp' : p < (gOf h g).maps.length := by rw [(hs g hg).1]; exact hp
  have hu := users_setM hg hp' noM f
  rw [hin, show inF f noM = false from rfl, cond_true, cond_false] at hu
  have hz := users_zero (f := f) (six_setM hs (p := p) hg noM)
  rw [setM_len] at hz
  rw [show usersH h f = 1 ↔ usersH (setM h g p noM) f = 0 by constructor <;> intro _ <;> omega, hz]
  constructor
  · intro hk g' p' hg' hp2 hc
    have := hk g' p' hg' hp2
    rw [mAt_setM hg hp'] at this
    by_cases e : g' = g ∧ p' = p
    · exact e
    · rw [if_neg e, hc] at this
      cases this
  · intro hk g' p' hg' hp2
    rw [mAt_setM hg hp']
    by_cases e : g' = g ∧ p' = p
    · rw [if_pos e]; rfl
    · rw [if_neg e]
      cases hc : inF f (mAt h g' p')
      · rfl
      · exact (e (hk g' p' hg' hp2 hc)).elim

/-- An ok host, place by place. -/
structure OkH (h : Hst) : Prop where
  f8 : h.frames.length = 8
  fw : ∀ f, f < 8 → okP (fAt h f) = true
  n1 : 1 ≤ h.guests.length
  n2 : h.guests.length ≤ 2
  h0 : 0 ≤ h.hand
  h7 : h.hand ≤ 7
  six : Six h
  dw : ∀ g p, g < h.guests.length → p < 6 → okP (dAt h g p) = true
  mo : ∀ g p, g < h.guests.length → p < 6 → (mAt h g p).1 = false → mAt h g p = noM
  mi : ∀ g p, g < h.guests.length → p < 6 → (mAt h g p).1 = true → 0 ≤ (mAt h g p).2.1 ∧ (mAt h g p).2.1 ≤ 7 ∧ blankP (dAt h g p) = true
  al : ∀ g p g' p', g < h.guests.length → p < 6 → g' < h.guests.length → p' < 6 → (mAt h g p).1 = true → (mAt h g p).2.2 = true → (mAt h g' p').1 = true → (mAt h g' p').2.1 = (mAt h g p).2.1 → g' = g ∧ p' = p
  so : ∀ g p, g < h.guests.length → p < 6 → (sAt h g p).1 = false → sAt h g p = noS
  si : ∀ g p, g < h.guests.length → p < 6 → (sAt h g p).1 = true → 2 ≤ (sAt h g p).2.1 ∧ (sAt h g p).2.1 ≤ 5 ∧ (mAt h g (sAt h g p).2.1.toNat).1 = true ∧ (mAt h g (sAt h g p).2.1.toNat).2.1 = (sAt h g p).2.2.1 ∧ ((sAt h g p).2.2.2 = true → (mAt h g (sAt h g p).2.1.toNat).2.2 = true)

theorem okM_at {ms : List (List Int)} (h : okM ms = true) {k : Nat} (hk : k < ms.length) : okP (ms.getD k []) = true := by
  rw [okM, List.all_eq_true] at h
  exact h _ (by rw [getD_lt hk]; exact List.getElem_mem hk)
theorem okM_mk {ms : List (List Int)} (h : ∀ k, k < ms.length → okP (ms.getD k []) = true) : okM ms = true := by
  rw [okM, List.all_eq_true]
  intro x hx
  obtain ⟨i, hi, rfl⟩ := List.getElem_of_mem hx
  have := h i hi
  rwa [getD_lt hi] at this
theorem inF_iff {f : Int} {m : E3} : inF f m = true ↔ m.1 = true ∧ m.2.1 = f := by simp [inF]
theorem okHost_mk {h : Hst} (k : OkH h) : okHost h = true := by
  rw [okHost_iff]
  refine ⟨?_, fun g hgl => ⟨?_, ?_⟩⟩
  · simp only [okHost0, Bool.and_eq_true, decide_eq_true_eq, beq_iff_eq]
    exact ⟨okM_mk (fun i hi => k.fw i (by rw [k.f8] at hi; exact hi)), k.f8, ⟨k.n1, k.n2⟩, k.h0, k.h7⟩
  · obtain ⟨a, b, c⟩ := k.six g hgl
    simp only [okGuest0, Bool.and_eq_true, beq_iff_eq]
    exact ⟨a, c, okM_mk (fun i hi => k.dw g i hgl (by rw [b] at hi; exact hi)), b⟩
  · rw [okGuest, List.all_eq_true]
    intro p hp
    rw [List.mem_range] at hp
    rw [Bool.and_eq_true]
    refine ⟨?_, ?_⟩
    · show okMap h (mAt h g p) (dAt h g p) = true
      rw [okMap]
      cases h1 : (mAt h g p).1
      · simpa using k.mo g p hgl hp h1
      · obtain ⟨a, b, c⟩ := k.mi g p hgl hp h1
        simp only [cond_true, Bool.and_eq_true, decide_eq_true_eq]
        refine ⟨⟨a, b⟩, c, ?_⟩
        cases h2 : (mAt h g p).2.2
        · rfl
        · have := (users_one k.six hgl hp (f := (mAt h g p).2.1) (inF_iff.2 ⟨h1, rfl⟩)).2 (fun g' p' hg' hp' hc => k.al g p g' p' hgl hp hg' hp' h1 h2 (inF_iff.1 hc).1 (inF_iff.1 hc).2)
          rw [this]
          rfl
    · show okShade (gOf h g) (sAt h g p) = true
      rw [okShade]
      cases h1 : (sAt h g p).1
      · simpa using k.so g p hgl hp h1
      · obtain ⟨a, b, c, d, e⟩ := k.si g p hgl hp h1
        simp only [cond_true, Bool.and_eq_true, decide_eq_true_eq, beq_iff_eq, Bool.or_eq_true]
        refine ⟨⟨a, b⟩, c, d, ?_⟩
        cases h2 : (sAt h g p).2.2.2
        · exact Or.inl rfl
        · exact Or.inr (e h2)

end Go.Proofs.Ytdamdjhnhkmncaa

/-
  Pages taken out, plainly, by places: one, several, all of a frame.
-/
namespace Go.Proofs.Ytdamdjhnhkmncaa
open Go.RowKit

/-- What a page of a guest has. -/
def pAt (h : Hst) (g p : Nat) : List Int := pageM h.frames (gOf h g) p
theorem pAt_eq (h : Hst) (g p : Nat) : pAt h g p = bif (mAt h g p).1 then fAt h (mAt h g p).2.1.toNat else dAt h g p := rfl

end Go.Proofs.Ytdamdjhnhkmncaa

/-
  Pages brought in, and owned, plainly, by places.
-/
namespace Go.Proofs.Ytdamdjhnhkmncaa
open Go.RowKit

end Go.Proofs.Ytdamdjhnhkmncaa

/-
  A host that is written in place: where its rows are behind some acts on it, and what else has turned.
-/
namespace Go.Proofs.Ytdamdjhnhkmncaa
open Go.RowKit

/-- Behind acts on a host in place: its rows are where some were, or in new memory from M on; all else old is as it was. -/
structure Mv (w w' : World) (M N n : Nat) (A A' : Pl → Nat) (h' : Hst) : Prop where
  fr : A' .fr = A .fr
  gs : A' .gs = A .gs
  pl : ∀ x, x.ok n → (∃ y, y.ok n ∧ A' x = A y) ∨ M ≤ A' x
  sep : SepH w' N A' h'
  len : h'.guests.length = n
  bel : Below N w w'
  keep : ∀ j, j < w.heap.size → (∀ x, x.ok n → A x ≠ j) → w'.heap[j]? = w.heap[j]?
  lo : w.heap.size ≤ M
  hi : M ≤ w'.heap.size
theorem Mv.size {w w' : World} {M N n : Nat} {A A' : Pl → Nat} {h' : Hst} (a : Mv w w' M N n A A' h') : w.heap.size ≤ w'.heap.size := Nat.le_trans a.lo a.hi
theorem Mv.start {w w' : World} {M N n : Nat} {A : Pl → Nat} {h : Hst} (k : SepH w N A h) (hn : h.guests.length = n) (hB : Below w.heap.size w w') (hN : N ≤ w.heap.size) (lo : w.heap.size ≤ M) (hi : M ≤ w'.heap.size) : Mv w w' M N n A A h :=
  ⟨rfl, rfl, fun x hx => Or.inl ⟨x, hx, rfl⟩, k.belowK hB, hn, hB.mono hN, fun j hj _ => hB.block j hj, lo, hi⟩
theorem Mv.refl {w : World} {N n : Nat} {A : Pl → Nat} {h : Hst} (k : SepH w N A h) (hn : h.guests.length = n) (hN : N ≤ w.heap.size) : Mv w w w.heap.size N n A A h := Mv.start k hn (Below.refl _ _) hN (Nat.le_refl _) (Nat.le_refl _)
theorem Mv.weak {w w' : World} {M M' N n : Nat} {A A' : Pl → Nat} {h' : Hst} (a : Mv w w' M N n A A' h') (h1 : w.heap.size ≤ M') (h2 : M' ≤ M) : Mv w w' M' N n A A' h' :=
  ⟨a.fr, a.gs, fun x hx => (a.pl x hx).imp id (fun e => by omega), a.sep, a.len, a.bel, a.keep, h1, Nat.le_trans h2 a.hi⟩
/-- None of its rows is a variable of the call's own, nor any other memory that was there. -/
theorem Mv.ne {w w' : World} {M N n : Nat} {A A' : Pl → Nat} {h' : Hst} (a : Mv w w' M N n A A' h') {j : Nat} (hj : j < M) (hA : ∀ x, x.ok n → A x ≠ j) (x : Pl) (hx : x.ok n) : A' x ≠ j := by
  rcases a.pl x hx with ⟨y, hy, e⟩ | e
  · rw [e]; exact hA y hy
  · omega
theorem Mv.off {w w' : World} {M N n : Nat} {A A' : Pl → Nat} {h' : Hst} (a : Mv w w' M N n A A' h') (hA : ∀ x, x.ok n → A x < w.heap.size) {b i : Nat} (h1 : w.heap.size ≤ b) (h2 : b < M) (hN : N ≤ w.heap.size) (u : Value) : Mv w (w'.setCell ⟨b, i, none⟩ u) M N n A A' h' := by
  refine ⟨a.fr, a.gs, a.pl, a.sep.off (fun x hx => ?_) u, a.len, a.bel.setCell (p := ⟨b, i, none⟩) (by show N ≤ b; omega) u, fun j hj hx => ?_, a.lo, by rw [World.size_setCell]; exact a.hi⟩
  · rw [a.len] at hx
    exact a.ne h2 (fun y hy => by have := hA y hy; omega) x hx
  · rw [Below.heap_setCell _ _ _ _ (by simp; omega)]
    exact a.keep j hj hx
theorem Mv.below {w w' w2 : World} {M N n : Nat} {A A' : Pl → Nat} {h' : Hst} (a : Mv w w' M N n A A' h') (hN : N ≤ w.heap.size) (hB : Below w'.heap.size w' w2) : Mv w w2 M N n A A' h' :=
  ⟨a.fr, a.gs, a.pl, a.sep.belowK hB, a.len, a.bel.trans (hB.mono (Nat.le_trans hN a.size)), fun j hj hx => (hB.block j (Nat.lt_of_lt_of_le hj a.size)).trans (a.keep j hj hx), a.lo, Nat.le_trans a.hi hB.size⟩
theorem Mv.call {w w' w2 : World} {M N n : Nat} {A A' A2 : Pl → Nat} {h' h2 : Hst} (a : Mv w w' M N n A A' h') (_hA : ∀ x, x.ok n → A x < w.heap.size) (b : Mv w' w2 w'.heap.size N n A' A2 h2) : Mv w w2 M N n A A2 h2 := by
  have hs := a.hi
  have lo := a.lo
  refine ⟨b.fr.trans a.fr, b.gs.trans a.gs, fun x hx => ?_, b.sep, b.len, a.bel.trans b.bel, fun j hj hx => ?_, a.lo, Nat.le_trans hs b.hi⟩
  · rcases b.pl x hx with ⟨y, hy, e⟩ | e
    · rcases a.pl y hy with ⟨z, hz, e2⟩ | e2
      · exact Or.inl ⟨z, hz, by rw [e, e2]⟩
      · exact Or.inr (by omega)
    · exact Or.inr (by omega)
  · rw [b.keep j (by omega) (fun y hy => a.ne (by omega) hx y hy)]
    exact a.keep j hj hx
/-- A variable of the call's own, over a call on the host. -/
theorem Mv.own {w w' w2 : World} {M N n : Nat} {A A' A2 : Pl → Nat} {h' h2 : Hst} (a : Mv w w' M N n A A' h') (hA : ∀ x, x.ok n → A x < w.heap.size) (b : Mv w' w2 w'.heap.size N n A' A2 h2) {j : Nat} (h1 : w.heap.size ≤ j) (h3 : j < M) : w2.heap[j]? = w'.heap[j]? :=
  b.keep j (Nat.lt_of_lt_of_le h3 a.hi) (fun x hx => a.ne h3 (fun y hy => by have := hA y hy; omega) x hx)
/-- One row written by a step law of SepH. -/
theorem Mv.put {w w' w2 : World} {M N n : Nat} {A A' : Pl → Nat} {h' h2 : Hst} (a : Mv w w' M N n A A' h') (k2 : SepH w2 N A' h2) (hl : h2.guests.length = n) (hb : Below N w' w2) {x0 : Pl} (hx0 : x0.ok n) (hs : w'.heap.size ≤ w2.heap.size) (hw : ∀ j, j < w'.heap.size → j ≠ A' x0 → w2.heap[j]? = w'.heap[j]?) : Mv w w2 M N n A A' h2 :=
  ⟨a.fr, a.gs, a.pl, k2, hl, a.bel.trans hb, fun j hj hx => by
    have := a.lo
    have := a.hi
    rw [hw j (by omega) (fun e => a.ne (by omega) hx x0 hx0 e.symm)]
    exact a.keep j hj hx, a.lo, Nat.le_trans a.hi hs⟩

theorem SepH.hand {w : World} {N : Nat} {A : Pl → Nat} {h : Hst} (k : SepH w N A h) (z : Int) : SepH w N A (setHand h z) :=
  ⟨k.n2, k.f8, k.f4, k.sz, k.inj, k.low, fun x hx => by
    have := k.held x hx
    cases x using Pl.seven <;> exact this⟩
end Go.Proofs.Ytdamdjhnhkmncaa
