/-
  A page taken out of an ok host leaves it ok: who is in a frame, counted.
-/
import Derived.Test.YtjegndgdpmlbaaaKOD
import Derived.Test.YtjegndgdpmlbaaaKOHO
namespace Go.Proofs.Ytjegndgdpmlbaaa
open Go.RowKit

theorem filter_set {α : Type} (q : α → Bool) (d : α) : ∀ (l : List α) (i : Nat) (a : α), i < l.length → ((l.set i a).filter q).length + (bif q (l.getD i d) then 1 else 0) = (l.filter q).length + (bif q a then 1 else 0)
  | [], i, a, h => by simp at h
  | x :: l, 0, a, _ => by
    simp only [List.set_cons_zero, List.getD_cons_zero, List.filter_cons]
    cases q x <;> cases q a <;> simp <;> omega
  | x :: l, i + 1, a, h => by
    have ih := filter_set q d l i a (by simpa using h)
    simp only [List.set_cons_succ, List.getD_cons_succ, List.filter_cons]
    cases q x
    · simpa using ih
    · simp only [if_true, List.length_cons]
      omega
theorem sum_set (f : Gst → Nat) : ∀ (l : List Gst) (i : Nat) (a : Gst), i < l.length → ((l.set i a).map f).sum + f (l.getD i noG) = (l.map f).sum + f a
  | [], i, a, h => by simp at h
  | x :: l, 0, a, _ => by simp; omega
  | x :: l, i + 1, a, h => by
    have ih := sum_set f l i a (by simpa using h)
    simp only [List.set_cons_succ, List.getD_cons_succ, List.map_cons, List.sum_cons]
    omega
theorem filter_pos {α : Type} (q : α → Bool) (d : α) : ∀ (l : List α) (i : Nat), i < l.length → q (l.getD i d) = true → 1 ≤ (l.filter q).length
  | [], i, h, _ => by simp at h
  | x :: l, 0, _, hq => by simp at hq; simp [hq]
  | x :: l, i + 1, h, hq => by
    have ih := filter_pos q d l i (by simpa using h) (by simpa using hq)
    rw [List.filter_cons]
    cases q x
    · simpa using ih
    · simp
theorem sum_pos (f : Gst → Nat) : ∀ (l : List Gst) (i : Nat), i < l.length → f (l.getD i noG) ≤ (l.map f).sum
  | [], i, h => by simp at h
  | x :: l, 0, _ => by simp
  | x :: l, i + 1, h => by
    have ih := sum_pos f l i (by simpa using h)
    simp only [List.getD_cons_succ, List.map_cons, List.sum_cons]
    omega
/-- Who is in a frame behind a change of one guest's maps. -/
theorem users_set {h : Hst} {g : Nat} (hg : g < h.guests.length) (x : Gst) (f : Int) : usersH (setG h g x) f + usersG f (gOf h g) = usersH h f + usersG f x := sum_set (usersG f) h.guests g x hg
theorem users_map {x : Gst} {p : Nat} (hp : p < x.maps.length) (m : E3) (ds : List (List Int)) (ss : List S4) (f : Int) : usersG f ⟨x.maps.set p m, ds, ss⟩ + (bif inF f (x.maps.getD p noM) then 1 else 0) = usersG f x + (bif inF f m then 1 else 0) := filter_set (inF f) noM x.maps p m hp
theorem users_pos {h : Hst} {g p : Nat} {f : Int} (hg : g < h.guests.length) (hp : p < (gOf h g).maps.length) (hin : inF f ((gOf h g).maps.getD p noM) = true) : 1 ≤ usersH h f :=
  Nat.le_trans (filter_pos (inF f) noM _ p hp hin) (sum_pos (usersG f) h.guests g hg)
theorem users_out {h : Hst} {g p : Nat} (hg : g < h.guests.length) (hp : p < (gOf h g).maps.length) (hin : ((gOf h g).maps.getD p noM).1 = true) (f : Int) : usersH (outP h g p) f + (bif inF f ((gOf h g).maps.getD p noM) then 1 else 0) = usersH h f := by
  have h1 := users_set hg (outG1 h.frames (gOf h g) p) f
  have h2 := users_map hp noM ((gOf h g).disk.set p (pageM h.frames (gOf h g) p)) (fU (gOf h g).shades (p : Int) 6) f
  have e : inF f noM = false := rfl
  rw [e] at h2
  rw [outP, hin, cond_true]
  show usersH (setG h g (outG1 h.frames (gOf h g) p)) f + _ = _
  have h3 : usersG f (outG1 h.frames (gOf h g) p) = usersG f ⟨(gOf h g).maps.set p noM, (gOf h g).disk.set p (pageM h.frames (gOf h g) p), fU (gOf h g).shades (p : Int) 6⟩ := rfl
  rw [h3] at h1
  simp only [cond_false] at h2
  omega
theorem fU_noS (ss : List S4) (p : Int) : ∀ k j, (fU ss p k).getD j noS = noS ∨ ((fU ss p k).getD j noS = ss.getD j noS ∧ (j < k → hitS p (ss.getD j noS) = false))
  | 0, j => Or.inr ⟨rfl, fun h => by omega⟩
  | k + 1, j => by
    have ih := fU_noS ss p k j
    have hk := fU_get ss p k k (Nat.le_refl _)
    rw [fU]
    cases hh : hitS p ((fU ss p k).getD k noS)
    · rw [cond_false]
      rcases ih with h | ⟨h1, h2⟩
      · exact Or.inl h
      · refine Or.inr ⟨h1, fun hj => ?_⟩
        by_cases e : j = k
        · subst e
          rw [hk] at hh
          exact hh
        · exact h2 (by omega)
    · rw [cond_true]
      by_cases e : j = k
      · subst e
        by_cases hl : j < (fU ss p j).length
        · exact Or.inl (getD_set_same _ _ _ _ hl)
        · left
          simp only [List.getD_eq_getElem?_getD]
          rw [List.getElem?_eq_none (by rw [List.length_set]; omega)]
          rfl
      · rw [getD_set_ne _ _ _ e]
        rcases ih with h | ⟨h1, h2⟩
        · exact Or.inl h
        · exact Or.inr ⟨h1, fun hj => h2 (by omega)⟩
/-- What an ok host is, by places. -/
theorem okHost_iff (h : Hst) : okHost h = true ↔ okHost0 h = true ∧ ∀ g, g < h.guests.length → okGuest0 (gOf h g) = true ∧ okGuest h (gOf h g) = true := by
  rw [okHost, Bool.and_eq_true, Bool.and_eq_true, List.all_eq_true, List.all_eq_true]
  constructor
  · rintro ⟨h0, h1, h2⟩
    refine ⟨h0, fun g hg => ?_⟩
    have hm : gOf h g ∈ h.guests := by rw [gOf, getD_lt hg]; exact List.getElem_mem hg
    exact ⟨h1 _ hm, h2 _ hm⟩
  · rintro ⟨h0, hk⟩
    refine ⟨h0, fun x hx => ?_, fun x hx => ?_⟩
    all_goals
      obtain ⟨i, hi, rfl⟩ := List.getElem_of_mem hx
      have := hk i hi
      rw [gOf, getD_lt hi] at this
    · exact this.1
    · exact this.2
theorem okHost_out {h : Hst} {g p : Nat} (ho : okHost h = true) (hg : g < h.guests.length) (hp : p < 6) : okHost (outP h g p) = true := by
  cases hin : ((gOf h g).maps.getD p noM).1
  · rw [outP, hin]; exact ho
  obtain ⟨s1, s2, s3, s4⟩ := (okHost_guest ho hg).1
  have hu := fun f => users_out hg (show p < (gOf h g).maps.length from by rw [show (gOf h g).maps.length = 6 from s1]; exact hp) hin f
  have hw := (okHost_iff h).1 ho
  have hzp := pageM_len ho hg hp
  rw [okHost_iff]
  have hlen := outP_len h g p
  have e : outP h g p = setG h g (outG1 h.frames (gOf h g) p) := by rw [outP, hin]; rfl
  refine ⟨?_, fun i hi => ?_⟩
  · have := hw.1
    rw [okHost0] at this ⊢
    rw [hlen, e]
    exact this
  rw [hlen] at hi
  -- what stands where behind it
  have hsame : ∀ q, (i ≠ g ∨ q ≠ p) → (gOf (outP h g p) i).maps.getD q noM = (gOf h i).maps.getD q noM ∧ (gOf (outP h g p) i).disk.getD q [] = (gOf h i).disk.getD q [] := fun q hq => by
    rw [e]
    by_cases eg : i = g
    · subst eg
      rw [gOf_set_same hg]
      have hqp : q ≠ p := by
        rcases hq with h | h
        · exact (h rfl).elim
        · exact h
      exact ⟨getD_set_ne _ _ _ hqp, getD_set_ne _ _ _ hqp⟩
    · rw [gOf_set_ne eg]
      exact ⟨rfl, rfl⟩
  have hmlen : (gOf (outP h g p) i).maps.length = 6 := by
    rw [e]
    by_cases eg : i = g
    · subst eg
      rw [gOf_set_same hg]
      show ((gOf h i).maps.set p noM).length = 6
      rw [List.length_set]; exact s1
    · rw [gOf_set_ne eg]; exact (okHost_guest ho hi).1.1
  have hmap : ∀ q, q < 6 → okMap (outP h g p) ((gOf (outP h g p) i).maps.getD q noM) ((gOf (outP h g p) i).disk.getD q []) = true := fun q hq => by
    by_cases hqq : i = g ∧ q = p
    · obtain ⟨rfl, rfl⟩ := hqq
      have : (gOf (outP h i q) i).maps.getD q noM = noM := by
        rw [e, gOf_set_same hg]
        exact getD_set_same _ _ _ _ (by rw [show (gOf h i).maps.length = 6 from s1]; exact hq)
      rw [this]
      rfl
    · have hne : i ≠ g ∨ q ≠ p := by
        by_cases eg : i = g
        · exact Or.inr (fun e2 => hqq ⟨eg, e2⟩)
        · exact Or.inl eg
      obtain ⟨e1, e2⟩ := hsame q hne
      have ok1 := (okGuest_map (hw.2 i hi).2 hq).1
      have hpos := fun (f : Int) (k : inF f ((gOf (outP h g p) i).maps.getD q noM) = true) => users_pos (h := outP h g p) (g := i) (p := q) (by rw [hlen]; exact hi) (by rw [hmlen]; exact hq) k
      rw [e1] at hpos
      rw [e1, e2]
      generalize (gOf h i).maps.getD q noM = m at ok1 hpos
      obtain ⟨mi, mf, mw⟩ := m
      cases mi
      · exact ok1
      · simp only [okMap, cond_true, Bool.and_eq_true] at ok1 ⊢
        refine ⟨ok1.1, ok1.2.1, ?_⟩
        cases mw
        · rfl
        · have h1 : usersH h mf = 1 := by simpa using ok1.2.2
          have h2 := hu mf
          have h3 := hpos mf (by simp [inF])
          have h4 : usersH (outP h g p) mf = 1 := by
            cases hb : inF mf ((gOf h g).maps.getD p noM) <;> rw [hb] at h2 <;> simp only [cond_true, cond_false] at h2 <;> omega
          simp [h4]
  have hshd : ∀ q, q < 6 → okShade (gOf (outP h g p) i) ((gOf (outP h g p) i).shades.getD q noS) = true := fun q hq => by
    have ok1 := (okGuest_map (hw.2 i hi).2 hq).2
    by_cases eg : i = g
    · subst eg
      have es : (gOf (outP h i p) i).shades = fU (gOf h i).shades (p : Int) 6 := by rw [e, gOf_set_same hg]; rfl
      have em : ∀ q', q' ≠ p → (gOf (outP h i p) i).maps.getD q' noM = (gOf h i).maps.getD q' noM := fun q' hq' => (hsame q' (Or.inr hq')).1
      rw [es]
      rcases fU_noS (gOf h i).shades (p : Int) 6 q with h0 | ⟨h1, h2⟩
      · rw [h0]; rfl
      · rw [h1]
        have h2 := h2 hq
        change okShade (gOf h i) ((gOf h i).shades.getD q noS) = true at ok1
        generalize (gOf h i).shades.getD q noS = s at ok1 h2
        obtain ⟨sh, sp, sf, sw⟩ := s
        cases sh
        · exact ok1
        · have hsp : sp ≠ (p : Int) := by simpa [hitS] using h2
          simp only [okShade, cond_true, Bool.and_eq_true, decide_eq_true_eq] at ok1 ⊢
          have hne : sp.toNat ≠ p := by omega
          rw [em _ hne]
          exact ok1
    · have eo : gOf (outP h g p) i = gOf h i := by rw [e]; exact gOf_set_ne eg
      rw [eo]
      exact ok1
  refine ⟨?_, ?_⟩
  · by_cases eg : i = g
    · subst eg
      rw [e, gOf_set_same hg]
      have h0 := (hw.2 i hi).1
      simp only [okGuest0, Bool.and_eq_true, beq_iff_eq] at h0 ⊢
      refine ⟨by show ((gOf h i).maps.set p noM).length = 6; rw [List.length_set]; exact h0.1, by show (fU (gOf h i).shades (p : Int) 6).length = 6; rw [fU_len]; exact h0.2.1, ?_, by show ((gOf h i).disk.set p (pageM h.frames (gOf h i) p)).length = 6; rw [List.length_set]; exact h0.2.2.2⟩
      show okM ((gOf h i).disk.set p (pageM h.frames (gOf h i) p)) = true
      rw [okM, List.all_eq_true]
      intro x hx
      rcases List.mem_or_eq_of_mem_set hx with hx | rfl
      · have := h0.2.2.1
        rw [okM, List.all_eq_true] at this
        exact this x hx
      · obtain ⟨F, hF8, hF⟩ := okMap_in (okGuest_map (hw.2 i hi).2 hp).1 hin
        have hpm : pageM h.frames (gOf h i) p = h.frames.getD F [] := by
          simp only [pageM, hin, cond_true]
          rw [show ((gOf h i).maps.getD p noM).2.1 = (F : Int) from hF, Int.toNat_natCast]
        rw [hpm]
        obtain ⟨hf8, _⟩ := okHost_frames ho
        have h00 := hw.1
        simp only [okHost0, Bool.and_eq_true] at h00
        have := h00.1
        rw [okM, List.all_eq_true] at this
        exact this _ (by rw [getD_lt (by omega)]; exact List.getElem_mem _)
    · have eo : gOf (outP h g p) i = gOf h i := by rw [e]; exact gOf_set_ne eg
      rw [eo]
      exact (hw.2 i hi).1
  · simp only [okGuest, List.all_eq_true, List.mem_range, Bool.and_eq_true]
    exact fun q hq => ⟨hmap q hq, hshd q hq⟩
end Go.Proofs.Ytjegndgdpmlbaaa

/-
  What the given l13First does.
-/
set_option linter.unusedSimpArgs false
namespace Go.Proofs.Ytjegndgdpmlbaaa
open Go.RowKit
attribute [local go_sem ↓] Go.wp_at_zero Go.wp_at_succ exec_app
attribute [local go_sem] bigNext_ok

/-- The first frame that nobody is in; -1, if there is none. -/
def firstI (U : Int → Nat) : Nat → Nat → Int
  | _, 0 => -1
  | f, n + 1 => bif U (f : Int) == 0 then (f : Int) else firstI U (f + 1) n
def firstH (h : Hst) : Int := firstI (usersH h) 0 8

set_option maxRecDepth 100000 in
set_option maxHeartbeats 4000000 in
theorem specFirst (lo hi : Nat) (af ag : Option Addr) (cf n cg : Nat) (h : Hst) (w : World) (hH : HostIn w lo hi (.slice af 8 cf) (.slice ag n cg) h) (hh : hi ≤ w.heap.size) (hn2 : h.guests.length ≤ 2) (hm : ∀ g, g < h.guests.length → (gOf h g).maps.length = 6) :
    Calls Try.prog 89 #[.agg #[.slice af 8 cf, .slice ag n cg, .int .i64 h.hand]] w fun e w' => e = .returned (.int .i64 (firstH h)) ∧ Below w.heap.size w w' := by
  obtain ⟨W1, hW1⟩ : ∃ W1, W1 = w.alloc (.cells #[.slice af 8 cf, .slice ag n cg, .int .i64 h.hand] 26) := ⟨_, rfl⟩
  have s1 : w.heap.size < W1.heap.size := by rw [hW1]; simp
  have B1 : Below w.heap.size w W1 := by rw [hW1]; exact (Below.refl _ _).alloc (Nat.le_refl _) _
  have x1 := hidE (show W1.cell? ⟨w.heap.size, 0, none⟩ = some (.slice af 8 cf) ∧ W1.cell? ⟨w.heap.size, 1, none⟩ = some (.slice ag n cg) ∧ W1.cell? ⟨w.heap.size, 2, none⟩ = some (.int .i64 h.hand) by rw [hW1]; simp)
  have hus := fun (W' : World) (B : Below w.heap.size w W') (f : Int) => specUsers lo hi _ _ h f W' (hH.same (below_sameIn B hh)) (Nat.le_trans hh B.size) (by omega) (fun i hi => by rw [show (h.guests.getD i noG).maps.length = 6 from hm i hi]; omega)
  have hst : firstH h = firstI (usersH h) 0 (8 - 0) := rfl
  clear hH
  generalize firstH h = res at *
  generalize usersH h = U at *
  have Hus := hidE hus
  have Hst := hidE hst
  clear hus hst hm
  go_enter Try.func89, Try.ntmps89
  go_wp2_with (fail)
  rw [← hW1]
  clear hW1
  go_loopw [3] (fun i wr => ∃ k : Nat, k ≤ 8 ∧ i = .int .i64 k ∧ Hid (res = firstI U k (8 - k)) ∧ Hid (Below W1.heap.size W1 wr)) (fun i _ => 8 - (intOf i).toNat)
  case atStart => exact ⟨0, Nat.zero_le _, rfl, Hst.out, Below.refl _ _⟩
  case round =>
    clear Hst
    obtain ⟨k, hk, rfl, HE, HB⟩ := hrel
    have sB := HB.out.size
    obtain ⟨y0, y1, y2⟩ := cells3 HB.out s1 x1.out
    have lw : w.heap.size < wr.heap.size := by omega
    have HBw := hidE (B1.trans (HB.out.mono B1.size))
    by_cases hkl : k < 8
    · have hki : (k : Int) < 8 := by omega
      have hu := Hus.out wr HBw.out (k : Int)
      have hstep : firstI U k (8 - k) = bif U (k : Int) == 0 then (k : Int) else firstI U (k + 1) (8 - (k + 1)) := by
        rw [show 8 - k = (8 - (k + 1)) + 1 by omega]; rfl
      have Hstep := hidE hstep
      clear hstep
      go_wp2_with (fail)
      refine hu.mono ?_
      rintro e w2 ⟨rfl, B2⟩
      have HB2 := hidE (HB.out.trans (B2.mono sB))
      have HBw2 := hidE (HBw.out.trans (B2.mono (by omega)))
      clear hu B2
      generalize U (k : Int) = uk at *
      by_cases hu0 : uk = 0
      · subst hu0
        have Hres := hidE (show res = (k : Int) by rw [HE.out, Hstep.out]; rfl)
        clear HE Hstep
        go_wp2
        go_ret
        exact ⟨by rw [Hres.out]; rfl, HBw2.out⟩
      · have hn0 : ((uk : Int) == 0) = false := by simp; omega
        have Hres := hidE (show res = firstI U (k + 1) (8 - (k + 1)) by
          rw [HE.out, Hstep.out, show (uk == 0) = false by simp; omega]; rfl)
        clear HE Hstep
        go_wp2
        go_roundw
        case rel => exact ⟨k + 1, by omega, by go_num, Hres.out, HB2.out⟩
        case measure => simp [intOf]; omega
    · obtain rfl : k = 8 := by omega
      go_wp2
      go_ret
      exact ⟨by rw [HE.out]; rfl, HBw.out⟩
end Go.Proofs.Ytjegndgdpmlbaaa

/-
  What the given l13Clear does.
-/
set_option linter.unusedSimpArgs false
namespace Go.Proofs.Ytjegndgdpmlbaaa
open Go.RowKit
attribute [local go_sem ↓] Go.wp_at_zero Go.wp_at_succ exec_app
attribute [local go_sem] bigNext_ok

/-- All pages of a guest, of all guests, that are in a frame taken out. -/
def clrG (h : Hst) (f : Int) (g : Nat) : Nat → Hst
  | 0 => h
  | k + 1 => bif inF f ((gOf (clrG h f g k) g).maps.getD k noM) then outP (clrG h f g k) g k else clrG h f g k
def clrH (h : Hst) (f : Int) : Nat → Hst
  | 0 => h
  | k + 1 => clrG (clrH h f k) f k 6
theorem clrG_ok {h : Hst} {f : Int} {g : Nat} (ho : okHost h = true) (hg : g < h.guests.length) : ∀ k, k ≤ 6 → okHost (clrG h f g k) = true ∧ (clrG h f g k).guests.length = h.guests.length ∧ (clrG h f g k).hand = h.hand
  | 0, _ => ⟨ho, rfl, rfl⟩
  | k + 1, hk => by
    obtain ⟨i1, i2, i3⟩ := clrG_ok ho hg k (by omega)
    rw [clrG]
    cases inF f ((gOf (clrG h f g k) g).maps.getD k noM)
    · exact ⟨i1, i2, i3⟩
    · rw [cond_true]
      exact ⟨okHost_out i1 (by omega) (by omega), by rw [outP_len]; exact i2, by rw [outP_hand]; exact i3⟩
theorem clrH_ok {h : Hst} {f : Int} (ho : okHost h = true) : ∀ k, k ≤ h.guests.length → okHost (clrH h f k) = true ∧ (clrH h f k).guests.length = h.guests.length ∧ (clrH h f k).hand = h.hand
  | 0, _ => ⟨ho, rfl, rfl⟩
  | k + 1, hk => by
    obtain ⟨i1, i2, i3⟩ := clrH_ok ho k (by omega)
    obtain ⟨j1, j2, j3⟩ := clrG_ok (f := f) i1 (g := k) (by omega) 6 (Nat.le_refl _)
    exact ⟨j1, by rw [clrH, j2, i2], by rw [clrH, j3, i3]⟩

/-- A host written in place: where its rows are, behind some acts on it. -/
def Moved (w wr : World) (M N n : Nat) (A : Pl → Nat) (h' : Hst) : Prop :=
  (∃ A', A' .fr = A .fr ∧ (A' .gs = A .gs ∧ A' (.maps 9) = A (.maps 9)) ∧ (∀ x, x.ok n → A' x = A x ∨ M ≤ A' x) ∧ SepH wr N A' h') ∧ Below N w wr ∧ (∀ j, j < w.heap.size → (∀ x, x.ok n → A x ≠ j) → wr.heap[j]? = w.heap[j]?) ∧ M ≤ wr.heap.size
theorem Moved.low {w wr : World} {M M' N n : Nat} {A : Pl → Nat} {h' : Hst} (h : Moved w wr M N n A h') (hM : M' ≤ M) : Moved w wr M' N n A h' := by
  obtain ⟨⟨A', a1, a2, a3, k⟩, b, x, s⟩ := h
  exact ⟨⟨A', a1, a2, fun y hy => (a3 y hy).imp id (fun e => by omega), k⟩, b, x, by omega⟩
/-- Behind a store into a variable of the call's own. -/
theorem Moved.off {w wr : World} {M N n : Nat} {A : Pl → Nat} {h' : Hst} (h : Moved w wr M N n A h') (hl : h'.guests.length = n) (hA : ∀ x, x.ok n → A x < w.heap.size) {b i : Nat} (hb : w.heap.size ≤ b ∧ b < M) (hN : N ≤ w.heap.size) (u : Value) : Moved w (wr.setCell ⟨b, i, none⟩ u) M N n A h' := by
  obtain ⟨⟨A', a1, a2, a3, k⟩, bl, x, s⟩ := h
  refine ⟨⟨A', a1, a2, a3, k.off (fun y hy => ?_) u⟩, bl.setCell (p := ⟨b, i, none⟩) (by show N ≤ b; omega) u, fun j hj hx => ?_, by rw [World.size_setCell]; exact s⟩
  · rw [hl] at hy
    rcases a3 y hy with e | e
    · have := hA y hy; omega
    · omega
  · rw [Below.heap_setCell _ _ _ _ (by simp; omega)]
    exact x j hj hx

set_option maxRecDepth 100000 in
set_option maxHeartbeats 8000000 in
theorem specClear (N : Nat) (A : Pl → Nat) (h : Hst) (f : Int) (n cf cg : Nat) (w : World) (k : SepH w N A h) (ho : okHost h = true) (hn : h.guests.length = n) (hN : N ≤ w.heap.size) :
    Calls Try.prog 90 #[.agg #[.slice (some ⟨A .fr, 0, none⟩) 8 cf, .slice (some ⟨A .gs, 0, none⟩) n cg, .int .i64 h.hand], .int .i64 f] w fun e w' => e = .returned (.agg #[.slice (some ⟨A .fr, 0, none⟩) 8 cf, .slice (some ⟨A .gs, 0, none⟩) n cg, .int .i64 h.hand]) ∧ Moved w w' w.heap.size N n A (clrH h f n) := by
  obtain ⟨W2, hW2⟩ : ∃ W2, W2 = (w.alloc (.cells #[.slice (some ⟨A .fr, 0, none⟩) 8 cf, .slice (some ⟨A .gs, 0, none⟩) n cg, .int .i64 h.hand] 26)).alloc (.cells #[.slice none 0 0, .slice none 0 0, .int .i64 0] 26) := ⟨_, rfl⟩
  have B2 : Below w.heap.size w W2 := by rw [hW2]; exact ((Below.refl _ _).alloc (Nat.le_refl _) _).alloc (by simp) _
  have s2 : W2.heap.size ≤ w.heap.size + 2 ∧ w.heap.size + 2 ≤ W2.heap.size := by rw [hW2]; simp
  have p2 := hidE (show Var3 W2 w.heap.size (.slice (some ⟨A .fr, 0, none⟩) 8 cf) (.slice (some ⟨A .gs, 0, none⟩) n cg) (.int .i64 h.hand) by rw [hW2]; exact (var3_new w _ _ _ _).allocK _)
  have r2 := hidE (show Var3 W2 (w.heap.size + 1) (.slice none 0 0) (.slice none 0 0) (.int .i64 0) by rw [hW2]; exact var3_newK (by simp))
  have M2 := hidE (show Moved w W2 (w.heap.size + 2) N n A (clrH h f 0) from ⟨⟨A, rfl, ⟨rfl, rfl⟩, fun _ _ => Or.inl rfl, k.belowK B2⟩, B2.mono hN, fun j hj _ => B2.block j hj, s2.2⟩)
  have hAl : ∀ x, x.ok n → A x < w.heap.size := fun x hx => (k.low x (by rw [hn]; exact hx)).2
  have hok := hidE (fun m (hm : m ≤ n) => clrH_ok (f := f) ho m (by rw [hn]; exact hm))
  have lG0 := hAl .gs trivial
  have hn2 : n ≤ 2 := by rw [← hn]; exact k.n2
  go_enter Try.func90, Try.ntmps90
  go_wp2_with (fail)
  rw [← hW2]
  clear hW2 B2
  go_loopw [5, 6] (fun i _ wr => ∃ m : Nat, m ≤ n ∧ i = .int .i64 m ∧ Hid (Moved w wr (w.heap.size + 2) N n A (clrH h f m)) ∧ Hid (Var3 wr w.heap.size (.slice (some ⟨A .fr, 0, none⟩) 8 cf) (.slice (some ⟨A .gs, 0, none⟩) n cg) (.int .i64 h.hand)) ∧ Hid (Var3 wr (w.heap.size + 1) (.slice none 0 0) (.slice none 0 0) (.int .i64 0))) (fun i _ _ => n - (intOf i).toNat)
  case atStart => exact ⟨0, Nat.zero_le _, rfl, M2.out, p2.out, r2.out⟩
  case round =>
    clear M2 p2 r2
    obtain ⟨m, hm, rfl, HM, HP, HR⟩ := hrel
    obtain ⟨p0, p1, p3, f0, f1, f2⟩ := HP.out
    have sM := HM.out.2.2.2
    have lP : w.heap.size < wr.heap.size := by omega
    by_cases hml : m < n
    · have hmi : (m : Int) < (n : Int) := by omega
      obtain ⟨o1, o2, o3⟩ := hok.out m hm
      have hokG := hidE (fun q (hq : q ≤ 6) => clrG_ok (f := f) (g := m) o1 (by rw [o2, hn]; exact hml) q hq)
      have o2' : (clrH h f m).guests.length = n := by rw [o2, hn]
      have Hnext := hidE (show clrH h f (m + 1) = clrG (clrH h f m) f m 6 from rfl)
      have HM0 : Hid (Moved w wr (w.heap.size + 2) N n A (clrG (clrH h f m) f m 0)) := HM.out
      clear HM
      generalize clrH h f m = h1 at *
      go_wp2_with (fail)
      go_loopw [6] (fun i wq => ∃ q : Nat, q ≤ 6 ∧ i = .int .i64 q ∧ Hid (Moved w wq (w.heap.size + 2) N n A (clrG h1 f m q)) ∧ Hid (Var3 wq w.heap.size (.slice (some ⟨A .fr, 0, none⟩) 8 cf) (.slice (some ⟨A .gs, 0, none⟩) n cg) (.int .i64 h.hand)) ∧ Hid (Var3 wq (w.heap.size + 1) (.slice none 0 0) (.slice none 0 0) (.int .i64 0))) (fun i _ => 6 - (intOf i).toNat)
      case atStart => exact ⟨0, Nat.zero_le _, rfl, HM0.out, HP.out, HR.out⟩
      case round =>
        clear HM0 HP HR p0 p1 p3 f0 f1 f2
        obtain ⟨q, hq, rfl, HM, HP, HR⟩ := hrel
        obtain ⟨p0, p1, p3, f0, f1, f2⟩ := HP.out
        have sMq := HM.out.2.2.2
        have lPq : w.heap.size < wr.heap.size := by omega
        by_cases hql : q < 6
        · have hqi : (q : Int) < 6 := by omega
          obtain ⟨g1, g2, g3⟩ := hokG.out q hq
          have g2n : (clrG h1 f m q).guests.length = n := by rw [g2, o2']
          have g3h : (clrG h1 f m q).hand = h.hand := by rw [g3, o3]
          have Hnq := hidE (show clrG h1 f m (q + 1) = bif inF f ((gOf (clrG h1 f m q) m).maps.getD q noM) then outP (clrG h1 f m q) m q else clrG h1 f m q from rfl)
          generalize clrG h1 f m q = h2 at *
          have HMo := HM.out
          obtain ⟨⟨A', aF, ⟨aG, a9⟩, aX, kS⟩, bl, xx, _⟩ := HMo
          have hm2 : m < h2.guests.length := by rw [g2n]; exact hml
          obtain ⟨⟨c1, u1⟩, _, _⟩ := (kS.held .gs trivial).1 m hm2
          obtain ⟨v0, v1, _⟩ := (kS.held (.maps m) hm2).1 q (by rw [(kS.sz m hm2).1]; exact hql)
          rw [Nat.zero_add, show ((false, 0, false) : E3) = noM from rfl] at v0 v1
          have lM : A' (.maps m) < wr.heap.size := (kS.low (.maps m) hm2).2
          have lGq : A .gs < wr.heap.size := by omega
          rw [aG] at u1
          have hout := specOut13 N A' h2 m q n cf cg wr kS g1 g2n hml hql (by omega)
          rw [aF, aG, a9, g3h] at hout
          clear a9
          generalize hmm : (gOf h2 m).maps.getD q noM = mm at *
          obtain ⟨mi, mf, mw⟩ := mm
          simp only at v0 v1
          have HkS := hidE (And.intro aF (And.intro aG (And.intro aX kS)))
          have Hbx := hidE (And.intro bl xx)
          clear kS bl xx aX
          cases mi
          · clear hout
            go_wp2
            go_roundw
            case rel => exact ⟨q + 1, by omega, by go_num, by rw [Hnq.out]; exact HM.out, HP.out, HR.out⟩
            case measure => simp [intOf]; omega
          · by_cases hmf : mf = f
            · subst hmf
              have Hnq' := hidE (show clrG h1 mf m (q + 1) = outP h2 m q by rw [Hnq.out, show inF mf (true, mf, mw) = true by simp [inF]]; rfl)
              clear Hnq HM
              go_wp2_with (fail)
              refine hout.mono ?_
              rintro e w5 ⟨rfl, ⟨A2, b1, b2, b3, k5⟩, B5, X5⟩
              have z5 := B5.size
              obtain ⟨aF, aG, aX, kS⟩ := HkS.out
              have hnew : ∀ j, w.heap.size ≤ j → j < w.heap.size + 2 → w5.heap[j]? = wr.heap[j]? := fun j j1 j2 => X5 j (by omega) (fun x hx => by
                rcases aX x hx with e | e
                · have := hAl x hx; omega
                · omega)
              have P5 := HP.out.same (hnew w.heap.size (Nat.le_refl _) (by omega))
              have R5 := hidE (HR.out.same (hnew (w.heap.size + 1) (by omega) (by omega)))
              have M5 := hidE (show Moved w w5 (w.heap.size + 2) N n A (outP h2 m q) from ⟨⟨A2, b1, b2, fun x hx => by
                  rcases b3 x hx with e | e
                  · rcases aX x hx with e2 | e2
                    · left; rw [e, e2]
                    · right; omega
                  · right; omega, k5⟩, Hbx.out.1.trans B5, fun j hj hx => by
                  rw [X5 j (by omega) (fun x hx2 => by
                    rcases aX x hx2 with e | e
                    · rw [e]; exact hx x hx2
                    · omega)]
                  exact Hbx.out.2 j hj hx, by omega⟩)
              have HP5 := hidE P5
              obtain ⟨d0, d1, d2, i0, i1, i2⟩ := P5
              have l5 : w.heap.size < w5.heap.size := by omega
              have hol := outP_len h2 m q
              clear hout k5 B5 X5 hnew p0 p1 p3 f0 f1 f2 u1 v0 v1 HkS kS
              go_wp2
              go_roundw
              case rel =>
                have hlo : (outP h2 m q).guests.length = n := by rw [hol, g2n]
                refine ⟨q + 1, by omega, by go_num, ?_, HP5.out.putAll _ _ _, R5.out.same (by rw [Below.heap_setCell _ _ _ _ (by simp), Below.heap_setCell _ _ _ _ (by simp), Below.heap_setCell _ _ _ _ (by simp)])⟩
                rw [Hnq'.out]
                exact ((M5.out.off hlo hAl ⟨Nat.le_refl _, by omega⟩ hN _).off hlo hAl ⟨Nat.le_refl _, by omega⟩ hN _).off hlo hAl ⟨Nat.le_refl _, by omega⟩ hN _
              case measure => simp [intOf]; omega
            · have hne : (mf == f) = false := by simpa using hmf
              have Hnq' := hidE (show clrG h1 f m (q + 1) = h2 by rw [Hnq.out, show inF f (true, mf, mw) = false by simp [inF, hmf]]; rfl)
              clear hout Hnq
              go_wp2
              go_roundw
              case rel => exact ⟨q + 1, by omega, by go_num, by rw [Hnq'.out]; exact HM.out, HP.out, HR.out⟩
              case measure => simp [intOf]; omega
        · obtain rfl : q = 6 := by omega
          go_wp2
          go_roundw
          case rel => exact ⟨m + 1, by omega, by go_num, by rw [Hnext.out]; exact HM.out, HP.out, HR.out⟩
          case measure => simp [intOf]; omega
    · obtain rfl : m = n := by omega
      obtain ⟨y0, y1, y2, e0, e1, e2⟩ := HR.out
      have lR : w.heap.size + 1 < wr.heap.size := by omega
      have hln := (hok.out m hm).2.1
      go_wp2
      refine bodyPost_ret (v := .agg #[.slice (some ⟨A .fr, 0, none⟩) 8 cf, .slice (some ⟨A .gs, 0, none⟩) m cg, .int .i64 h.hand]) (by simp [results, Try.results90, go_sem, *]) rfl ?_
      have hlm : (clrH h f m).guests.length = m := by rw [hln, hn]
      exact ⟨rfl, (((HM.out.off hlm hAl ⟨Nat.le_succ _, by omega⟩ hN _).off hlm hAl ⟨Nat.le_succ _, by omega⟩ hN _).off hlm hAl ⟨Nat.le_succ _, by omega⟩ hN _).low (by omega)⟩
end Go.Proofs.Ytjegndgdpmlbaaa

/-
  A page that comes into a frame: its block is the frame's, and the page on disk is a new one.
-/
set_option linter.unusedSimpArgs false
namespace Go.Proofs.Ytjegndgdpmlbaaa
open Go.RowKit

/-- The host behind it, but for the map. -/
def swapH (h : Hst) (g p F : Nat) : Hst := setF (setG h g (withDs (gOf h g) ((gOf h g).disk.set p [0, 0, 0, 0]))) F ((gOf h g).disk.getD p [])
theorem swapH_len (h : Hst) (g p F : Nat) : (swapH h g p F).guests.length = h.guests.length := setG_len _ _ _
theorem gOf_swap_same {h : Hst} {g p F : Nat} (hg : g < h.guests.length) : gOf (swapH h g p F) g = withDs (gOf h g) ((gOf h g).disk.set p [0, 0, 0, 0]) := getD_set_same _ _ _ _ hg
theorem gOf_swap_ne {h : Hst} {g p F i : Nat} (hi : i ≠ g) : gOf (swapH h g p F) i = gOf h i := getD_set_ne _ _ _ hi
theorem SepH.swap {w w' : World} {N : Nat} {A : Pl → Nat} {h : Hst} (k : SepH w N A h) {g : Nat} (hg : g < h.guests.length) {p : Nat} (hp : p < 6) {F : Nat} (hF : F < 8) {b c c2 : Nat} (hs : w.heap.size ≤ w'.heap.size) (hb : N ≤ b ∧ b < w'.heap.size) (hfree : ∀ x, x.ok h.guests.length → A x ≠ b)
    (hw : ∀ x, x.ok h.guests.length → x ≠ .fr → x ≠ .row g → w'.heap[A x]? = w.heap[A x]?)
    (hfr : ∀ i v, w.cell? ⟨A .fr, i, none⟩ = some v → w.frozen? ⟨A .fr, i, none⟩ = false → w'.cell? ⟨A .fr, i, none⟩ = some (if i = F then .slice (some ⟨A (.dsk g p), 0, none⟩) 4 c else v) ∧ w'.frozen? ⟨A .fr, i, none⟩ = false)
    (hro : ∀ i v, w.cell? ⟨A (.row g), i, none⟩ = some v → w.frozen? ⟨A (.row g), i, none⟩ = false → w'.cell? ⟨A (.row g), i, none⟩ = some (if i = p then .slice (some ⟨b, 0, none⟩) 4 c2 else v) ∧ w'.frozen? ⟨A (.row g), i, none⟩ = false)
    (hI : Ints w' b 0 [0, 0, 0, 0]) (hR : Room w' b 4) : SepH w' N (upd (upd A (.page F) (A (.dsk g p))) (.dsk g p) b) (swapH h g p F) := by
  obtain ⟨s1, s2, s3, s4⟩ := k.sz g hg
  have hlen := swapH_len h g p F
  have e0 : ∀ x, x ≠ .dsk g p → x ≠ .page F → upd (upd A (.page F) (A (.dsk g p))) (.dsk g p) b x = A x := fun x h1 h2 => by rw [upd_ne _ _ h1, upd_ne _ _ h2]
  have e1 : upd (upd A (.page F) (A (.dsk g p))) (.dsk g p) b (.dsk g p) = b := upd_same _ _ _
  have e2 : upd (upd A (.page F) (A (.dsk g p))) (.dsk g p) b (.page F) = A (.dsk g p) := by rw [upd_ne _ _ (by intro e; cases e), upd_same]
  have hkx := fun x (hx : x.ok h.guests.length) (h1 : x ≠ .fr) (h2 : x ≠ .row g) => (k.held x hx).same (hw x hx h1 h2)
  refine ⟨by rw [hlen]; exact k.n2, by rw [← k.f8]; exact List.length_set, fun i hi => ?_, fun j hj => ?_, fun x y hx hy e => ?_, fun x hx => ?_, fun x hx => ?_⟩
  · show ((h.frames.set F ((gOf h g).disk.getD p [])).getD i []).length = 4
    rw [getD_set _ _ _ _ _ (by rw [k.f8]; exact hF)]
    by_cases hiF : i = F
    · rw [if_pos hiF]; exact s3 p hp
    · rw [if_neg hiF]; exact k.f4 i hi
  · rw [hlen] at hj
    by_cases ej : j = g
    · subst ej
      rw [gOf_swap_same hg]
      refine ⟨s1, by show ((gOf h j).disk.set p [0, 0, 0, 0]).length = 6; rw [List.length_set]; exact s2, fun i hi => ?_, s4⟩
      show (((gOf h j).disk.set p [0, 0, 0, 0]).getD i []).length = 4
      rw [getD_set _ _ _ _ _ (by omega)]
      by_cases hip : i = p
      · rw [if_pos hip]; rfl
      · rw [if_neg hip]; exact s3 i hi
    · rw [gOf_swap_ne ej]; exact k.sz j hj
  · rw [hlen] at hx hy
    by_cases x1 : x = .dsk g p
    · by_cases y1 : y = .dsk g p
      · rw [x1, y1]
      · exfalso
        rw [x1, e1] at e
        by_cases y2 : y = .page F
        · rw [y2, e2] at e; exact hfree (.dsk g p) ⟨hg, hp⟩ e.symm
        · rw [e0 y y1 y2] at e; exact hfree y hy e.symm
    · by_cases y1 : y = .dsk g p
      · exfalso
        rw [y1, e1] at e
        by_cases x2 : x = .page F
        · rw [x2, e2] at e; exact hfree (.dsk g p) ⟨hg, hp⟩ e
        · rw [e0 x x1 x2] at e; exact hfree x hx e
      · by_cases x2 : x = .page F
        · by_cases y2 : y = .page F
          · rw [x2, y2]
          · exfalso
            rw [x2, e2, e0 y y1 y2] at e
            exact y1 (k.inj (.dsk g p) y ⟨hg, hp⟩ hy e).symm
        · by_cases y2 : y = .page F
          · exfalso
            rw [y2, e2, e0 x x1 x2] at e
            exact x1 (k.inj x (.dsk g p) hx ⟨hg, hp⟩ e)
          · rw [e0 x x1 x2, e0 y y1 y2] at e
            exact k.inj x y hx hy e
  · rw [hlen] at hx
    by_cases x1 : x = .dsk g p
    · rw [x1, e1]; exact hb
    · by_cases x2 : x = .page F
      · rw [x2, e2]
        have := k.low (.dsk g p) ⟨hg, hp⟩
        exact ⟨this.1, by omega⟩
      · rw [e0 x x1 x2]
        have := k.low x hx
        exact ⟨this.1, by omega⟩
  · rw [hlen] at hx
    cases x using Pl.seven with
    | fr =>
      intro i hi
      obtain ⟨⟨c', q⟩, fz⟩ := k.held .fr trivial i hi
      obtain ⟨q', fz'⟩ := hfr i _ q fz
      rw [e0 .fr (by intro e; cases e) (by intro e; cases e)]
      refine ⟨?_, fz'⟩
      by_cases hiF : i = F
      · subst hiF
        rw [if_pos rfl] at q'
        rw [e2]
        exact ⟨c, q'⟩
      · rw [if_neg hiF] at q'
        rw [e0 (.page i) (by intro e; cases e) (fun e => hiF (by cases e; rfl))]
        exact ⟨c', q'⟩
    | gs =>
      have hh := hkx .gs trivial (by intro e; cases e) (by intro e; cases e)
      refine ⟨fun i hi => ?_, ?_⟩
      · rw [hlen] at hi
        rw [e0 .gs (by intro e; cases e) (by intro e; cases e), e0 (.maps i) (by intro e; cases e) (by intro e; cases e), e0 (.row i) (by intro e; cases e) (by intro e; cases e), e0 (.shd i) (by intro e; cases e) (by intro e; cases e)]
        exact hh.1 i hi
      · rw [e0 .gs (by intro e; cases e) (by intro e; cases e), e0 (.maps 9) (by intro e; cases e) (by intro e; cases e), hlen]; exact hh.2
    | page i =>
      show Ints w' (upd (upd A (.page F) (A (.dsk g p))) (.dsk g p) b (.page i)) 0 ((h.frames.set F ((gOf h g).disk.getD p [])).getD i []) ∧ Room w' (upd (upd A (.page F) (A (.dsk g p))) (.dsk g p) b (.page i)) 4
      rw [getD_set _ _ _ _ _ (by rw [k.f8]; exact hF)]
      by_cases hiF : i = F
      · subst hiF
        rw [if_pos rfl, e2]
        exact hkx (.dsk g p) ⟨hg, hp⟩ (by intro e; cases e) (by intro e; cases e)
      · rw [if_neg hiF, e0 (.page i) (by intro e; cases e) (fun e => hiF (by cases e; rfl))]
        exact hkx (.page i) hx (by intro e; cases e) (by intro e; cases e)
    | maps i =>
      have hh := hkx (.maps i) hx (by intro e; cases e) (by intro e; cases e)
      show Ents w' (upd (upd A (.page F) (A (.dsk g p))) (.dsk g p) b (.maps i)) 0 (gOf (swapH h g p F) i).maps ∧ Room w' (upd (upd A (.page F) (A (.dsk g p))) (.dsk g p) b (.maps i)) 18
      rw [e0 (.maps i) (by intro e; cases e) (by intro e; cases e)]
      by_cases ei : i = g
      · subst ei; rw [gOf_swap_same hg]; exact hh
      · rw [gOf_swap_ne ei]; exact hh
    | row i =>
      intro j hj
      rw [e0 (.row i) (by intro e; cases e) (by intro e; cases e)]
      by_cases ei : i = g
      · subst ei
        obtain ⟨⟨c', q⟩, fz⟩ := k.held (.row i) hg j hj
        obtain ⟨q', fz'⟩ := hro j _ q fz
        refine ⟨?_, fz'⟩
        by_cases hjp : j = p
        · subst hjp
          rw [if_pos rfl] at q'
          rw [e1]
          exact ⟨c2, q'⟩
        · rw [if_neg hjp] at q'
          rw [e0 (.dsk i j) (fun e => hjp (by cases e; rfl)) (by intro e; cases e)]
          exact ⟨c', q'⟩
      · rw [e0 (.dsk i j) (fun e => ei (by cases e; rfl)) (by intro e; cases e)]
        exact hkx (.row i) hx (by intro e; cases e) (fun e => ei (by cases e; rfl)) j hj
    | shd i =>
      have hh := hkx (.shd i) hx (by intro e; cases e) (by intro e; cases e)
      show Quads w' (upd (upd A (.page F) (A (.dsk g p))) (.dsk g p) b (.shd i)) 0 (gOf (swapH h g p F) i).shades ∧ Room w' (upd (upd A (.page F) (A (.dsk g p))) (.dsk g p) b (.shd i)) 24
      rw [e0 (.shd i) (by intro e; cases e) (by intro e; cases e)]
      by_cases ei : i = g
      · subst ei; rw [gOf_swap_same hg]; exact hh
      · rw [gOf_swap_ne ei]; exact hh
    | dsk i j =>
      show Ints w' (upd (upd A (.page F) (A (.dsk g p))) (.dsk g p) b (.dsk i j)) 0 ((gOf (swapH h g p F) i).disk.getD j []) ∧ Room w' (upd (upd A (.page F) (A (.dsk g p))) (.dsk g p) b (.dsk i j)) 4
      by_cases ex : (Pl.dsk i j) = .dsk g p
      · cases ex
        rw [e1, gOf_swap_same hg, show (withDs (gOf h g) ((gOf h g).disk.set p [0, 0, 0, 0])).disk.getD p [] = [0, 0, 0, 0] from getD_set_same _ _ _ _ (by omega)]
        exact ⟨hI, hR⟩
      · have hh := hkx (.dsk i j) hx (by intro e; cases e) (by intro e; cases e)
        rw [e0 (.dsk i j) ex (by intro e; cases e)]
        by_cases ei : i = g
        · subst ei
          have hjp : j ≠ p := fun e => ex (by rw [e])
          rw [gOf_swap_same hg, show (withDs (gOf h i) ((gOf h i).disk.set p [0, 0, 0, 0])).disk.getD j [] = (gOf h i).disk.getD j [] from getD_set_ne _ _ _ hjp]
          exact hh
        · rw [gOf_swap_ne ei]; exact hh
end Go.Proofs.Ytjegndgdpmlbaaa
