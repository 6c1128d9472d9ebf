/-
  A host that is drawn, and may be spoilt: what of it all laws want.
-/
import Derived.Test.YtjegndgdpmlbaaaKOSpecPlay0
import Derived.Deep.AppendSrc
import Derived.Deep.MidRow
set_option linter.unusedSimpArgs false
namespace Go.Proofs.Ytjegndgdpmlbaaa
open Go.RowKit
attribute [local go_sem ↓] Go.wp_at_zero Go.wp_at_succ exec_app
attribute [local go_sem] bigNext_ok

/-- A host in memory above a place, of a bounded size; where it is ok, each of its rows is a block of its own. -/
def DrawnAt (W : World) (lo : Nat) (vf vg : Value) (h : Hst) : Prop :=
  HostIn W lo W.heap.size vf vg h ∧ SmallH h ∧ WfGs h.guests.length h.guests ∧ (okHost h = true → ∃ A cf cg, vf = .slice (some ⟨A .fr, 0, none⟩) 8 cf ∧ vg = .slice (some ⟨A .gs, 0, none⟩) h.guests.length cg ∧ SepH W lo A h)
theorem DrawnAt.keep {W W' : World} {lo : Nat} {vf vg : Value} {h : Hst} (d : DrawnAt W lo vf vg h) (hs : W.heap.size ≤ W'.heap.size) (e : ∀ j, lo ≤ j → j < W.heap.size → W'.heap[j]? = W.heap[j]?) : DrawnAt W' lo vf vg h := by
  obtain ⟨a, b, c, f⟩ := d
  refine ⟨(a.same (fun j j1 j2 => e j j1 j2)).wide (Nat.le_refl _) hs, b, c, fun ho => ?_⟩
  obtain ⟨A, cf, cg, e1, e2, k⟩ := f ho
  exact ⟨A, cf, cg, e1, e2, k.keep hs (fun x hx => e _ (k.low x hx).1 (k.low x hx).2)⟩
theorem DrawnAt.lower {W : World} {lo lo' : Nat} {vf vg : Value} {h : Hst} (d : DrawnAt W lo vf vg h) (hl : lo' ≤ lo) : DrawnAt W lo' vf vg h := by
  obtain ⟨a, b, c, f⟩ := d
  refine ⟨a.wide hl (Nat.le_refl _), b, c, fun ho => ?_⟩
  obtain ⟨A, cf, cg, e1, e2, k⟩ := f ho
  exact ⟨A, cf, cg, e1, e2, k.lower hl⟩
theorem DrawnAt.below {W W' : World} {lo : Nat} {vf vg : Value} {h : Hst} (d : DrawnAt W lo vf vg h) (B : Below W.heap.size W W') : DrawnAt W' lo vf vg h := d.keep B.size (fun j _ j2 => B.block j j2)
theorem DrawnAt.adv {rb : Nat} {W W' : World} {lo : Nat} {vf vg : Value} {h : Hst} (d : DrawnAt W lo vf vg h) (ha : Adv rb W W') (hb : rb < lo) : DrawnAt W' lo vf vg h := d.keep ha.size (fun j j1 j2 => ha.block j j2 (by omega))
theorem DrawnAt.ret {W : World} {lo : Nat} {vf vg : Value} {h : Hst} (d : DrawnAt W lo vf vg h) {R : Nat} (hR : R < lo) (x y z : Value) : DrawnAt (((W.setCell ⟨R, 0, none⟩ x).setCell ⟨R, 1, none⟩ y).setCell ⟨R, 2, none⟩ z) lo vf vg h :=
  d.keep (by simp) (fun j j1 _ => by rw [Below.heap_setCell _ _ _ _ (by simp; omega), Below.heap_setCell _ _ _ _ (by simp; omega), Below.heap_setCell _ _ _ _ (by simp; omega)])
theorem SepH.adv {rb N : Nat} {W W' : World} {A : Pl → Nat} {h : Hst} (k : SepH W N A h) (ha : Adv rb W W') (hb : rb < N) : SepH W' N A h :=
  k.keep ha.size (fun x hx => ha.block _ (k.low x hx).2 (by have := (k.low x hx).1; omega))
theorem small_sep {w : World} {N : Nat} {A : Pl → Nat} {h : Hst} (k : SepH w N A h) : SmallH h := by
  refine ⟨by rw [k.f8]; omega, fun i hi => ?_, by have := k.n2; omega, fun i hi => ?_⟩
  · rw [k.f8] at hi
    rw [k.f4 i hi]; omega
  · obtain ⟨a, b, c, d⟩ := k.sz i hi
    refine ⟨by show (gOf h i).maps.length ≤ _; omega, by show (gOf h i).shades.length ≤ _; omega, by show (gOf h i).disk.length ≤ _; omega, fun j hj => ?_⟩
    have : ((gOf h i).disk.getD j []).length = 4 := c j (by rw [← b]; exact hj)
    show ((gOf h i).disk.getD j []).length ≤ _
    omega
theorem drawnAt_sep {W : World} {lo : Nat} {A : Pl → Nat} {h : Hst} {n : Nat} (k : SepH W lo A h) (wf : WfGs h.guests.length h.guests) (hn : h.guests.length = n) (cf cg : Nat) : DrawnAt W lo (.slice (some ⟨A .fr, 0, none⟩) 8 cf) (.slice (some ⟨A .gs, 0, none⟩) n cg) h := by
  subst hn
  exact ⟨k.hostIn cf cg, small_sep k, wf, fun _ => ⟨A, cf, cg, rfl, rfl, k⟩⟩
theorem wfs_setG {h : Hst} {g : Nat} {x : Gst} (wf : WfGs h.guests.length h.guests) (hx : ∀ p, p < 6 → (Lit.int .i64 (x.maps.getD p noM).2.1).wf = true) : WfGs (setG h g x).guests.length (setG h g x).guests := by
  rw [setG_len]
  intro i hi p hp
  by_cases e : i = g
  · subst e
    have e2 : (setG h i x).guests.getD i noG = x := getD_set_same _ _ _ _ hi
    rw [e2]; exact hx p hp
  · have e2 : (setG h g x).guests.getD i noG = h.guests.getD i noG := getD_set_ne _ _ _ e
    rw [e2]; exact wf i hi p hp

/-- Whether a page is in is written alone. -/
theorem SepH.mapI {w : World} {N : Nat} {A : Pl → Nat} {h : Hst} (k : SepH w N A h) {g : Nat} (hg : g < h.guests.length) {i : Nat} (hi : i < 6) (b : Bool) :
    SepH (w.setCell ⟨A (.maps g), i * 3, none⟩ (.bool b)) N A (setM h g i (b, (mAt h g i).2.1, (mAt h g i).2.2)) := by
  obtain ⟨s1, s2, s3, s4⟩ := k.sz g hg
  have hh := k.held (.maps g) hg
  refine k.put (.maps g) hg (setG_len _ _ _) k.f8 k.f4 (fun j hj => ?_) (by simp) (fun j hj => ?_) (fun x hx hne hx2 => ?_) ⟨fun j hj => ?_, ?_⟩
  · unfold setM
    by_cases e : j = g
    · subst e
      rw [gOf_set_same hg]
      exact ⟨by show ((gOf h j).maps.set i _).length = 6; rw [List.length_set]; exact s1, s2, s3, s4⟩
    · rw [gOf_set_ne e]; exact k.sz j hj
  · rw [Below.heap_setCell _ _ _ _ (by simpa using hj)]
  · exact held_setG hg x hx2 (fun e => (hne e).elim) (fun _ => rfl) (fun p _ => rfl)
  · unfold setM at hj ⊢
    rw [gOf_set_same hg] at hj ⊢
    have hj6 : j < 6 := by
      have : j < ((gOf h g).maps.set i (b, (mAt h g i).2.1, (mAt h g i).2.2)).length := hj
      rw [List.length_set, s1] at this
      exact this
    obtain ⟨q0, q1, q2⟩ := hh.1 j (by omega)
    rw [Nat.zero_add, show ((false, 0, false) : E3) = noM from rfl] at q0 q1 q2
    have e : (withMs (gOf h g) ((gOf h g).maps.set i (b, (mAt h g i).2.1, (mAt h g i).2.2))).maps.getD j noM = if j = i then (b, (mAt h g i).2.1, (mAt h g i).2.2) else (gOf h g).maps.getD j noM := getD_set _ _ _ _ _ (by omega)
    rw [show ((false, 0, false) : E3) = noM from rfl, e, Nat.zero_add]
    refine ⟨(cell_put q0).trans ?_, (cell_put q1).trans ?_, (cell_put q2).trans ?_⟩
    · by_cases hji : j = i
      · rw [if_pos (by omega), if_pos hji]
      · rw [if_neg (by omega), if_neg hji]
    · rw [if_neg (by omega)]
      by_cases hji : j = i
      · rw [if_pos hji, hji]; rfl
      · rw [if_neg hji]
    · rw [if_neg (by omega)]
      by_cases hji : j = i
      · rw [if_pos hji, hji]; rfl
      · rw [if_neg hji]
  · exact hh.2.put _
/-- A word on disk is written. -/
theorem SepH.dword {w : World} {N : Nat} {A : Pl → Nat} {h : Hst} (k : SepH w N A h) {g : Nat} (hg : g < h.guests.length) {p : Nat} (hp : p < 6) (o : Nat) (z : Int) :
    SepH (w.setCell ⟨A (.dsk g p), o, none⟩ (.int .i64 z)) N A (setG h g (withDs (gOf h g) ((gOf h g).disk.set p (((gOf h g).disk.getD p []).set o z)))) := by
  obtain ⟨s1, s2, s3, s4⟩ := k.sz g hg
  have hh := k.held (.dsk g p) ⟨hg, hp⟩
  refine k.put (.dsk g p) ⟨hg, hp⟩ (setG_len _ _ _) k.f8 k.f4 (fun j hj => ?_) (by simp) (fun j hj => ?_) (fun x hx hne hx2 => ?_) ⟨?_, ?_⟩
  · by_cases e : j = g
    · subst e
      rw [gOf_set_same hg]
      refine ⟨s1, by show ((gOf h j).disk.set p _).length = 6; rw [List.length_set]; exact s2, fun i hi => ?_, s4⟩
      show (((gOf h j).disk.set p _).getD i []).length = 4
      rw [getD_set _ _ _ _ _ (by omega)]
      by_cases hip : i = p
      · rw [if_pos hip, List.length_set]; exact s3 p hp
      · rw [if_neg hip]; exact s3 i hi
    · rw [gOf_set_ne e]; exact k.sz j hj
  · rw [Below.heap_setCell _ _ _ _ (by simpa using hj)]
  · exact held_setG hg x hx2 (fun _ => rfl) (fun _ => rfl) (fun p' e => by
      have hne' : p' ≠ p := fun e2 => hne (by rw [e, e2])
      exact getD_set_ne _ _ _ hne')
  · show Ints _ (A (.dsk g p)) 0 ((gOf (setG h g (withDs (gOf h g) ((gOf h g).disk.set p (((gOf h g).disk.getD p []).set o z)))) g).disk.getD p [])
    rw [gOf_set_same hg, show (withDs (gOf h g) ((gOf h g).disk.set p (((gOf h g).disk.getD p []).set o z))).disk.getD p [] = ((gOf h g).disk.getD p []).set o z from getD_set_same _ _ _ _ (by omega)]
    have := ints_set (k := o) hh.1 z
    rw [Nat.zero_add] at this
    exact this
  · exact hh.2.put _

/-- Frames cut at their beginning. -/
theorem drawn_cutF {W : World} {lo : Nat} {A : Pl → Nat} {h : Hst} {n : Nat} (k : SepH W lo A h) (wf : WfGs h.guests.length h.guests) (hn : h.guests.length = n) (o c cg : Nat) (ho : o ≤ 1) : ∃ h', h'.hand = h.hand ∧ h'.guests = h.guests ∧ h'.frames.length = 7 ∧ DrawnAt W lo (.slice (some ⟨A .fr, o, none⟩) 7 c) (.slice (some ⟨A .gs, 0, none⟩) n cg) h' := by
  subst hn
  obtain ⟨hF, hG⟩ := k.hostIn 8 cg
  have hl : ((h.frames.drop o).take 7).length = 7 := by rw [List.length_take, List.length_drop, k.f8]; omega
  have hget : ∀ i, i < 7 → ((h.frames.drop o).take 7).getD i [] = h.frames.getD (o + i) [] := fun i hi => by
    simp only [List.getD_eq_getElem?_getD]
    rw [List.getElem?_take_of_lt hi, List.getElem?_drop]
  refine ⟨⟨(h.frames.drop o).take 7, h.guests, h.hand⟩, rfl, rfl, hl, ⟨⟨_, c, by rw [hl], by rw [hl], Or.inr ⟨A .fr, o, rfl, (k.low .fr trivial).1, (k.low .fr trivial).2, fun i hi => ?_⟩⟩, hG⟩, ?_, wf, fun hok => ?_⟩
  · rw [hl] at hi
    obtain ⟨⟨c', q⟩, _⟩ := (k.held .fr trivial) (o + i) (by omega)
    have hp := k.held (.page (o + i)) (show o + i < 8 by omega)
    have hlw := k.low (.page (o + i)) (show o + i < 8 by omega)
    rw [hget i hi]
    exact ⟨_, 4, c', q, k.f4 _ (by omega), Or.inr ⟨A (.page (o + i)), 0, rfl, hlw.1, hlw.2, hp.1⟩⟩
  · obtain ⟨_, _, s3, s4⟩ := small_sep k
    refine ⟨by rw [hl]; omega, fun i hi => ?_, s3, s4⟩
    rw [hl] at hi
    show (((h.frames.drop o).take 7).getD i []).length ≤ _
    rw [hget i hi, k.f4 _ (by omega)]; omega
  · have := (okHost_frames hok).1
    rw [hl] at this
    omega
/-- Shades of a guest cut at their beginning. -/
theorem drawn_cutS {W : World} {lo : Nat} {A : Pl → Nat} {h : Hst} {n : Nat} (k : SepH W lo A h) (wf : WfGs h.guests.length h.guests) (hn : h.guests.length = n) {g : Nat} (hg : g < n) (o c cf cg : Nat) (ho : o = 0 ∨ o = 4) : ∃ h', h'.hand = h.hand ∧ DrawnAt (W.setCell ⟨A .gs, g * 3 + 2, none⟩ (.slice (some ⟨A (.shd g), o, none⟩) 5 c)) lo (.slice (some ⟨A .fr, 0, none⟩) 8 cf) (.slice (some ⟨A .gs, 0, none⟩) n cg) h' := by
  subst hn
  obtain ⟨s1, s2, s3, s4⟩ := k.sz g hg
  have far : ∀ j, j ≠ A .gs → (W.setCell ⟨A .gs, g * 3 + 2, none⟩ (.slice (some ⟨A (.shd g), o, none⟩) 5 c)).heap[j]? = W.heap[j]? := fun j hj => Below.heap_setCell _ _ _ _ (by simpa using hj)
  obtain ⟨m, hm⟩ : ∃ m, o = m * 4 := by rcases ho with h | h <;> exact ⟨o / 4, by omega⟩
  have hl : (((gOf h g).shades.drop m).take 5).length = 5 := by rw [List.length_take, List.length_drop, s4]; omega
  have hget : ∀ i, i < 5 → (((gOf h g).shades.drop m).take 5).getD i noS = (gOf h g).shades.getD (m + i) noS := fun i hi => by
    simp only [List.getD_eq_getElem?_getD]
    rw [List.getElem?_take_of_lt hi, List.getElem?_drop]
  refine ⟨setG h g (withS (gOf h g) (((gOf h g).shades.drop m).take 5)), rfl, ⟨?_, ?_⟩, ?_, ?_, fun hok => ?_⟩
  · refine ⟨_, cf, by rw [show (setG h g (withS (gOf h g) (((gOf h g).shades.drop m).take 5))).frames = h.frames from rfl, k.f8], by rw [show (setG h g (withS (gOf h g) (((gOf h g).shades.drop m).take 5))).frames = h.frames from rfl, k.f8], Or.inr ⟨A .fr, 0, rfl, (k.low .fr trivial).1, by rw [World.size_setCell]; exact (k.low .fr trivial).2, fun i hi => ?_⟩⟩
    rw [show (setG h g (withS (gOf h g) (((gOf h g).shades.drop m).take 5))).frames = h.frames from rfl, k.f8] at hi
    have nF : A .fr ≠ A .gs := fun e => by have := k.inj .fr .gs trivial trivial e; cases this
    have nP : A (.page i) ≠ A .gs := fun e => by have := k.inj (.page i) .gs hi trivial e; cases this
    obtain ⟨⟨c', q⟩, _⟩ := ((k.held .fr trivial).same (far _ nF)) i hi
    have hp := (k.held (.page i) hi).same (far _ nP)
    have hlw := k.low (.page i) hi
    exact ⟨_, 4, c', by simpa using q, k.f4 i hi, Or.inr ⟨A (.page i), 0, rfl, hlw.1, by rw [World.size_setCell]; exact hlw.2, hp.1⟩⟩
  · refine ⟨_, cg, by rw [setG_len], by rw [setG_len], Or.inr ⟨A .gs, 0, rfl, (k.low .gs trivial).1, by rw [World.size_setCell]; exact (k.low .gs trivial).2, fun i hi => ?_⟩⟩
    rw [setG_len] at hi
    obtain ⟨⟨c1, q1⟩, ⟨c2, q2⟩, c3, q3⟩ := (k.held .gs trivial).1 i hi
    have p1 := cell_put (j := g * 3 + 2) (u := .slice (some ⟨A (.shd g), o, none⟩) 5 c) q1
    have p2 := cell_put (j := g * 3 + 2) (u := .slice (some ⟨A (.shd g), o, none⟩) 5 c) q2
    have p3 := cell_put (j := g * 3 + 2) (u := .slice (some ⟨A (.shd g), o, none⟩) 5 c) q3
    rw [if_neg (by omega)] at p1
    rw [if_neg (by omega)] at p2
    obtain ⟨t1, t2, t3, t4⟩ := k.sz i hi
    have nM : A (.maps i) ≠ A .gs := fun e => by have := k.inj (.maps i) .gs hi trivial e; cases this
    have nR : A (.row i) ≠ A .gs := fun e => by have := k.inj (.row i) .gs hi trivial e; cases this
    have nS : A (.shd i) ≠ A .gs := fun e => by have := k.inj (.shd i) .gs hi trivial e; cases this
    have hm1 := (k.held (.maps i) hi).same (far _ nM)
    have hr1 := (k.held (.row i) hi).same (far _ nR)
    have hq1 := (k.held (.shd i) hi).same (far _ nS)
    have lM := k.low (.maps i) hi
    have lR := k.low (.row i) hi
    have lS := k.low (.shd i) hi
    have hdk : IsMem (W.setCell ⟨A .gs, g * 3 + 2, none⟩ (.slice (some ⟨A (.shd g), o, none⟩) 5 c)) lo (W.setCell ⟨A .gs, g * 3 + 2, none⟩ (.slice (some ⟨A (.shd g), o, none⟩) 5 c)).heap.size (some ⟨A (.row i), 0, none⟩) 6 (gOf h i).disk := by
      refine ⟨t2, Or.inr ⟨A (.row i), 0, rfl, lR.1, by rw [World.size_setCell]; exact lR.2, fun j hj => ?_⟩⟩
      have hj6 : j < 6 := hj
      have nD : A (.dsk i j) ≠ A .gs := fun e => by have := k.inj (.dsk i j) .gs ⟨hi, hj6⟩ trivial e; cases this
      obtain ⟨⟨c', q⟩, _⟩ := hr1 j hj6
      have hd := (k.held (.dsk i j) ⟨hi, hj6⟩).same (far _ nD)
      have hld := k.low (.dsk i j) ⟨hi, hj6⟩
      exact ⟨_, 4, c', by simpa using q, t3 j hj6, Or.inr ⟨A (.dsk i j), 0, rfl, hld.1, by rw [World.size_setCell]; exact hld.2, hd.1⟩⟩
    by_cases hig : i = g
    · subst hig
      rw [if_pos rfl] at p3
      have e2 : (setG h i (withS (gOf h i) (((gOf h i).shades.drop m).take 5))).guests.getD i noG = withS (gOf h i) (((gOf h i).shades.drop m).take 5) := getD_set_same _ _ _ _ hi
      rw [e2]
      refine ⟨_, _, _, by simpa using p1, by simpa using p2, by simpa using p3, ⟨_, c1, by rw [show (withS (gOf h i) (((gOf h i).shades.drop m).take 5)).maps = (gOf h i).maps from rfl, t1], by rw [show (withS (gOf h i) (((gOf h i).shades.drop m).take 5)).maps = (gOf h i).maps from rfl, t1], Or.inr ⟨A (.maps i), 0, rfl, lM.1, by rw [World.size_setCell]; exact lM.2, hm1.1⟩⟩, ⟨_, c2, by rw [show (withS (gOf h i) (((gOf h i).shades.drop m).take 5)).disk = (gOf h i).disk from rfl, t2], by rw [show (withS (gOf h i) (((gOf h i).shades.drop m).take 5)).disk = (gOf h i).disk from rfl, t2]; exact hdk⟩, _, c, by rw [show (withS (gOf h i) (((gOf h i).shades.drop m).take 5)).shades = ((gOf h i).shades.drop m).take 5 from rfl, hl], by rw [show (withS (gOf h i) (((gOf h i).shades.drop m).take 5)).shades = ((gOf h i).shades.drop m).take 5 from rfl, hl], Or.inr ⟨A (.shd i), o, rfl, lS.1, by rw [World.size_setCell]; exact lS.2, fun j hj => ?_⟩⟩
      have hj : j < 5 := by rw [← hl]; exact hj
      obtain ⟨r0, r1, r2, r3⟩ := hq1.1 (m + j) (by rw [s4]; omega)
      rw [show (withS (gOf h i) (((gOf h i).shades.drop m).take 5)).shades.getD j noS = (gOf h i).shades.getD (m + j) noS from hget j hj]
      rw [Nat.zero_add] at r0 r1 r2 r3
      rw [show o + j * 4 = (m + j) * 4 by omega]
      exact ⟨r0, r1, r2, r3⟩
    · rw [if_neg (by omega)] at p3
      have e2 : (setG h g (withS (gOf h g) (((gOf h g).shades.drop m).take 5))).guests.getD i noG = gOf h i := getD_set_ne _ _ _ hig
      rw [e2]
      exact ⟨_, _, _, by simpa using p1, by simpa using p2, by simpa using p3, ⟨_, c1, by rw [t1], by rw [t1], Or.inr ⟨A (.maps i), 0, rfl, lM.1, by rw [World.size_setCell]; exact lM.2, hm1.1⟩⟩, ⟨_, c2, by rw [t2], by rw [t2]; exact hdk⟩, _, c3, by rw [t4], by rw [t4], Or.inr ⟨A (.shd i), 0, rfl, lS.1, by rw [World.size_setCell]; exact lS.2, hq1.1⟩⟩
  · obtain ⟨a, b, c, d⟩ := small_sep k
    refine ⟨a, b, by rw [setG_len]; exact c, fun i hi => ?_⟩
    rw [setG_len] at hi
    by_cases hig : i = g
    · subst hig
      have e2 : (setG h i (withS (gOf h i) (((gOf h i).shades.drop m).take 5))).guests.getD i noG = withS (gOf h i) (((gOf h i).shades.drop m).take 5) := getD_set_same _ _ _ _ hi
      rw [e2]
      obtain ⟨u1, u2, u3, u4⟩ := d i hi
      exact ⟨u1, by show (((gOf h i).shades.drop m).take 5).length ≤ _; rw [hl]; omega, u3, u4⟩
    · have e2 : (setG h g (withS (gOf h g) (((gOf h g).shades.drop m).take 5))).guests.getD i noG = h.guests.getD i noG := getD_set_ne _ _ _ hig
      rw [e2]; exact d i hi
  · exact wfs_setG wf (fun p hp => wf g hg p hp)
  · have := (okHost_guest hok (G := g) (by rw [setG_len]; exact hg)).1.2.2.2
    have e2 : (setG h g (withS (gOf h g) (((gOf h g).shades.drop m).take 5))).guests.getD g noG = withS (gOf h g) (((gOf h g).shades.drop m).take 5) := getD_set_same _ _ _ _ hg
    rw [e2] at this
    have : (((gOf h g).shades.drop m).take 5).length = 6 := this
    rw [hl] at this
    omega
end Go.Proofs.Ytjegndgdpmlbaaa

/-
  Guests of a host appended to its own: in the room of its row, or in a row of their own.
-/
set_option linter.unusedSimpArgs false
namespace Go.Proofs.Ytjegndgdpmlbaaa
open Go.RowKit

/-- The cells of the row of guests. -/
theorem guest_vals {W : World} {lo : Nat} {A : Pl → Nat} {h : Hst} (k : SepH W lo A h) : ∃ vs : List Value, vs.length = h.guests.length * 3 ∧ (∀ u ∈ vs, u.oneCell' = true) ∧ ∀ i, i < h.guests.length * 3 → ∃ u, vs[i]? = some u ∧ W.cell? ⟨A .gs, i, none⟩ = some u := by
  have each : ∀ i, i < h.guests.length * 3 → ∃ u : Value, W.cell? ⟨A .gs, i, none⟩ = some u ∧ u.oneCell' = true := fun i hi => by
    obtain ⟨⟨c1, q1⟩, ⟨c2, q2⟩, c3, q3⟩ := (k.held .gs trivial).1 (i / 3) (by omega)
    rcases (by omega : i % 3 = 0 ∨ i % 3 = 1 ∨ i % 3 = 2) with e | e | e
    · rw [show i / 3 * 3 = i by omega] at q1; exact ⟨_, q1, rfl⟩
    · rw [show i / 3 * 3 + 1 = i by omega] at q2; exact ⟨_, q2, rfl⟩
    · rw [show i / 3 * 3 + 2 = i by omega] at q3; exact ⟨_, q3, rfl⟩
  obtain ⟨f, hf⟩ := Go.Deep.choose_lt (α := Value) each
  refine ⟨(List.range (h.guests.length * 3)).map f, by simp, fun u hu => ?_, fun i hi => ⟨f i, by simp [hi], (hf i hi).1⟩⟩
  obtain ⟨i, hi, rfl⟩ := List.mem_map.1 hu
  exact (hf i (List.mem_range.1 hi)).2
theorem app_cells (lo T n c b : Nat) (W : World) (v1 v2 : List Value) (hn : n ≤ 2) (hnc : n ≤ c) (hT1 : lo ≤ T) (hT2 : T < W.heap.size) (l1 : v1.length = n * 3) (l2 : v2.length = 6) (one2 : ∀ u ∈ v2, u.oneCell' = true) (hv1 : ∀ i, i < n * 3 → ∃ u, v1[i]? = some u ∧ W.cell? ⟨T, i, none⟩ = some u) (hv2 : ∀ i u, v2[i]? = some u → W.cell? ((⟨b, 0, none⟩ : Addr).add i) = some u) (hR : Room W T (c * 3)) :
    ∃ T' c' w', appRun Try.prog 24 24 (.slice (some ⟨T, 0, none⟩) n c) (.slice (some ⟨b, 0, none⟩) 2 2) W = .ok (.slice (some ⟨T', 0, none⟩) (n + 2) c') w' ∧ (lo ≤ T' ∧ (T' = T ∨ T' = W.heap.size)) ∧ T' < w'.heap.size ∧ Below lo W w' ∧ (∀ k, k < W.heap.size → k ≠ T → w'.heap[k]? = W.heap[k]?) ∧ (∀ i, i < n * 3 → w'.cell? ⟨T, i, none⟩ = W.cell? ⟨T, i, none⟩) ∧ ∀ i, i < n * 3 + 6 → w'.cell? ⟨T', i, none⟩ = (v1 ++ v2)[i]? := by
  obtain ⟨i1, hi1, hy0, hy1, hy2⟩ := info_parts infoG
  have hlo : lo ≤ W.heap.size := by omega
  have ad : ∀ b j, (⟨b, 0, none⟩ : Addr).add j = ⟨b, j, none⟩ := fun b j => by by_cases h : j = 0 <;> simp [Addr.add, h]
  have hn1 : ∀ j u, v1[j]? = some u → W.cell? ((⟨T, 0, none⟩ : Addr).add j) = some u := fun j u hj => by
    have hjn : j < n * 3 := by rw [← l1]; exact (List.getElem?_eq_some_iff.1 hj).1
    obtain ⟨u', e1, e2⟩ := hv1 j hjn
    rw [hj] at e1
    cases e1
    rw [ad]; exact e2
  by_cases hroom : n + 2 ≤ c
  · have hr := run_append_room_src (P := Try.prog) W 24 24 24 39 i1 Try.underlying24 hi1 T 0 n c (.slice (some ⟨b, 0, none⟩) 2 2) 2 v2 (Src.ofSlice W Try.underlying24 ⟨b, 0, none⟩ 2 2 v2 (by rw [hy1, l2]) hv2 one2) hroom
      (fun j hj => by
        obtain ⟨⟨v, hv⟩, _⟩ := hR (0 + n * i1.size + j) (by rw [hy1]; omega)
        rw [hv]; rfl)
      (fun j hj => (hR (0 + n * i1.size + j) (by rw [hy1]; omega)).2)
    rw [hy1, Nat.zero_add] at hr
    refine ⟨T, c, W.setCells T (n * 3) v2, hr, ⟨hT1, Or.inl rfl⟩, by rw [size_setCells]; omega, below_setCells (Below.refl _ _) hT1 v2 _, fun k _ hk => heap_setCells T v2 _ W k hk, fun i hi => World.cell?_setCells_out T v2 (n * 3) W ⟨T, i, none⟩ (fun _ _ => Or.inl (by show i < n * 3; omega)), fun i hi => ?_⟩
    by_cases hin : i < n * 3
    · rw [World.cell?_setCells_out T v2 (n * 3) W ⟨T, i, none⟩ (fun _ _ => Or.inl (by show i < n * 3; omega)), List.getElem?_append_left (by omega)]
      obtain ⟨u, e1, e2⟩ := hv1 i hin
      rw [e1, e2]
    · have := World.cell?_setCells_in T v2 (n * 3) W (fun j hj => by
        obtain ⟨⟨v, hv⟩, _⟩ := hR (n * 3 + j) (by omega)
        rw [hv]; rfl) (i - n * 3) (by omega)
      rw [show n * 3 + (i - n * 3) = i by omega] at this
      rw [this, List.getElem?_append_right (by omega), l1, List.getElem?_eq_getElem (by omega)]
  · have hfit := growslice_fits (need := n + 2) (old := c) (bytes := 72) (by omega) (by omega)
    have hr := run_append_grow (P := Try.prog) W 24 24 39 i1 (.agg #[.slice none 0 0, .slice none 0 0, .slice none 0 0]) Try.underlying24 hi1 hy0 ⟨T, 0, none⟩ n c v1 (by rw [hy1, l1]) hn1 ⟨b, 0, none⟩ 2 2 v2 (by rw [hy1, l2]) hv2 (by omega) (by omega) (by rw [hy2]; omega)
    refine ⟨_, _, _, hr, ⟨hlo, Or.inr rfl⟩, by rw [World.size_alloc, World.size_drew]; omega, ((Below.refl lo W).drew).alloc (by simpa using hlo) _, fun k hk _ => (((Below.refl W.heap.size W).drew).alloc (by simp) _).block k hk, fun i _ => (((Below.refl W.heap.size W).drew).alloc (by simp) _).cell (p := ⟨T, i, none⟩) hT2, fun i hi => ?_⟩
    show (W.drew.alloc (.cells _ 39)).cell? ⟨W.drew.heap.size, i, none⟩ = _
    rw [cell_of_row _ _ _ _ _ _ (heap_alloc_new W.drew _)]
    rw [Array.getElem?_append_left (by simp; omega), ← Array.getElem?_toList]
    simp
/-- The host behind it. -/
theorem drawn_twice {W : World} {lo : Nat} {A : Pl → Nat} {h : Hst} {n cg : Nat} (k : SepH W lo A h) (wf : WfGs h.guests.length h.guests) (hn : h.guests.length = n) (h1 : 1 ≤ n) (hsp : Spare A n cg) {vm vd vs : Value} (c0 : W.cell? ⟨A .gs, 0, none⟩ = some vm) (c1 : W.cell? ⟨A .gs, 1, none⟩ = some vd) (c2 : W.cell? ⟨A .gs, 2, none⟩ = some vs) (cf : Nat) {X : Nat} (hXl : X < W.heap.size) (hAX : ∀ x, x.ok n → A x ≠ X) :
    ∃ T c w', appRun Try.prog 24 24 (.slice (some ⟨A .gs, 0, none⟩) n cg) (.slice (some ⟨W.heap.size, 0, none⟩) 2 2) (W.alloc (.cells #[vm, vd, vs, vm, vd, vs] 39)) = .ok (.slice (some ⟨T, 0, none⟩) (n + 2) c) w' ∧ Below lo W w' ∧ (∀ k, k < W.heap.size → k ≠ A .gs → w'.heap[k]? = W.heap[k]?) ∧ (w'.cell? ⟨A .gs, 0, none⟩ = some vm ∧ w'.cell? ⟨A .gs, 1, none⟩ = some vd ∧ w'.cell? ⟨A .gs, 2, none⟩ = some vs) ∧ ∀ w'' : World, w'.heap.size ≤ w''.heap.size → (∀ j, j ≠ X → w''.heap[j]? = w'.heap[j]?) → ∃ h', h'.hand = h.hand ∧ DrawnAt w'' lo (.slice (some ⟨A .fr, 0, none⟩) 8 cf) (.slice (some ⟨T, 0, none⟩) (n + 2) c) h' := by
  subst hn
  have hn2 := k.n2
  have lG := k.low .gs trivial
  obtain ⟨B0, hB0⟩ : ∃ B, B = W.alloc (.cells #[vm, vd, vs, vm, vd, vs] 39) := ⟨_, rfl⟩
  have BB : Below W.heap.size W B0 := by rw [hB0]; exact (Below.refl _ _).alloc (Nat.le_refl _) _
  have sB : B0.heap.size = W.heap.size + 1 := by rw [hB0]; simp
  have kB := k.belowK BB
  obtain ⟨v1, l1, one1, hv1⟩ := guest_vals kB
  have get : ∀ i u, W.cell? ⟨A .gs, i, none⟩ = some u → i < h.guests.length * 3 → v1[i]? = some u := fun i u hu hi => by
    obtain ⟨u', e1, e2⟩ := hv1 i hi
    rw [(BB.cell (p := ⟨A .gs, i, none⟩) lG.2).trans hu] at e2
    rw [e1, e2]
  have g0 := get 0 _ c0 (by omega)
  have g1 := get 1 _ c1 (by omega)
  have g2 := get 2 _ c2 (by omega)
  have one : ∀ (i : Nat) (u : Value), v1[i]? = some u → u.oneCell' = true := fun i u hu => one1 u (List.mem_of_getElem? hu)
  have hR : Room B0 (A .gs) (cg * 3) := by
    have := (kB.held .gs trivial).2
    rw [hsp.2] at this
    have hh := hsp.1
    rwa [show h.guests.length * 3 + (cg - h.guests.length) * 3 = cg * 3 by omega] at this
  obtain ⟨T, c, w', hr, ⟨t1, tT⟩, t2, t3, t4, t6, t5⟩ := app_cells lo (A .gs) h.guests.length cg W.heap.size B0 v1 [vm, vd, vs, vm, vd, vs] hn2 hsp.1 lG.1 (by omega) l1 rfl
    (fun u hu => by
      simp only [List.mem_cons, List.not_mem_nil, or_false] at hu
      rcases hu with rfl | rfl | rfl | rfl | rfl | rfl
      · exact one 0 _ g0
      · exact one 1 _ g1
      · exact one 2 _ g2
      · exact one 0 _ g0
      · exact one 1 _ g1
      · exact one 2 _ g2) hv1 (fun i u hu => by rw [hB0]; exact World.news_of_block (fr := (0, 0)) (by show (W.heap.push _)[W.heap.size]? = _; exact Array.getElem?_push_size) i u hu) hR
  rw [← hB0]
  have sw := t3.size
  refine ⟨T, c, w', hr, (BB.mono (by omega)).trans t3, fun j hj hne => (t4 j (by omega) hne).trans (BB.block j hj), ⟨(t6 0 (by omega)).trans ((BB.cell (p := ⟨A .gs, 0, none⟩) lG.2).trans c0), (t6 1 (by omega)).trans ((BB.cell (p := ⟨A .gs, 1, none⟩) lG.2).trans c1), (t6 2 (by omega)).trans ((BB.cell (p := ⟨A .gs, 2, none⟩) lG.2).trans c2)⟩, fun w'' hs'' e'' => ?_⟩
  have hTX : T ≠ X := by
    rcases tT with e | e
    · rw [e]; exact hAX .gs trivial
    · omega
  have keep : ∀ j, j < W.heap.size → j ≠ A .gs → j ≠ X → w''.heap[j]? = W.heap[j]? := fun j hj hne hx => (e'' j hx).trans ((t4 j (by omega) hne).trans (BB.block j hj))
  have t5 : ∀ i, i < h.guests.length * 3 + 6 → w''.cell? ⟨T, i, none⟩ = (v1 ++ [vm, vd, vs, vm, vd, vs])[i]? := fun i hi => (World.cell?_of_block (a := ⟨T, i, none⟩) (e'' T hTX)).trans (t5 i hi)
  refine ⟨⟨h.frames, h.guests ++ [gOf h 0, gOf h 0], h.hand⟩, rfl, ?_, ?_, ?_, fun hok => ?_⟩
  · obtain ⟨⟨aF, cF, eF, hF⟩, _⟩ := k.hostIn cf cg
    have hlen : (h.guests ++ [gOf h 0, gOf h 0]).length = h.guests.length + 2 := by simp
    refine ⟨⟨aF, cF, eF, ?_⟩, _, c, by rw [hlen], by rw [hlen], Or.inr ⟨T, 0, rfl, t1, by omega, fun i hi => ?_⟩⟩
    · rw [k.f8] at eF hF ⊢
      refine ⟨k.f8, Or.inr ⟨A .fr, 0, by cases eF; rfl, (k.low .fr trivial).1, by have := (k.low .fr trivial).2; omega, fun i hi => ?_⟩⟩
      have nF : A .fr ≠ A .gs := fun e => by have := k.inj .fr .gs trivial trivial e; cases this
      have nP : A (.page i) ≠ A .gs := fun e => by have := k.inj (.page i) .gs hi trivial e; cases this
      have lF := (k.low .fr trivial).2
      have hlw := k.low (.page i) hi
      obtain ⟨⟨c', q⟩, _⟩ := ((k.held .fr trivial).same (keep _ lF nF (hAX .fr trivial))) i hi
      have hp := (k.held (.page i) hi).same (keep _ hlw.2 nP (hAX (.page i) hi))
      exact ⟨_, 4, c', by simpa using q, k.f4 i hi, Or.inr ⟨A (.page i), 0, rfl, hlw.1, by omega, hp.1⟩⟩
    · have hi : i < h.guests.length + 2 := by rw [← hlen]; exact hi
      obtain ⟨j, hj, e3⟩ : ∃ j, j < h.guests.length ∧ (h.guests ++ [gOf h 0, gOf h 0]).getD i noG = gOf h j ∧ (∀ r, r < 3 → (v1 ++ [vm, vd, vs, vm, vd, vs])[i * 3 + r]? = v1[j * 3 + r]?) := by
        by_cases hin : i < h.guests.length
        · exact ⟨i, hin, by simp only [List.getD_eq_getElem?_getD, gOf]; rw [List.getElem?_append_left hin], fun r hr => List.getElem?_append_left (by omega)⟩
        · refine ⟨0, by omega, ?_, fun r hr => ?_⟩
          · simp only [List.getD_eq_getElem?_getD]
            rw [List.getElem?_append_right (by omega)]
            rcases (by omega : i - h.guests.length = 0 ∨ i - h.guests.length = 1) with e | e <;> rw [e] <;> rfl
          · rw [List.getElem?_append_right (by omega), l1]
            rcases (by omega : i - h.guests.length = 0 ∨ i - h.guests.length = 1) with e | e <;> rcases (by omega : r = 0 ∨ r = 1 ∨ r = 2) with e2 | e2 | e2 <;> subst e2
            · rw [show i * 3 + 0 - h.guests.length * 3 = 0 by omega, Nat.zero_mul, Nat.zero_add, g0]; rfl
            · rw [show i * 3 + 1 - h.guests.length * 3 = 1 by omega, Nat.zero_mul, Nat.zero_add, g1]; rfl
            · rw [show i * 3 + 2 - h.guests.length * 3 = 2 by omega, Nat.zero_mul, Nat.zero_add, g2]; rfl
            · rw [show i * 3 + 0 - h.guests.length * 3 = 3 by omega, Nat.zero_mul, Nat.zero_add, g0]; rfl
            · rw [show i * 3 + 1 - h.guests.length * 3 = 4 by omega, Nat.zero_mul, Nat.zero_add, g1]; rfl
            · rw [show i * 3 + 2 - h.guests.length * 3 = 5 by omega, Nat.zero_mul, Nat.zero_add, g2]; rfl
      obtain ⟨e3, e4⟩ := e3
      rw [show (⟨h.frames, h.guests ++ [gOf h 0, gOf h 0], h.hand⟩ : Hst).guests.getD i noG = gOf h j from e3]
      obtain ⟨⟨x1, q1⟩, ⟨x2, q2⟩, x3, q3⟩ := (k.held .gs trivial).1 j hj
      have p1 := (t5 (i * 3) (by omega)).trans ((e4 0 (by omega)).trans (get (j * 3) _ q1 (by omega)))
      have p2 := (t5 (i * 3 + 1) (by omega)).trans ((e4 1 (by omega)).trans (get (j * 3 + 1) _ q2 (by omega)))
      have p3 := (t5 (i * 3 + 2) (by omega)).trans ((e4 2 (by omega)).trans (get (j * 3 + 2) _ q3 (by omega)))
      obtain ⟨s1, s2, s3, s4⟩ := k.sz j hj
      have nM : A (.maps j) ≠ A .gs := fun e => by have := k.inj (.maps j) .gs hj trivial e; cases this
      have nR : A (.row j) ≠ A .gs := fun e => by have := k.inj (.row j) .gs hj trivial e; cases this
      have nS : A (.shd j) ≠ A .gs := fun e => by have := k.inj (.shd j) .gs hj trivial e; cases this
      have lM := k.low (.maps j) hj
      have lR := k.low (.row j) hj
      have lS := k.low (.shd j) hj
      have hm1 := (k.held (.maps j) hj).same (keep _ lM.2 nM (hAX (.maps j) hj))
      have hr1 := (k.held (.row j) hj).same (keep _ lR.2 nR (hAX (.row j) hj))
      have hq1 := (k.held (.shd j) hj).same (keep _ lS.2 nS (hAX (.shd j) hj))
      refine ⟨_, _, _, by simpa using p1, by simpa using p2, by simpa using p3, ⟨_, x1, by rw [s1], by rw [s1], Or.inr ⟨A (.maps j), 0, rfl, lM.1, by omega, hm1.1⟩⟩, ⟨_, x2, by rw [s2], by rw [s2], Or.inr ⟨A (.row j), 0, rfl, lR.1, by omega, fun p hp => ?_⟩⟩, _, x3, by rw [s4], by rw [s4], Or.inr ⟨A (.shd j), 0, rfl, lS.1, by omega, hq1.1⟩⟩
      rw [s2] at hp
      have nD : A (.dsk j p) ≠ A .gs := fun e => by have := k.inj (.dsk j p) .gs ⟨hj, hp⟩ trivial e; cases this
      have hld := k.low (.dsk j p) ⟨hj, hp⟩
      obtain ⟨⟨c', q⟩, _⟩ := hr1 p hp
      have hd := (k.held (.dsk j p) ⟨hj, hp⟩).same (keep _ hld.2 nD (hAX (.dsk j p) ⟨hj, hp⟩))
      exact ⟨_, 4, c', by simpa using q, s3 p hp, Or.inr ⟨A (.dsk j p), 0, rfl, hld.1, by omega, hd.1⟩⟩
  · obtain ⟨a, b, _, d⟩ := small_sep k
    refine ⟨a, b, by simp; omega, fun i hi => ?_⟩
    have hi' : i < h.guests.length + 2 := by simpa using hi
    by_cases hin : i < h.guests.length
    · show SmallG ((h.guests ++ [gOf h 0, gOf h 0]).getD i noG)
      rw [show (h.guests ++ [gOf h 0, gOf h 0]).getD i noG = h.guests.getD i noG by simp only [List.getD_eq_getElem?_getD]; rw [List.getElem?_append_left hin]]
      exact d i hin
    · have e : (h.guests ++ [gOf h 0, gOf h 0]).getD i noG = h.guests.getD 0 noG := by
        simp only [List.getD_eq_getElem?_getD]
        rw [List.getElem?_append_right (by omega)]
        rcases (by omega : i - h.guests.length = 0 ∨ i - h.guests.length = 1) with e | e <;> rw [e] <;> rfl
      show SmallG ((h.guests ++ [gOf h 0, gOf h 0]).getD i noG)
      rw [e]; exact d 0 (by omega)
  · intro i hi p hp
    have hi' : i < h.guests.length + 2 := by simpa using hi
    by_cases hin : i < h.guests.length
    · rw [show (h.guests ++ [gOf h 0, gOf h 0]).getD i noG = h.guests.getD i noG by simp only [List.getD_eq_getElem?_getD]; rw [List.getElem?_append_left hin]]
      exact wf i hin p hp
    · have e : (h.guests ++ [gOf h 0, gOf h 0]).getD i noG = h.guests.getD 0 noG := by
        simp only [List.getD_eq_getElem?_getD]
        rw [List.getElem?_append_right (by omega)]
        rcases (by omega : i - h.guests.length = 0 ∨ i - h.guests.length = 1) with e | e <;> rw [e] <;> rfl
      rw [e]; exact wf 0 (by omega) p hp
  · have := (okHost_frames hok).2.2.2.1
    have hl : (h.guests ++ [gOf h 0, gOf h 0]).length = h.guests.length + 2 := by simp
    have : (h.guests ++ [gOf h 0, gOf h 0]).length ≤ 2 := this
    omega
end Go.Proofs.Ytjegndgdpmlbaaa
