/-
  What the given l13Forget does.
-/
import Derived.Test.YtdamdjhnhkmncaaKS
import Derived.Test.YtdamdjhnhkmncaaKSpecForget0
import Derived.Deep.RegionHeld3
set_option linter.unusedSimpArgs false
namespace Go.Proofs.Ytdamdjhnhkmncaa
open Go.RowKit
attribute [local go_sem ↓] Go.wp_at_zero Go.wp_at_succ exec_app
attribute [local go_sem] bigNext_ok

end Go.Proofs.Ytdamdjhnhkmncaa

/-
  What the given l13Out and PageOut do.
-/
set_option linter.unusedSimpArgs false
namespace Go.Proofs.Ytdamdjhnhkmncaa
open Go.RowKit
attribute [local go_sem ↓] Go.wp_at_zero Go.wp_at_succ exec_app
attribute [local go_sem] bigNext_ok

def withMs (x : Gst) (ms : List E3) : Gst := ⟨ms, x.disk, x.shades⟩
def withDs (x : Gst) (ds : List (List Int)) : Gst := ⟨x.maps, ds, x.shades⟩
/-- One map of a guest written. -/
theorem SepH.map {w : World} {N : Nat} {A : Pl → Nat} {h : Hst} (k : SepH w N A h) {g : Nat} (hg : g < h.guests.length) {i : Nat} (hi : i < 6) (s : E3) :
    SepH (((w.setCell ⟨A (.maps g), i * 3, none⟩ (.bool s.1)).setCell ⟨A (.maps g), i * 3 + 1, none⟩ (.int .i64 s.2.1)).setCell ⟨A (.maps g), i * 3 + 2, none⟩ (.bool s.2.2)) N A (setG h g (withMs (gOf h g) ((gOf h g).maps.set i s))) := by
  obtain ⟨s1, s2, s3, s4⟩ := k.sz g hg
  have hh := k.held (.maps g) hg
  refine k.put (.maps g) hg (setG_len _ _ _) k.f8 k.f4 (fun j hj => ?_) (by simp) (fun j hj => ?_) (fun x hx hne hx2 => ?_) ⟨fun j hj => ?_, ?_⟩
  · by_cases e : j = g
    · subst e
      rw [gOf_set_same hg]
      exact ⟨by show ((gOf h j).maps.set i s).length = 6; rw [List.length_set]; exact s1, s2, s3, s4⟩
    · rw [gOf_set_ne e]; exact k.sz j hj
  · rw [Below.heap_setCell _ _ _ _ (by simpa using hj), Below.heap_setCell _ _ _ _ (by simpa using hj), Below.heap_setCell _ _ _ _ (by simpa using hj)]
  · exact held_setG hg x hx2 (fun e => (hne e).elim) (fun _ => rfl) (fun p _ => rfl)
  · rw [gOf_set_same hg] at hj ⊢
    have hj6 : j < 6 := by
      have : j < ((gOf h g).maps.set i s).length := hj
      rw [List.length_set, s1] at this
      exact this
    obtain ⟨q0, q1, q2⟩ := hh.1 j (by omega)
    rw [Nat.zero_add] at q0 q1 q2
    have e : (withMs (gOf h g) ((gOf h g).maps.set i s)).maps.getD j noM = if j = i then s else (gOf h g).maps.getD j noM := getD_set _ _ _ _ _ (by omega)
    rw [show ((false, 0, false) : E3) = noM from rfl, e, Nat.zero_add]
    refine ⟨(cell_put (cell_put (cell_put q0))).trans ?_, (cell_put (cell_put (cell_put q1))).trans ?_, (cell_put (cell_put (cell_put q2))).trans ?_⟩
    · rw [if_neg (by omega), if_neg (by omega)]
      by_cases hji : j = i
      · rw [if_pos (by omega), if_pos hji]
      · rw [if_neg (by omega), if_neg hji]; rfl
    · rw [if_neg (by omega)]
      by_cases hji : j = i
      · rw [if_pos (by omega), if_pos hji]
      · rw [if_neg (by omega), if_neg (by omega), if_neg hji]; rfl
    · by_cases hji : j = i
      · rw [if_pos (by omega), if_pos hji]
      · rw [if_neg (by omega), if_neg (by omega), if_neg (by omega), if_neg hji]; rfl
  · exact ((hh.2.put _).put _).put _

/-- Places, one of them elsewhere. -/
def upd (A : Pl → Nat) (x0 : Pl) (b : Nat) : Pl → Nat := fun x => @ite Nat (x = x0) (plEq x x0) b (A x)
theorem upd_same (A : Pl → Nat) (x0 : Pl) (b : Nat) : upd A x0 b x0 = b := if_pos rfl
theorem upd_ne (A : Pl → Nat) {x0 x : Pl} (b : Nat) (h : x ≠ x0) : upd A x0 b x = A x := if_neg h
/-- A page on disk is another one, in a block of its own. -/
theorem SepH.disk {w : World} {N : Nat} {A : Pl → Nat} {h : Hst} (k : SepH w N A h) {g : Nat} (hg : g < h.guests.length) {p : Nat} (hp : p < 6) {b c : Nat} {zs : List Int} (hz : zs.length = 4) (hb : N ≤ b ∧ b < w.heap.size) (hfree : ∀ x, x.ok h.guests.length → A x ≠ b) (hI : Ints w b 0 zs) (hR : Room w b 4) :
    SepH (w.setCell ⟨A (.row g), p, none⟩ (.slice (some ⟨b, 0, none⟩) 4 c)) N (upd A (.dsk g p) b) (setG h g (withDs (gOf h g) ((gOf h g).disk.set p zs))) := by
  obtain ⟨s1, s2, s3, s4⟩ := k.sz g hg
  have hr := k.held (.row g) hg
  have hbr : A (.row g) ≠ b := hfree (.row g) hg
  have far : ∀ j, j ≠ A (.row g) → (w.setCell ⟨A (.row g), p, none⟩ (.slice (some ⟨b, 0, none⟩) 4 c)).heap[j]? = w.heap[j]? := fun j hj => Below.heap_setCell _ _ _ _ (by simpa using hj)
  have hlen := setG_len h g (withDs (gOf h g) ((gOf h g).disk.set p zs))
  refine ⟨by rw [hlen]; exact k.n2, k.f8, k.f4, fun j hj => ?_, fun x y hx hy e => ?_, fun x hx => ?_, fun x hx => ?_⟩
  · rw [hlen] at hj
    by_cases e : j = g
    · subst e
      rw [gOf_set_same hg]
      refine ⟨s1, by show ((gOf h j).disk.set p zs).length = 6; rw [List.length_set]; exact s2, fun i hi => ?_, s4⟩
      show (((gOf h j).disk.set p zs).getD i []).length = 4
      rw [getD_set _ _ _ _ _ (by omega)]
      by_cases hip : i = p
      · rw [if_pos hip]; exact hz
      · rw [if_neg hip]; exact s3 i hi
    · rw [gOf_set_ne e]; exact k.sz j hj
  · rw [hlen] at hx hy
    by_cases ex : x = .dsk g p
    · by_cases ey : y = .dsk g p
      · rw [ex, ey]
      · rw [ex, upd_same, upd_ne _ _ ey] at e
        exact (hfree y hy e.symm).elim
    · by_cases ey : y = .dsk g p
      · rw [ey, upd_same, upd_ne _ _ ex] at e
        exact (hfree x hx e).elim
      · rw [upd_ne _ _ ex, upd_ne _ _ ey] at e
        exact k.inj x y hx hy e
  · rw [hlen] at hx
    rw [World.size_setCell]
    by_cases ex : x = .dsk g p
    · rw [ex, upd_same]; exact hb
    · rw [upd_ne _ _ ex]; exact k.low x hx
  · rw [hlen] at hx
    by_cases ex : x = .dsk g p
    · subst ex
      show Ints _ (upd A (.dsk g p) b (.dsk g p)) 0 ((gOf (setG h g (withDs (gOf h g) ((gOf h g).disk.set p zs))) g).disk.getD p []) ∧ Room _ (upd A (.dsk g p) b (.dsk g p)) 4
      rw [upd_same, gOf_set_same hg, show (withDs (gOf h g) ((gOf h g).disk.set p zs)).disk.getD p [] = zs from getD_set_same _ _ _ _ (by omega)]
      have s := same_block (far b (Ne.symm hbr))
      exact ⟨hI.same s (Nat.le_refl _) (Nat.lt_succ_self _), hR.same s (Nat.le_refl _) (Nat.lt_succ_self _)⟩
    · by_cases er : x = .row g
      · subst er
        intro i hi
        rw [upd_ne _ _ (by intro e; cases e)]
        obtain ⟨⟨c', q⟩, f⟩ := hr i hi
        refine ⟨?_, by rw [frozen_put]; exact f⟩
        have q' := cell_put (j := p) (u := .slice (some ⟨b, 0, none⟩) 4 c) q
        by_cases hip : i = p
        · subst hip
          rw [if_pos rfl] at q'
          rw [upd_same]
          exact ⟨c, q'⟩
        · rw [if_neg hip] at q'
          rw [upd_ne _ _ (fun e => hip (by cases e; rfl))]
          exact ⟨c', q'⟩
      · have h0 := (held_setG (g' := withDs (gOf h g) ((gOf h g).disk.set p zs)) hg x (k.held x hx) (fun _ => rfl) (fun _ => rfl) (fun p' e => by
          subst e
          have : p' ≠ p := fun e => ex (by rw [e])
          exact getD_set_ne _ _ _ this)).same (far (A x) (fun e => er (k.inj x (.row g) hx hg e)))
        cases x using Pl.seven with
        | fr => exact fun i hi => by rw [upd_ne _ _ (by intro e; cases e), upd_ne _ _ (by intro e; cases e)]; exact h0 i hi
        | gs => exact ⟨fun i hi => by rw [upd_ne _ _ (by intro e; cases e), upd_ne _ _ (by intro e; cases e), upd_ne _ _ (by intro e; cases e), upd_ne _ _ (by intro e; cases e)]; exact h0.1 i hi, by rw [upd_ne _ _ (by intro e; cases e)]; exact h0.2⟩
        | page i => show Ints _ (upd A _ b (.page i)) 0 _ ∧ Room _ (upd A _ b (.page i)) 4; rw [upd_ne _ _ (by intro e; cases e)]; exact h0
        | maps i => show Ents _ (upd A _ b (.maps i)) 0 _ ∧ Room _ (upd A _ b (.maps i)) 18; rw [upd_ne _ _ (by intro e; cases e)]; exact h0
        | row i =>
          intro j hj
          have hig : i ≠ g := fun e => er (by rw [e])
          rw [upd_ne _ _ (by intro e; cases e), upd_ne _ _ (fun e => hig (by cases e; rfl))]
          exact h0 j hj
        | shd i => show Quads _ (upd A _ b (.shd i)) 0 _ ∧ Room _ (upd A _ b (.shd i)) 24; rw [upd_ne _ _ (by intro e; cases e)]; exact h0
        | dsk i j => show Ints _ (upd A _ b (.dsk i j)) 0 _ ∧ Room _ (upd A _ b (.dsk i j)) 4; rw [upd_ne _ _ ex]; exact h0
end Go.Proofs.Ytdamdjhnhkmncaa

/-
  What the given l13Out does.
-/
set_option linter.unusedSimpArgs false
namespace Go.Proofs.Ytdamdjhnhkmncaa
open Go.RowKit
attribute [local go_sem ↓] Go.wp_at_zero Go.wp_at_succ exec_app
attribute [local go_sem] bigNext_ok

end Go.Proofs.Ytdamdjhnhkmncaa

/-
  What the given PageOut does.
-/
set_option linter.unusedSimpArgs false
namespace Go.Proofs.Ytdamdjhnhkmncaa
open Go.RowKit
attribute [local go_sem ↓] Go.wp_at_zero Go.wp_at_succ exec_app
attribute [local go_sem] bigNext_ok

end Go.Proofs.Ytdamdjhnhkmncaa
