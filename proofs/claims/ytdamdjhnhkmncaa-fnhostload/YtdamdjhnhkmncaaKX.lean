/-
  A page taken out of an ok host leaves it ok: who is in a frame, counted.
-/
import Derived.Test.YtdamdjhnhkmncaaKD
import Derived.Test.YtdamdjhnhkmncaaKImplOut0
namespace Go.Proofs.Ytdamdjhnhkmncaa
open Go.RowKit

theorem filter_set {α : Type} (q : α → Bool) (d : α) : ∀ (l : List α) (i : Nat) (a : α), i < l.length → ((l.set i a).filter q).length + (bif q (l.getD i d) then 1 else 0) = (l.filter q).length + (bif q a then 1 else 0)
  | [], i, a, h => by simp at h
  | x :: l, 0, a, _ => by
    simp only [List.set_cons_zero, List.getD_cons_zero, List.filter_cons]
    cases q x <;> cases q a <;> simp <;> omega
  | x :: l, i + 1, a, h => by
    have ih := filter_set q d l i a (by simpa using h)
    simp only [List.set_cons_succ, List.getD_cons_succ, List.filter_cons]
    cases q x
    · simpa using ih
    · simp only [if_true, List.length_cons]
      omega
theorem sum_set (f : Gst → Nat) : ∀ (l : List Gst) (i : Nat) (a : Gst), i < l.length → ((l.set i a).map f).sum + f (l.getD i noG) = (l.map f).sum + f a
  | [], i, a, h => by simp at h
  | x :: l, 0, a, _ => by simp; omega
  | x :: l, i + 1, a, h => by
    have ih := sum_set f l i a (by simpa using h)
    simp only [List.set_cons_succ, List.getD_cons_succ, List.map_cons, List.sum_cons]
    omega
theorem filter_pos {α : Type} (q : α → Bool) (d : α) : ∀ (l : List α) (i : Nat), i < l.length → q (l.getD i d) = true → 1 ≤ (l.filter q).length
  | [], i, h, _ => by simp at h
  | x :: l, 0, _, hq => by simp at hq; simp [hq]
  | x :: l, i + 1, h, hq => by
    have ih := filter_pos q d l i (by simpa using h) (by simpa using hq)
    rw [List.filter_cons]
    cases q x
    · simpa using ih
    · simp
theorem sum_pos (f : Gst → Nat) : ∀ (l : List Gst) (i : Nat), i < l.length → f (l.getD i noG) ≤ (l.map f).sum
  | [], i, h => by simp at h
  | x :: l, 0, _ => by simp
  | x :: l, i + 1, h => by
    have ih := sum_pos f l i (by simpa using h)
    simp only [List.getD_cons_succ, List.map_cons, List.sum_cons]
    omega
/-- Who is in a frame behind a change of one guest's maps. -/
theorem users_set {h : Hst} {g : Nat} (hg : g < h.guests.length) (x : Gst) (f : Int) : usersH (setG h g x) f + usersG f (gOf h g) = usersH h f + usersG f x := sum_set (usersG f) h.guests g x hg
theorem users_map {x : Gst} {p : Nat} (hp : p < x.maps.length) (m : E3) (ds : List (List Int)) (ss : List S4) (f : Int) : usersG f ⟨x.maps.set p m, ds, ss⟩ + (bif inF f (x.maps.getD p noM) then 1 else 0) = usersG f x + (bif inF f m then 1 else 0) := filter_set (inF f) noM x.maps p m hp
theorem users_pos {h : Hst} {g p : Nat} {f : Int} (hg : g < h.guests.length) (hp : p < (gOf h g).maps.length) (hin : inF f ((gOf h g).maps.getD p noM) = true) : 1 ≤ usersH h f :=
  Nat.le_trans (filter_pos (inF f) noM _ p hp hin) (sum_pos (usersG f) h.guests g hg)
/-- What an ok host is, by places. -/
theorem okHost_iff (h : Hst) : okHost h = true ↔ okHost0 h = true ∧ ∀ g, g < h.guests.length → okGuest0 (gOf h g) = true ∧ okGuest h (gOf h g) = true := by
  rw [okHost, Bool.and_eq_true, Bool.and_eq_true, List.all_eq_true, List.all_eq_true]
  constructor
  · rintro ⟨h0, h1, h2⟩
    refine ⟨h0, fun g hg => ?_⟩
    have hm : gOf h g ∈ h.guests := by rw [gOf, getD_lt hg]; exact List.getElem_mem hg
    exact ⟨h1 _ hm, h2 _ hm⟩
  · rintro ⟨h0, hk⟩
    refine ⟨h0, fun x hx => ?_, fun x hx => ?_⟩
    all_goals
      obtain ⟨i, hi, rfl⟩ := List.getElem_of_mem hx
      have := hk i hi
      rw [gOf, getD_lt hi] at this
    · exact this.1
    · exact this.2
end Go.Proofs.Ytdamdjhnhkmncaa

/-
  What the given l13First does.
-/
set_option linter.unusedSimpArgs false
namespace Go.Proofs.Ytdamdjhnhkmncaa
open Go.RowKit
attribute [local go_sem ↓] Go.wp_at_zero Go.wp_at_succ exec_app
attribute [local go_sem] bigNext_ok

end Go.Proofs.Ytdamdjhnhkmncaa

/-
  What the given l13Clear does.
-/
set_option linter.unusedSimpArgs false
namespace Go.Proofs.Ytdamdjhnhkmncaa
open Go.RowKit
attribute [local go_sem ↓] Go.wp_at_zero Go.wp_at_succ exec_app
attribute [local go_sem] bigNext_ok

/-- A host written in place: where its rows are, behind some acts on it. -/
def Moved (w wr : World) (M N n : Nat) (A : Pl → Nat) (h' : Hst) : Prop :=
  (∃ A', A' .fr = A .fr ∧ A' .gs = A .gs ∧ (∀ x, x.ok n → A' x = A x ∨ M ≤ A' x) ∧ SepH wr N A' h') ∧ Below N w wr ∧ (∀ j, j < w.heap.size → (∀ x, x.ok n → A x ≠ j) → wr.heap[j]? = w.heap[j]?) ∧ M ≤ wr.heap.size
theorem Moved.low {w wr : World} {M M' N n : Nat} {A : Pl → Nat} {h' : Hst} (h : Moved w wr M N n A h') (hM : M' ≤ M) : Moved w wr M' N n A h' := by
  obtain ⟨⟨A', a1, a2, a3, k⟩, b, x, s⟩ := h
  exact ⟨⟨A', a1, a2, fun y hy => (a3 y hy).imp id (fun e => by omega), k⟩, b, x, by omega⟩
/-- Behind a store into a variable of the call's own. -/
theorem Moved.off {w wr : World} {M N n : Nat} {A : Pl → Nat} {h' : Hst} (h : Moved w wr M N n A h') (hl : h'.guests.length = n) (hA : ∀ x, x.ok n → A x < w.heap.size) {b i : Nat} (hb : w.heap.size ≤ b ∧ b < M) (hN : N ≤ w.heap.size) (u : Value) : Moved w (wr.setCell ⟨b, i, none⟩ u) M N n A h' := by
  obtain ⟨⟨A', a1, a2, a3, k⟩, bl, x, s⟩ := h
  refine ⟨⟨A', a1, a2, a3, k.off (fun y hy => ?_) u⟩, bl.setCell (p := ⟨b, i, none⟩) (by show N ≤ b; omega) u, fun j hj hx => ?_, by rw [World.size_setCell]; exact s⟩
  · rw [hl] at hy
    rcases a3 y hy with e | e
    · have := hA y hy; omega
    · omega
  · rw [Below.heap_setCell _ _ _ _ (by simp; omega)]
    exact x j hj hx

end Go.Proofs.Ytdamdjhnhkmncaa

/-
  A page that comes into a frame: its block is the frame's, and the page on disk is a new one.
-/
set_option linter.unusedSimpArgs false
namespace Go.Proofs.Ytdamdjhnhkmncaa
open Go.RowKit

end Go.Proofs.Ytdamdjhnhkmncaa
