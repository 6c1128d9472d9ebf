/-
  A page taken out of an ok host leaves it ok: who is in a frame, counted.
-/
import Derived.Test.YtdamdjhnhkmncaaKD
import Derived.Test.YtdamdjhnhkmncaaKImplOut0
namespace Go.Proofs.Ytdamdjhnhkmncaa
open Go.RowKit

end Go.Proofs.Ytdamdjhnhkmncaa

/-
  What the given l13First does.
-/
set_option linter.unusedSimpArgs false
namespace Go.Proofs.Ytdamdjhnhkmncaa
open Go.RowKit
attribute [local go_sem ↓] Go.wp_at_zero Go.wp_at_succ exec_app
attribute [local go_sem] bigNext_ok

end Go.Proofs.Ytdamdjhnhkmncaa

/-
  What the given l13Clear does.
-/
set_option linter.unusedSimpArgs false
namespace Go.Proofs.Ytdamdjhnhkmncaa
open Go.RowKit
attribute [local go_sem ↓] Go.wp_at_zero Go.wp_at_succ exec_app
attribute [local go_sem] bigNext_ok

/-- A host written in place: where its rows are, behind some acts on it. -/
def Moved (w wr : World) (M N n : Nat) (A : Pl → Nat) (h' : Hst) : Prop :=
  (∃ A', A' .fr = A .fr ∧ A' .gs = A .gs ∧ (∀ x, x.ok n → A' x = A x ∨ M ≤ A' x) ∧ SepH wr N A' h') ∧ Below N w wr ∧ (∀ j, j < w.heap.size → (∀ x, x.ok n → A x ≠ j) → wr.heap[j]? = w.heap[j]?) ∧ M ≤ wr.heap.size
theorem Moved.low {w wr : World} {M M' N n : Nat} {A : Pl → Nat} {h' : Hst} (h : Moved w wr M N n A h') (hM : M' ≤ M) : Moved w wr M' N n A h' := by
  obtain ⟨⟨A', a1, a2, a3, k⟩, b, x, s⟩ := h
  exact ⟨⟨A', a1, a2, fun y hy => (a3 y hy).imp id (fun e => by omega), k⟩, b, x, by omega⟩
/-- Behind a store into a variable of the call's own. -/
theorem Moved.off {w wr : World} {M N n : Nat} {A : Pl → Nat} {h' : Hst} (h : Moved w wr M N n A h') (hl : h'.guests.length = n) (hA : ∀ x, x.ok n → A x < w.heap.size) {b i : Nat} (hb : w.heap.size ≤ b ∧ b < M) (hN : N ≤ w.heap.size) (u : Value) : Moved w (wr.setCell ⟨b, i, none⟩ u) M N n A h' := by
  obtain ⟨⟨A', a1, a2, a3, k⟩, bl, x, s⟩ := h
  refine ⟨⟨A', a1, a2, a3, k.off (fun y hy => ?_) u⟩, bl.setCell (p := ⟨b, i, none⟩) (by show N ≤ b; omega) u, fun j hj hx => ?_, by rw [World.size_setCell]; exact s⟩
  · rw [hl] at hy
    rcases a3 y hy with e | e
    · have := hA y hy; omega
    · omega
  · rw [Below.heap_setCell _ _ _ _ (by simp; omega)]
    exact x j hj hx

end Go.Proofs.Ytdamdjhnhkmncaa

/-
  A page that comes into a frame: its block is the frame's, and the page on disk is a new one.
-/
set_option linter.unusedSimpArgs false
namespace Go.Proofs.Ytdamdjhnhkmncaa
open Go.RowKit

end Go.Proofs.Ytdamdjhnhkmncaa
