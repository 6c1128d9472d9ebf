/-
  Hosts, plainly, by places: what an ok host is, place by place; who is in a frame.
-/
import Derived.Test.YtdamdjhnhkmncaaKX
import Derived.Test.YtdamdjhnhkmncaaKTen0
namespace Go.Proofs.Ytdamdjhnhkmncaa
open Go.RowKit

end Go.Proofs.Ytdamdjhnhkmncaa

/-
  Pages taken out, plainly, by places: one, several, all of a frame.
-/
namespace Go.Proofs.Ytdamdjhnhkmncaa
open Go.RowKit

end Go.Proofs.Ytdamdjhnhkmncaa

/-
  Pages brought in, and owned, plainly, by places.
-/
namespace Go.Proofs.Ytdamdjhnhkmncaa
open Go.RowKit

end Go.Proofs.Ytdamdjhnhkmncaa

/-
  A host that is written in place: where its rows are behind some acts on it, and what else has turned.
-/
namespace Go.Proofs.Ytdamdjhnhkmncaa
open Go.RowKit

/-- Behind acts on a host in place: its rows are where some were, or in new memory from M on; all else old is as it was. -/
structure Mv (w w' : World) (M N n : Nat) (A A' : Pl → Nat) (h' : Hst) : Prop where
  fr : A' .fr = A .fr
  gs : A' .gs = A .gs
  pl : ∀ x, x.ok n → (∃ y, y.ok n ∧ A' x = A y) ∨ M ≤ A' x
  sep : SepH w' N A' h'
  len : h'.guests.length = n
  bel : Below N w w'
  keep : ∀ j, j < w.heap.size → (∀ x, x.ok n → A x ≠ j) → w'.heap[j]? = w.heap[j]?
  lo : w.heap.size ≤ M
  hi : M ≤ w'.heap.size
theorem Mv.size {w w' : World} {M N n : Nat} {A A' : Pl → Nat} {h' : Hst} (a : Mv w w' M N n A A' h') : w.heap.size ≤ w'.heap.size := Nat.le_trans a.lo a.hi
theorem Mv.start {w w' : World} {M N n : Nat} {A : Pl → Nat} {h : Hst} (k : SepH w N A h) (hn : h.guests.length = n) (hB : Below w.heap.size w w') (hN : N ≤ w.heap.size) (lo : w.heap.size ≤ M) (hi : M ≤ w'.heap.size) : Mv w w' M N n A A h :=
  ⟨rfl, rfl, fun x hx => Or.inl ⟨x, hx, rfl⟩, k.belowK hB, hn, hB.mono hN, fun j hj _ => hB.block j hj, lo, hi⟩
theorem Mv.refl {w : World} {N n : Nat} {A : Pl → Nat} {h : Hst} (k : SepH w N A h) (hn : h.guests.length = n) (hN : N ≤ w.heap.size) : Mv w w w.heap.size N n A A h := Mv.start k hn (Below.refl _ _) hN (Nat.le_refl _) (Nat.le_refl _)
theorem Mv.weak {w w' : World} {M M' N n : Nat} {A A' : Pl → Nat} {h' : Hst} (a : Mv w w' M N n A A' h') (h1 : w.heap.size ≤ M') (h2 : M' ≤ M) : Mv w w' M' N n A A' h' :=
  ⟨a.fr, a.gs, fun x hx => (a.pl x hx).imp id (fun e => by omega), a.sep, a.len, a.bel, a.keep, h1, Nat.le_trans h2 a.hi⟩
/-- None of its rows is a variable of the call's own, nor any other memory that was there. -/
theorem Mv.ne {w w' : World} {M N n : Nat} {A A' : Pl → Nat} {h' : Hst} (a : Mv w w' M N n A A' h') {j : Nat} (hj : j < M) (hA : ∀ x, x.ok n → A x ≠ j) (x : Pl) (hx : x.ok n) : A' x ≠ j := by
  rcases a.pl x hx with ⟨y, hy, e⟩ | e
  · rw [e]; exact hA y hy
  · omega
theorem Mv.off {w w' : World} {M N n : Nat} {A A' : Pl → Nat} {h' : Hst} (a : Mv w w' M N n A A' h') (hA : ∀ x, x.ok n → A x < w.heap.size) {b i : Nat} (h1 : w.heap.size ≤ b) (h2 : b < M) (hN : N ≤ w.heap.size) (u : Value) : Mv w (w'.setCell ⟨b, i, none⟩ u) M N n A A' h' := by
  refine ⟨a.fr, a.gs, a.pl, a.sep.off (fun x hx => ?_) u, a.len, a.bel.setCell (p := ⟨b, i, none⟩) (by show N ≤ b; omega) u, fun j hj hx => ?_, a.lo, by rw [World.size_setCell]; exact a.hi⟩
  · rw [a.len] at hx
    exact a.ne h2 (fun y hy => by have := hA y hy; omega) x hx
  · rw [Below.heap_setCell _ _ _ _ (by simp; omega)]
    exact a.keep j hj hx
theorem Mv.below {w w' w2 : World} {M N n : Nat} {A A' : Pl → Nat} {h' : Hst} (a : Mv w w' M N n A A' h') (hN : N ≤ w.heap.size) (hB : Below w'.heap.size w' w2) : Mv w w2 M N n A A' h' :=
  ⟨a.fr, a.gs, a.pl, a.sep.belowK hB, a.len, a.bel.trans (hB.mono (Nat.le_trans hN a.size)), fun j hj hx => (hB.block j (Nat.lt_of_lt_of_le hj a.size)).trans (a.keep j hj hx), a.lo, Nat.le_trans a.hi hB.size⟩
theorem Mv.call {w w' w2 : World} {M N n : Nat} {A A' A2 : Pl → Nat} {h' h2 : Hst} (a : Mv w w' M N n A A' h') (_hA : ∀ x, x.ok n → A x < w.heap.size) (b : Mv w' w2 w'.heap.size N n A' A2 h2) : Mv w w2 M N n A A2 h2 := by
  have hs := a.hi
  have lo := a.lo
  refine ⟨b.fr.trans a.fr, b.gs.trans a.gs, fun x hx => ?_, b.sep, b.len, a.bel.trans b.bel, fun j hj hx => ?_, a.lo, Nat.le_trans hs b.hi⟩
  · rcases b.pl x hx with ⟨y, hy, e⟩ | e
    · rcases a.pl y hy with ⟨z, hz, e2⟩ | e2
      · exact Or.inl ⟨z, hz, by rw [e, e2]⟩
      · exact Or.inr (by omega)
    · exact Or.inr (by omega)
  · rw [b.keep j (by omega) (fun y hy => a.ne (by omega) hx y hy)]
    exact a.keep j hj hx
/-- A variable of the call's own, over a call on the host. -/
theorem Mv.own {w w' w2 : World} {M N n : Nat} {A A' A2 : Pl → Nat} {h' h2 : Hst} (a : Mv w w' M N n A A' h') (hA : ∀ x, x.ok n → A x < w.heap.size) (b : Mv w' w2 w'.heap.size N n A' A2 h2) {j : Nat} (h1 : w.heap.size ≤ j) (h3 : j < M) : w2.heap[j]? = w'.heap[j]? :=
  b.keep j (Nat.lt_of_lt_of_le h3 a.hi) (fun x hx => a.ne h3 (fun y hy => by have := hA y hy; omega) x hx)
/-- One row written by a step law of SepH. -/
theorem Mv.put {w w' w2 : World} {M N n : Nat} {A A' : Pl → Nat} {h' h2 : Hst} (a : Mv w w' M N n A A' h') (k2 : SepH w2 N A' h2) (hl : h2.guests.length = n) (hb : Below N w' w2) {x0 : Pl} (hx0 : x0.ok n) (hs : w'.heap.size ≤ w2.heap.size) (hw : ∀ j, j < w'.heap.size → j ≠ A' x0 → w2.heap[j]? = w'.heap[j]?) : Mv w w2 M N n A A' h2 :=
  ⟨a.fr, a.gs, a.pl, k2, hl, a.bel.trans hb, fun j hj hx => by
    have := a.lo
    have := a.hi
    rw [hw j (by omega) (fun e => a.ne (by omega) hx x0 hx0 e.symm)]
    exact a.keep j hj hx, a.lo, Nat.le_trans a.hi hs⟩

theorem SepH.hand {w : World} {N : Nat} {A : Pl → Nat} {h : Hst} (k : SepH w N A h) (z : Int) : SepH w N A (setHand h z) :=
  ⟨k.n2, k.f8, k.f4, k.sz, k.inj, k.low, fun x hx => by
    have := k.held x hx
    cases x using Pl.seven <;> exact this⟩
end Go.Proofs.Ytdamdjhnhkmncaa
