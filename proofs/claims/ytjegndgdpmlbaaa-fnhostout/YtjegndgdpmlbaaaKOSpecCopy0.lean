/-
  What the given l12Copy does at an ok host: a host anew.
-/
import Derived.Test.YtjegndgdpmlbaaaKOW
import Derived.Test.YtjegndgdpmlbaaaKOH
set_option linter.unusedSimpArgs false
namespace Go.Proofs.Ytjegndgdpmlbaaa
open Go.RowKit
attribute [local go_sem ↓] Go.wp_at_zero Go.wp_at_succ exec_app
attribute [local go_sem] bigNext_ok

theorem adN (b o j : Nat) : (⟨b, o, none⟩ : Addr).add j = ⟨b, o + j, none⟩ := by by_cases h : j = 0 <;> simp [Addr.add, h]
/-- A row of nothing, made by a literal. -/
def Emp (W : World) (N : Nat) (t : TypeId) (b : Nat) : Prop := N ≤ b ∧ W.heap[b]? = some (.cells #[] t (0, 0))
theorem emp_new (W : World) (t : TypeId) {N : Nat} (h : N ≤ W.heap.size) : Emp (W.alloc (.cells #[] t)) N t W.heap.size := ⟨h, heap_alloc_new W _⟩
theorem Emp.same {W W' : World} {N b : Nat} {t : TypeId} (h : Emp W N t b) (e : W'.heap[b]? = W.heap[b]?) : Emp W' N t b := ⟨h.1, e.trans h.2⟩
theorem Emp.lt {W : World} {N b : Nat} {t : TypeId} (h : Emp W N t b) : b < W.heap.size := (Array.getElem?_eq_some_iff.1 h.2).1
theorem Emp.own {W : World} {N b : Nat} {t : TypeId} (h : Emp W N t b) (size : Nat) : W.ownsRow N t size (.slice (some ⟨b, 0, none⟩) 0 0) 0 [] := ⟨by simp, Or.inr ⟨b, 0, #[], rfl, h.1, h.2, Nat.le_refl _, by simp [maxLen], by simp, by simp⟩⟩
theorem own_range {w : World} {lo size g n c : Nat} {t : TypeId} {xs : List Value} (h : w.ownsRow lo t size (.slice (some ⟨g, 0, none⟩) n c) n xs) : w.rangeAt g 0 xs := fun j v hj => by
  have := h.cells (g := g) rfl j v hj
  rw [ad0] at this
  rw [Nat.zero_add]
  exact this
theorem own_room {w : World} {lo size g n c : Nat} {t : TypeId} {xs : List Value} (h : w.ownsRow lo t size (.slice (some ⟨g, 0, none⟩) n c) n xs) : Room w g (n * size) := fun j hj => by
  obtain ⟨_, hd⟩ := h
  rcases hd with ⟨h0, _⟩ | ⟨g, c', cur, hv, _, hh, hnc, _, hsz, _⟩
  · cases h0
  · cases hv
    have hj' : j < cur.size := by rw [hsz]; exact Nat.lt_of_lt_of_le hj (Nat.mul_le_mul_right _ hnc)
    have hc := cell_of_row w g j cur t (0, 0) hh
    exact ⟨⟨cur[j], by rw [hc]; simp [hj']⟩, by simp [World.frozen?, hh]⟩
theorem grown_below {W w1 : World} {N b : Nat} (h : W.grownBy w1 (some b)) (hb : N ≤ b) (hN : N ≤ W.heap.size) : Below N W w1 := ⟨h.os, h.tape, h.output, h.size, fun k hk => h.block k (by omega) (by intro e; cases e; omega)⟩

end Go.Proofs.Ytjegndgdpmlbaaa
