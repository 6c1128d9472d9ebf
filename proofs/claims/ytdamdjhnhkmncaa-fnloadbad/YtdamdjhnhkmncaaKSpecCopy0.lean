/-
  What the given l12Copy does at an ok host: a host anew.
-/
import Derived.Test.YtdamdjhnhkmncaaKW
import Derived.Test.YtdamdjhnhkmncaaKH
set_option linter.unusedSimpArgs false
namespace Go.Proofs.Ytdamdjhnhkmncaa
open Go.RowKit
attribute [local go_sem ↓] Go.wp_at_zero Go.wp_at_succ exec_app
attribute [local go_sem] bigNext_ok

/-- A row of nothing, made by a literal. -/
def Emp (W : World) (N : Nat) (t : TypeId) (b : Nat) : Prop := N ≤ b ∧ W.heap[b]? = some (.cells #[] t (0, 0))
theorem Emp.same {W W' : World} {N b : Nat} {t : TypeId} (h : Emp W N t b) (e : W'.heap[b]? = W.heap[b]?) : Emp W' N t b := ⟨h.1, e.trans h.2⟩
theorem Emp.lt {W : World} {N b : Nat} {t : TypeId} (h : Emp W N t b) : b < W.heap.size := (Array.getElem?_eq_some_iff.1 h.2).1
theorem Emp.own {W : World} {N b : Nat} {t : TypeId} (h : Emp W N t b) (size : Nat) : W.ownsRow N t size (.slice (some ⟨b, 0, none⟩) 0 0) 0 [] := ⟨by simp, Or.inr ⟨b, 0, #[], rfl, h.1, h.2, Nat.le_refl _, by simp [maxLen], by simp, by simp⟩⟩

end Go.Proofs.Ytdamdjhnhkmncaa
