/-
  What the program's own settle does: a map of a page written, and the shades of the page forgotten.
-/
import Derived.Test.YtjegndgdpmlbaaaKOImplForget0
import Derived.Test.YtjegndgdpmlbaaaKOD
import Derived.Test.YtjegndgdpmlbaaaKOWalkFnExactHostOk
set_option linter.unusedSimpArgs false
namespace Go.Proofs.Ytjegndgdpmlbaaa
open Go.RowKit
attribute [local go_sem ↓] Go.wp_at_zero Go.wp_at_succ exec_app exec_lod exec_house exec_mapsA exec_allocL exec_storeL exec_buildL exec_idxM exec_look exec_upd exec_allocH exec_buildH exec_storeH exec_bsL
attribute [local go_sem] bigNext_ok bigSkip_ok

theorem exec_loadQ (ρ : Operand → Value) (dst : Option Tmp) (ty : TypeId) (pos : String) (after : Array _) (guard : Option _) (x : Operand) (w : World) :
    (execOp ρ ⟨dst, .load 86 x, ty, pos, after, guard⟩).run Try.prog w = bigNext (bigRun Try.prog 86 (ρ x) w) := by
  unfold bigRun execOp
  simp only [Sem.run_bind]
  cases (Instr.loadAt 86 (ρ x)).run Try.prog w <;> rfl
theorem exec_idxQ (ρ : Operand → Value) (dst : Option Tmp) (ty : TypeId) (pos : String) (after : Array _) (guard : Option _) (x y : Operand) (w : World) :
    (execOp ρ ⟨dst, .index 86 x y, ty, pos, after, guard⟩).run Try.prog w = bigNext (idxRun Try.prog 86 (ρ x) (ρ y) w) := by
  unfold idxRun execOp
  simp only [Sem.run_bind]
  cases (Instr.index 86 (ρ x) (ρ y)).run Try.prog w <;> rfl
attribute [local go_sem ↓] exec_storeQ exec_loadQ exec_idxQ

theorem fU_get (ss : List S4) (p : Int) : ∀ k j, k ≤ j → (fU ss p k).getD j noS = ss.getD j noS
  | 0, _, _ => rfl
  | k + 1, j, h => by
    rw [fU]
    cases hitS p ((fU ss p k).getD k noS)
    · exact fU_get ss p k j (by omega)
    · rw [cond_true, getD_set_ne _ _ _ (by omega)]
      exact fU_get ss p k j (by omega)
def settled (x : Gst) (p : Nat) (m : E3) (k : Nat) : Gst := ⟨x.maps.set p m, x.disk, fU x.shades (p : Int) k⟩

end Go.Proofs.Ytjegndgdpmlbaaa

/-
  What the program's own takeOut does.
-/
set_option linter.unusedSimpArgs false
namespace Go.Proofs.Ytjegndgdpmlbaaa
open Go.RowKit
attribute [local go_sem ↓] Go.wp_at_zero Go.wp_at_succ exec_app exec_lod exec_house exec_mapsA exec_allocL exec_storeL exec_buildL exec_idxM exec_look exec_upd exec_allocH exec_buildH exec_storeH exec_bsL exec_storeQ exec_loadQ exec_idxQ
attribute [local go_sem] bigNext_ok bigSkip_ok

end Go.Proofs.Ytjegndgdpmlbaaa

/-
  What the program's own spotOf and PageOut do.
-/
set_option linter.unusedSimpArgs false
namespace Go.Proofs.Ytjegndgdpmlbaaa
open Go.RowKit
attribute [local go_sem ↓] Go.wp_at_zero Go.wp_at_succ exec_app exec_lod exec_house exec_mapsA exec_allocL exec_storeL exec_buildL exec_idxM exec_look exec_upd exec_allocH exec_buildH exec_storeH exec_bsL exec_storeQ exec_loadQ exec_idxQ
attribute [local go_sem] bigNext_ok bigSkip_ok

end Go.Proofs.Ytjegndgdpmlbaaa
