/-
  What the program's own settle does: a map of a page written, and the shades of the page forgotten.
-/
import Derived.Test.YtdamdjhnhkmncaaKImplForget0
import Derived.Test.YtdamdjhnhkmncaaKD
import Derived.Test.YtdamdjhnhkmncaaKWalkFnExactHostOk
set_option linter.unusedSimpArgs false
namespace Go.Proofs.Ytdamdjhnhkmncaa
open Go.RowKit
attribute [local go_sem ↓] Go.wp_at_zero Go.wp_at_succ exec_app exec_lod exec_house exec_mapsA exec_allocL exec_storeL exec_buildL exec_idxM exec_look exec_upd exec_allocH exec_buildH exec_storeH exec_bsL
attribute [local go_sem] bigNext_ok bigSkip_ok

theorem exec_loadQ (ρ : Operand → Value) (dst : Option Tmp) (ty : TypeId) (pos : String) (after : Array _) (guard : Option _) (x : Operand) (w : World) :
    (execOp ρ ⟨dst, .load 82 x, ty, pos, after, guard⟩).run Try.prog w = bigNext (bigRun Try.prog 82 (ρ x) w) := by
  unfold bigRun execOp
  simp only [Sem.run_bind]
  cases (Instr.loadAt 82 (ρ x)).run Try.prog w <;> rfl
theorem exec_idxQ (ρ : Operand → Value) (dst : Option Tmp) (ty : TypeId) (pos : String) (after : Array _) (guard : Option _) (x y : Operand) (w : World) :
    (execOp ρ ⟨dst, .index 82 x y, ty, pos, after, guard⟩).run Try.prog w = bigNext (idxRun Try.prog 82 (ρ x) (ρ y) w) := by
  unfold idxRun execOp
  simp only [Sem.run_bind]
  cases (Instr.index 82 (ρ x) (ρ y)).run Try.prog w <;> rfl
attribute [local go_sem ↓] exec_storeQ exec_loadQ exec_idxQ

end Go.Proofs.Ytdamdjhnhkmncaa
