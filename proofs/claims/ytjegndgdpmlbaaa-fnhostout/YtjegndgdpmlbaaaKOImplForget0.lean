/-
  What the program's own HostForget answers.
-/
import Derived.Test.YtjegndgdpmlbaaaKOM
set_option linter.unusedSimpArgs false
namespace Go.Proofs.Ytjegndgdpmlbaaa
open Go.RowKit
attribute [local go_sem ↓] Go.wp_at_zero Go.wp_at_succ exec_app exec_lod exec_house exec_mapsA exec_allocL exec_storeL exec_buildL exec_idxM exec_look exec_upd exec_allocH exec_buildH exec_storeH exec_bsL
attribute [local go_sem] bigNext_ok bigSkip_ok

def noSs : List S4 := List.replicate 6 noS

theorem exec_storeQ (ρ : Operand → Value) (dst : Option Tmp) (ty : TypeId) (pos : String) (after : Array _) (guard : Option _) (a x : Operand) (w : World) :
    (execOp ρ ⟨dst, .store 86 a x, ty, pos, after, guard⟩).run Try.prog w = bigSkip (bigStore Try.prog 86 (ρ a) (ρ x) w) := by
  unfold bigStore execOp
  simp only [Sem.run_bind]
  cases (Instr.storeAt 86 (ρ a) (ρ x)).run Try.prog w <;> rfl
attribute [local go_sem ↓] exec_storeQ

end Go.Proofs.Ytjegndgdpmlbaaa
