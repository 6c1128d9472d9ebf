/-
  What the program's own asking of a house does.
-/
import Derived.Test.YtdamdjhnhkmncaaKR
import Derived.Test.YtdamdjhnhkmncaaKLodOf0
import Derived.Test.YtdamdjhnhkmncaaKF
set_option linter.unusedSimpArgs false
namespace Go.Proofs.Ytdamdjhnhkmncaa
open Go.RowKit
attribute [local go_sem ↓] Go.wp_at_zero Go.wp_at_succ exec_app exec_lod exec_house exec_mapsA exec_allocL exec_storeL exec_idxM exec_look exec_upd
attribute [local go_sem] bigNext_ok bigSkip_ok

/-- Lodgers as they lie: a row of them, one behind the other. -/
def LodsAt (w : World) (L n : Nat) (gs : List Gst) : Prop := gs.length = n ∧ L < w.heap.size ∧ ∀ i, i < n → Sized (gs.getD i noG) ∧ w.rangeAt L (i * 66) (lodC (gs.getD i noG))
theorem LodsAt.below {w w' : World} {L n : Nat} {gs : List Gst} (h : LodsAt w L n gs) {N : Nat} (hB : Below N w w') (hN : L < N) (hs : N ≤ w.heap.size) : LodsAt w' L n gs :=
  ⟨h.1, Nat.lt_of_lt_of_le (Nat.lt_of_lt_of_le hN hs) hB.size, fun i hi => ⟨(h.2.2 i hi).1, range_below (h.2.2 i hi).2 hB hN⟩⟩

end Go.Proofs.Ytdamdjhnhkmncaa

/-
  What the program's own reading of a host does.
-/
set_option linter.unusedSimpArgs false
namespace Go.Proofs.Ytdamdjhnhkmncaa
open Go.RowKit
attribute [local go_sem ↓] Go.wp_at_zero Go.wp_at_succ exec_app exec_lod exec_house exec_mapsA exec_allocL exec_storeL exec_buildL exec_idxM exec_look exec_upd exec_allocH exec_buildH exec_storeH
attribute [local go_sem] bigNext_ok bigSkip_ok

def hz : List Value := houseC (zeroM 8) (.slice none 0 0) 0

end Go.Proofs.Ytdamdjhnhkmncaa

/-
  A list of one lodger, made by a literal: kept shut.
-/
set_option linter.unusedSimpArgs false
namespace Go.Proofs.Ytdamdjhnhkmncaa
open Go.RowKit

def bsRun (P : Program) (t : TypeId) (n : Nat) (parts : Array (Nat × Value)) (w : World) : Result Value := (Instr.buildSlice t n parts).run P w
theorem exec_bsL (ρ : Operand → Value) (dst : Option Tmp) (ty : TypeId) (pos : String) (after : Array _) (guard : Option _) (n : Nat) (ps : Array (Nat × Operand)) (w : World) :
    (execOp ρ ⟨dst, .buildSlice 69 n ps, ty, pos, after, guard⟩).run Try.prog w = bigNext (bsRun Try.prog 69 n (ps.map fun (i, x) => (i, ρ x)) w) := by
  unfold bsRun execOp
  simp only [Sem.run_bind]
  cases (Instr.buildSlice 69 n (ps.map fun (i, x) => (i, ρ x))).run Try.prog w <;> rfl

end Go.Proofs.Ytdamdjhnhkmncaa

/-
  What the program's own reading of a host does: the whole.
-/
set_option linter.unusedSimpArgs false
namespace Go.Proofs.Ytdamdjhnhkmncaa
open Go.RowKit
attribute [local go_sem ↓] Go.wp_at_zero Go.wp_at_succ exec_app exec_lod exec_house exec_mapsA exec_allocL exec_storeL exec_buildL exec_idxM exec_look exec_upd exec_allocH exec_buildH exec_storeH exec_bsL
attribute [local go_sem] bigNext_ok bigSkip_ok

end Go.Proofs.Ytdamdjhnhkmncaa
