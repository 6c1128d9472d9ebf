/-
  What the program's own reading of a guest does.
-/
import Derived.Test.YtdamdjhnhkmncaaKF
set_option linter.unusedSimpArgs false
namespace Go.Proofs.Ytdamdjhnhkmncaa
open Go.RowKit
attribute [local go_sem ↓] Go.wp_at_zero Go.wp_at_succ exec_app exec_lod exec_house exec_mapsA exec_allocL exec_storeL exec_buildL exec_idxM exec_look exec_upd
attribute [local go_sem] bigNext_ok bigSkip_ok

/-- One block written, all others as they were. -/
def Put (X : Nat) (w w' : World) : Prop := w'.os = w.os ∧ w'.tape = w.tape ∧ w'.output = w.output ∧ w'.heap.size = w.heap.size ∧ ∀ k, k ≠ X → w'.heap[k]? = w.heap[k]?
theorem Put.below {X N : Nat} {w w' : World} (h : Put X w w') (hN : N ≤ X) : Below N w w' := ⟨h.1, h.2.1, h.2.2.1, Nat.le_of_eq h.2.2.2.1.symm, fun k hk => h.2.2.2.2 k (by omega)⟩
theorem Put.cell {X : Nat} {w w' : World} (h : Put X w w') {b o : Nat} (hb : b ≠ X) : w'.cell? ⟨b, o, none⟩ = w.cell? ⟨b, o, none⟩ := World.cell?_of_block (a := ⟨b, o, none⟩) (h.2.2.2.2 b hb)
theorem Put.range {X : Nat} {w w' : World} (h : Put X w w') {b o : Nat} {cs : List Value} (hb : b ≠ X) (hr : w.rangeAt b o cs) : w'.rangeAt b o cs := fun j v hj => (h.cell hb).trans (hr j v hj)

end Go.Proofs.Ytdamdjhnhkmncaa
