/-
  What the program's own heap of frames does: less, swap, sink, pop, heapOf.
-/
import Derived.Test.YtdamdjhnhkmncaaKY
import Derived.Test.YtdamdjhnhkmncaaKE
import Derived.Test.YtdamdjhnhkmncaaKM
import Derived.Test.YtdamdjhnhkmncaaKSpecCopy0
import Derived.Test.YtdamdjhnhkmncaaKX
import Derived.Deep.Upon
set_option linter.unusedSimpArgs false
namespace Go.Proofs.Ytdamdjhnhkmncaa
open Go.RowKit

theorem Only.drewN {b : Nat} {w w' : World} (h : Only b w w') (n : Nat) : Only b w (w'.drewN n) := ⟨h.os, h.tape, h.output, h.size, h.block⟩
theorem Only.drew {b : Nat} {w w' : World} (h : Only b w w') : Only b w w'.drew := ⟨h.os, h.tape, h.output, h.size, h.block⟩
theorem Only.trans {b : Nat} {w w1 w2 : World} (h : Only b w w1) (k : Only b w1 w2) : Only b w w2 := ⟨k.os.trans h.os, k.tape.trans h.tape, k.output.trans h.output, k.size.trans h.size, fun j hj => (k.block j hj).trans (h.block j hj)⟩
/-- Numbers in a row of their own that is written. -/
def RowI (w : World) (b n : Nat) (zs : List Int) : Prop := zs.length = n ∧ Ints w b 0 zs ∧ Room w b n
theorem RowI.drewN {w : World} {b n : Nat} {zs : List Int} (h : RowI w b n zs) (m : Nat) : RowI (w.drewN m) b n zs := h
theorem RowI.drew {w : World} {b n : Nat} {zs : List Int} (h : RowI w b n zs) : RowI w.drew b n zs := h
theorem RowI.at {w : World} {b n : Nat} {zs : List Int} (h : RowI w b n zs) {i : Nat} (hi : i < n) : w.cell? ⟨b, i, none⟩ = some (.int .i64 (zs.getD i 0)) ∧ w.frozen? ⟨b, i, none⟩ = false := by
  have := h.2.1 i (by rw [h.1]; exact hi)
  rw [Nat.zero_add] at this
  exact ⟨this, (h.2.2 i hi).2⟩
theorem RowI.put {w : World} {b n : Nat} {zs : List Int} (h : RowI w b n zs) {i : Nat} (hi : i < n) (z : Int) : RowI (w.setCell ⟨b, i, none⟩ (.int .i64 z)) b n (zs.set i z) := by
  obtain ⟨h1, h2, h3⟩ := h
  refine ⟨by rw [List.length_set]; exact h1, fun j hj => ?_, h3.put _⟩
  rw [List.length_set] at hj
  have := h2 j hj
  rw [Nat.zero_add] at this ⊢
  refine (cell_put this).trans ?_
  rw [getD_set _ _ _ _ _ (by omega)]
  by_cases e : j = i
  · rw [if_pos e, if_pos e]
  · rw [if_neg e, if_neg e]
theorem RowI.only {w w' : World} {b b' n : Nat} {zs : List Int} (h : RowI w b n zs) (e : w'.heap[b]? = w.heap[b]?) (_hb : b ≠ b') : RowI w' b n zs := by
  have s : SameIn b (b + 1) w w' := fun j j1 j2 => by rw [show j = b by omega]; exact e
  exact ⟨h.1, h.2.1.same s (Nat.le_refl _) (Nat.lt_succ_self _), h.2.2.same s (Nat.le_refl _) (Nat.lt_succ_self _)⟩

end Go.Proofs.Ytdamdjhnhkmncaa

/-
  What the program's own heap of frames does: a clone, heapOf, pop; the first free frame.
-/
set_option linter.unusedSimpArgs false
namespace Go.Proofs.Ytdamdjhnhkmncaa
open Go.RowKit
attribute [local go_sem ↓] Go.wp_at_zero Go.wp_at_succ exec_app exec_lod exec_house exec_mapsA exec_allocL exec_storeL exec_buildL exec_idxM exec_look exec_upd exec_allocH exec_buildH exec_storeH exec_bsL
attribute [local go_sem] bigNext_ok bigSkip_ok

end Go.Proofs.Ytdamdjhnhkmncaa
