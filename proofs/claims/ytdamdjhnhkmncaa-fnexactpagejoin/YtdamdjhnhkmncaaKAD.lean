/-
  One cell of a row of like elements written.
-/
import Derived.Test.YtdamdjhnhkmncaaKOwn0
import Derived.Test.YtdamdjhnhkmncaaKPB
namespace Go.Proofs.Ytdamdjhnhkmncaa
open Go.RowKit

/-- A word of a frame read. -/
theorem HouseW.wordAt {w : World} {B L c : Nat} {h : Hst} (hW : HouseW w B L c h) {F : Nat} (hF : F < 8) {o : Nat} (ho : o < 4) : w.cell? ⟨B, F * 4 + o, none⟩ = some (.int .i64 ((fAt h F).getD o 0)) ∧ w.frozen? ⟨B, F * 4 + o, none⟩ = false := by
  obtain ⟨h1, h2, h3, h4, h5, h6, h7, h8, h9, h10⟩ := hW
  obtain ⟨z0, z1, z2, z3⟩ := range_sheets (range_left h1) F (by rw [h6]; exact hF)
  rw [Nat.zero_add] at z0 z1 z2 z3
  have t := (h2 (F * 4 + o) (by omega)).2
  rw [Nat.zero_add] at t
  rcases (by omega : o = 0 ∨ o = 1 ∨ o = 2 ∨ o = 3) with e | e | e | e <;> subst e
  · exact ⟨z0, t⟩
  · exact ⟨z1, t⟩
  · exact ⟨z2, t⟩
  · exact ⟨z3, t⟩
end Go.Proofs.Ytdamdjhnhkmncaa

/-
  What the program's own frameOf does: a page brought in, and where; and put: a word of a frame written, the one that was there told.
-/
set_option linter.unusedSimpArgs false
namespace Go.Proofs.Ytdamdjhnhkmncaa
open Go.RowKit
attribute [local go_sem ↓] Go.wp_at_zero Go.wp_at_succ exec_app exec_lod exec_house exec_mapsA exec_allocL exec_storeL exec_buildL exec_idxM exec_look exec_upd exec_allocH exec_buildH exec_storeH exec_bsL exec_storeQ exec_loadQ exec_idxQ
attribute [local go_sem] bigNext_ok bigSkip_ok

end Go.Proofs.Ytdamdjhnhkmncaa
