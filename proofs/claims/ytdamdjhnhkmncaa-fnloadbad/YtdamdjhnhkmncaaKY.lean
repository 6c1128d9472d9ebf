/-
  What the given l12Page, l12See and HostSee do.
-/
import Derived.Test.YtdamdjhnhkmncaaKHostOk1
import Derived.Test.YtdamdjhnhkmncaaKH
import Derived.Test.YtdamdjhnhkmncaaKWalkFnExactHostOk
set_option linter.unusedSimpArgs false
namespace Go.Proofs.Ytdamdjhnhkmncaa
open Go.RowKit
attribute [local go_sem ↓] Go.wp_at_zero Go.wp_at_succ exec_app
attribute [local go_sem] bigNext_ok

end Go.Proofs.Ytdamdjhnhkmncaa

/-
  What the program's own HostFree, and the given one, answer.
-/
set_option linter.unusedSimpArgs false
namespace Go.Proofs.Ytdamdjhnhkmncaa
open Go.RowKit
attribute [local go_sem ↓] Go.wp_at_zero Go.wp_at_succ exec_app exec_lod exec_house exec_mapsA exec_allocL exec_storeL exec_buildL exec_idxM exec_look exec_upd exec_allocH exec_buildH exec_storeH exec_bsL
attribute [local go_sem] bigNext_ok bigSkip_ok

/-- A list of words that is a call's own. -/
def OwnI (w : World) (lo hi : Nat) (v : Value) (zs : List Int) : Prop := ∃ a c, v = .slice a zs.length c ∧ (zs.length = 0 ∨ ∃ b, a = some ⟨b, 0, none⟩ ∧ lo ≤ b ∧ b < hi ∧ Ints w b 0 zs ∧ Room w b zs.length)

end Go.Proofs.Ytdamdjhnhkmncaa

/-
  What the program's own HostFree, and the given one, answer: the whole.
-/
set_option linter.unusedSimpArgs false
namespace Go.Proofs.Ytdamdjhnhkmncaa
open Go.RowKit
attribute [local go_sem ↓] Go.wp_at_zero Go.wp_at_succ exec_app exec_lod exec_house exec_mapsA exec_allocL exec_storeL exec_buildL exec_idxM exec_look exec_upd exec_allocH exec_buildH exec_storeH exec_bsL
attribute [local go_sem] bigNext_ok bigSkip_ok

theorem OwnI.wide {w : World} {lo lo' hi : Nat} {v : Value} {zs : List Int} (h : OwnI w lo hi v zs) (hl : lo' ≤ lo) : OwnI w lo' hi v zs := by
  obtain ⟨a, c, e, hd⟩ := h
  refine ⟨a, c, e, ?_⟩
  rcases hd with h0 | ⟨b, e, h1, h2⟩
  · exact Or.inl h0
  · exact Or.inr ⟨b, e, by omega, h2⟩

end Go.Proofs.Ytdamdjhnhkmncaa
