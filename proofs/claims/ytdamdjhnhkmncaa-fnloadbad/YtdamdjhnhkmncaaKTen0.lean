/-
  What the program's own telling of who is in which frame does.
-/
import Derived.Test.YtdamdjhnhkmncaaKF
set_option linter.unusedSimpArgs false
namespace Go.Proofs.Ytdamdjhnhkmncaa
open Go.RowKit
attribute [local go_sem ↓] Go.wp_at_zero Go.wp_at_succ exec_app exec_lod exec_house exec_mapsA exec_allocL exec_storeL exec_idxM exec_look exec_upd
attribute [local go_sem] bigNext_ok bigSkip_ok

theorem Who.below {w w' : World} {lo r : Nat} {S : Int → List (Nat × Nat)} (h : Who w lo r S) (hB : Below w.heap.size w w') : Who w' lo r S := h.same (below_grown hB) (by simp) (fun T e => by cases e)

end Go.Proofs.Ytdamdjhnhkmncaa
