/-
  What the program's own asking of a lodger does.
-/
import Derived.Test.YtdamdjhnhkmncaaKTen0
import Derived.Test.YtdamdjhnhkmncaaKEqSheet0
set_option linter.unusedSimpArgs false
namespace Go.Proofs.Ytdamdjhnhkmncaa
open Go.RowKit
attribute [local go_sem ↓] Go.wp_at_zero Go.wp_at_succ exec_app exec_lod exec_house exec_mapsA exec_allocL exec_storeL exec_idxM exec_look exec_upd
attribute [local go_sem] bigNext_ok bigSkip_ok

end Go.Proofs.Ytdamdjhnhkmncaa

/-
  What the program's own asking of a lodger, and of a house, does.
-/
set_option linter.unusedSimpArgs false
namespace Go.Proofs.Ytdamdjhnhkmncaa
open Go.RowKit
attribute [local go_sem ↓] Go.wp_at_zero Go.wp_at_succ exec_app exec_lod exec_house exec_mapsA exec_allocL exec_storeL exec_idxM exec_look exec_upd
attribute [local go_sem] bigNext_ok bigSkip_ok

end Go.Proofs.Ytdamdjhnhkmncaa
