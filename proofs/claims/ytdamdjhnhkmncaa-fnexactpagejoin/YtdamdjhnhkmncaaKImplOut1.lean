/-
  What the program's own takeOut does.
-/
import Derived.Test.YtdamdjhnhkmncaaKImplOut0
import Derived.Test.YtdamdjhnhkmncaaKD
set_option linter.unusedSimpArgs false
namespace Go.Proofs.Ytdamdjhnhkmncaa
open Go.RowKit
attribute [local go_sem ↓] Go.wp_at_zero Go.wp_at_succ exec_app exec_lod exec_house exec_mapsA exec_allocL exec_storeL exec_buildL exec_idxM exec_look exec_upd exec_allocH exec_buildH exec_storeH exec_bsL exec_storeQ exec_loadQ exec_idxQ
attribute [local go_sem] bigNext_ok bigSkip_ok

end Go.Proofs.Ytdamdjhnhkmncaa
