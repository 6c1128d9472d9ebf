/-
  What the program's own spotOf and PageOut do.
-/
import Derived.Test.YtdamdjhnhkmncaaKImplOut1
import Derived.Test.YtdamdjhnhkmncaaKD
set_option linter.unusedSimpArgs false
namespace Go.Proofs.Ytdamdjhnhkmncaa
open Go.RowKit
attribute [local go_sem ↓] Go.wp_at_zero Go.wp_at_succ exec_app exec_lod exec_house exec_mapsA exec_allocL exec_storeL exec_buildL exec_idxM exec_look exec_upd exec_allocH exec_buildH exec_storeH exec_bsL exec_storeQ exec_loadQ exec_idxQ
attribute [local go_sem] bigNext_ok bigSkip_ok

theorem lods_block {w w' : World} {L n : Nat} {gs : List Gst} (h : LodsAt w L n gs) (ht : w.there L 0 (n * 66)) (e : w'.heap[L]? = w.heap[L]?) (hs : L < w'.heap.size) : LodsAt w' L n gs ∧ w'.there L 0 (n * 66) :=
  ⟨⟨h.1, hs, fun i hi => ⟨(h.2.2 i hi).1, fun j v hj => (World.cell?_of_block (a := ⟨L, i * 66 + j, none⟩) e).trans ((h.2.2 i hi).2 j v hj)⟩⟩, fun j hj => by
    rw [World.cell?_of_block (a := ⟨L, 0 + j, none⟩) e, World.frozen?_of_block (a := ⟨L, 0 + j, none⟩) e]
    exact ht j hj⟩

end Go.Proofs.Ytdamdjhnhkmncaa
