/-
  What the program's own HostForget answers.
-/
import Derived.Test.YtdamdjhnhkmncaaKM
set_option linter.unusedSimpArgs false
namespace Go.Proofs.Ytdamdjhnhkmncaa
open Go.RowKit
attribute [local go_sem ↓] Go.wp_at_zero Go.wp_at_succ exec_app exec_lod exec_house exec_mapsA exec_allocL exec_storeL exec_buildL exec_idxM exec_look exec_upd exec_allocH exec_buildH exec_storeH exec_bsL
attribute [local go_sem] bigNext_ok bigSkip_ok

def noSs : List S4 := List.replicate 6 noS
def forgetH (h : Hst) (G : Int) : Hst := bif seeB h G then setG h G.toNat { h.guests.getD G.toNat noG with shades := noSs } else noH
theorem shaped_HostForget {h : Hst} {G : Int} : Shaped (forgetH h G) := by
  rw [forgetH]
  cases hb : seeB h G
  · exact shaped_no
  · simp only [seeB, Bool.and_eq_true, decide_eq_true_eq] at hb
    obtain ⟨ho, h0, h1⟩ := hb
    obtain ⟨⟨s1, s2, s3, s4⟩, _⟩ := okHost_guest ho (show G.toNat < h.guests.length by omega)
    exact shaped_setG (shaped_ok ho) ⟨s1, s2, s3, rfl⟩

theorem exec_storeQ (ρ : Operand → Value) (dst : Option Tmp) (ty : TypeId) (pos : String) (after : Array _) (guard : Option _) (a x : Operand) (w : World) :
    (execOp ρ ⟨dst, .store 82 a x, ty, pos, after, guard⟩).run Try.prog w = bigSkip (bigStore Try.prog 82 (ρ a) (ρ x) w) := by
  unfold bigStore execOp
  simp only [Sem.run_bind]
  cases (Instr.storeAt 82 (ρ a) (ρ x)).run Try.prog w <;> rfl
attribute [local go_sem ↓] exec_storeQ
theorem storeQ (w : World) (L o : Nat) (ss : List S4) (hl : ss.length = 6) (ht : w.there L o 24) : bigStore Try.prog 82 (.pointer (some ⟨L, o, none⟩)) (.agg (quadsC ss).toArray) w = .ok () (w.setCells L o (quadsC ss)) := by
  have hq : (quadsC ss).length = 24 := by rw [quadsC_len, hl]
  have := run_storeAt_mid (P := Try.prog) w L o 82 (quadsC ss).toArray (by rw [show (quadsC ss).toArray.size = 24 by simp [hq]]; exact ht) (by rw [show (quadsC ss).toArray.size = 24 by simp [hq]]; kernel_rfl) (all_oneCell_toArray (quadsC_one ss))
  simpa [bigStore] using this

end Go.Proofs.Ytdamdjhnhkmncaa
