/-
  What the program's own handing out of a host does.
-/
import Derived.Test.YtjegndgdpmlbaaaKOHostOut0
import Derived.Test.YtjegndgdpmlbaaaKOC
set_option linter.unusedSimpArgs false
set_option linter.unnecessarySimpa false
namespace Go.Proofs.Ytjegndgdpmlbaaa
open Go.RowKit
attribute [local go_sem ↓] Go.wp_at_zero Go.wp_at_succ exec_lod exec_house
attribute [local go_sem] bigNext_ok

theorem infoG : (Try.prog.info? 39).map (fun i => (i.zero, i.size, i.bytes)) = some (some (.agg #[.slice none 0 0, .slice none 0 0, .slice none 0 0]), 3, 72) := by kernel_rfl

theorem cellk_offK {w : World} {b b' i j : Nat} {u v : Value} (h : w.cell? ⟨b, i, none⟩ = some v) (hb : b ≠ b') : (w.setCell ⟨b', j, none⟩ u).cell? ⟨b, i, none⟩ = some v := by rw [cell_off hb]; exact h

/-- A house as its value's block has it. -/
def HouseAt (w : World) (b : Nat) (fs : List (List Int)) (v : Value) (hand : Int) : Prop := w.rangeAt b 0 (houseC fs v hand)
theorem HouseAt.below {w w' : World} {b : Nat} {fs : List (List Int)} {v : Value} {hand : Int} (h : HouseAt w b fs v hand) (hB : Below w.heap.size w w') : HouseAt w' b fs v hand := range_belowK h hB
theorem HouseAt.lods {w : World} {b : Nat} {fs : List (List Int)} {v : Value} {hand : Int} (h : HouseAt w b fs v hand) (hf : fs.length = 8) : w.cell? ⟨b, 32, none⟩ = some v ∧ w.cell? ⟨b, 33, none⟩ = some (.int .i64 hand) := by
  have := range_right h (n := 32) (by rw [sheetsC_len, hf])
  exact ⟨this 0 _ rfl, this 1 _ rfl⟩

theorem HouseAt.allocK {w : World} {b : Nat} {fs : List (List Int)} {v : Value} {hand : Int} (h : HouseAt w b fs v hand) (ob : Obj) : HouseAt (w.alloc ob) b fs v hand := World.rangeAt_alloc h ob
theorem HouseAt.drewK {w : World} {b : Nat} {fs : List (List Int)} {v : Value} {hand : Int} (h : HouseAt w b fs v hand) : HouseAt w.drew b fs v hand := range_drewK h
theorem HouseAt.otherK {w : World} {b b' j : Nat} {u : Value} {fs : List (List Int)} {v : Value} {hand : Int} (h : HouseAt w b fs v hand) (hb : b ≠ b') : HouseAt (w.setCell ⟨b', j, none⟩ u) b fs v hand := range_otherK h hb

end Go.Proofs.Ytjegndgdpmlbaaa
