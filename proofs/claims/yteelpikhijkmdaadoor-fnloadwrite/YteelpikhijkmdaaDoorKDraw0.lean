/-
  What a reader that was just laid is told of.
-/
import Derived.Test.YteelpikhijkmdaaDoorKReader
namespace Go.Proofs.YteelpikhijkmdaaDoor
open Go.RowKit

/-- What the walk is told of a slice of bytes that came in. -/
def IsRow (k : IntKind) (w : World) (a : Option Addr) (len cap : Nat) (zs : List Int) : Prop :=
  (a = none ∧ len = 0 ∧ cap = 0 ∧ zs = []) ∨
  ∃ x, a = some x ∧ len ≤ cap ∧ cap ≤ maxLen ∧ zs.length = cap ∧ (∀ i, i < zs.length → w.cell? (x.add i) = some (.int k (zs.getD i 0))) ∧ ∀ n ∈ zs, (Lit.int k n).wf = true

/-- A reader that was just laid, over bytes that came in. -/
theorem rd_new {w : World} {a : Option Addr} {len cap len' : Nat} {zs : List Int} (h : IsRow .u8 w a len cap zs) (hl : len' ≤ len) (k : Nat) (t : TypeId) :
    Rd (w.alloc (.cells #[.slice a len' cap, .int .i64 k] t)) w.heap.size k := by
  refine ⟨a, len', cap, by simp, by simp, by simp, fun h0 => ?_⟩
  rcases h with ⟨_, rfl, _, _⟩ | ⟨x, rfl, hle, hm, hz, hc, hw⟩
  · omega
  · obtain ⟨b, off, spot⟩ := x
    have hc0 := hc 0 (by omega)
    have hspot : spot = none := by simpa [Addr.add] using World.cell?_spot hc0
    subst hspot
    refine ⟨b, off, rfl, ?_, fun i hi => ?_⟩
    · exact World.block_lt_of_cell? _ _ hc0
    · have hci := hc i (by omega)
      have e : (⟨b, off, none⟩ : Addr).add i = ⟨b, off + i, none⟩ := by by_cases h : i = 0 <;> simp [Addr.add, h]
      have hci' : w.cell? ⟨b, off + i, none⟩ = some (.int .u8 (zs.getD i 0)) := by rw [← e]; exact hci
      have hwf := hw (zs.getD i 0) (by rw [List.getD_eq_getElem?_getD, List.getElem?_eq_getElem (by omega)]; simp)
      have hbd := bounds_u8 hwf
      refine ⟨zs.getD i 0, ?_, hbd.1, hbd.2⟩
      rw [World.cell?_alloc_lt _ _ _ (World.block_lt_of_cell? _ _ hci')]
      exact hci'

set_option maxHeartbeats 400000 in
theorem open_any (a : Option Addr) (len cap : Nat) (zs : List Int) (w : World) (h : IsRow .u8 w a len cap zs) :
    Calls Tryd.prog 40 #[.slice a len cap] w fun e w' => e = .returned (.pointer (some ⟨w.heap.size, 0, none⟩)) ∧ ∃ len', len' ≤ len ∧ w' = w.alloc (.cells #[.slice a len' cap, .int .i64 0] 115) := by
  by_cases h2 : (2000 : Int) < (len : Int)
  · rcases h with ⟨_, rfl, _, _⟩ | ⟨x, rfl, hle, hm, hz, hc, hw⟩
    · omega
    · unfold maxLen at hm
      go_enter Tryd.func40, Tryd.ntmps40
      go_wp2
      go_ret
      exact ⟨rfl, 2000, by omega, rfl⟩
  · go_enter Tryd.func40, Tryd.ntmps40
    go_wp2
    go_ret
    exact ⟨rfl, len, Nat.le_refl _, rfl⟩

end Go.Proofs.YteelpikhijkmdaaDoor
