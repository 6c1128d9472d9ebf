/-
  What the program's own text of one entry is.
-/
import Derived.Test.YtfiailnlkhonnaaDoorEnts0
namespace Go.Proofs.YtfiailnlkhonnaaDoor
open Go.RowKit

theorem method_gapText (w : World) : Sem.run Tryd.prog (method 214 59 (.agg #[]) "loop.example/casket/impl.text") w = .ok (80, .agg #[]) w := by kernel_rfl
theorem method_leadText (p : Int) (b : Bool) (w : World) : Sem.run Tryd.prog (method 214 61 (.agg #[.int .i64 p, .bool b]) "loop.example/casket/impl.text") w = .ok (83, .agg #[.int .i64 p, .bool b]) w := by kernel_rfl

/-- The text of an entry, as bytes. -/
def txt (e : E3) : ByteArray :=
  bif e.1 then (bif e.2.2 then ⟨#[UInt8.ofNat (48 + e.2.1.toNat), 119]⟩ else ⟨#[UInt8.ofNat (48 + e.2.1.toNat)]⟩) else ⟨#[45]⟩

set_option maxHeartbeats 2000000 in
theorem leadText (p : Int) (b : Bool) (w : World) (h0 : 0 ≤ p) (h5 : p ≤ 5) :
    Calls Tryd.prog 83 #[.agg #[.int .i64 p, .bool b]] w fun e w' => e = .returned (.string (txt (true, p, b))) ∧ Below w.heap.size w w' := by
  have hp : p = 0 ∨ p = 1 ∨ p = 2 ∨ p = 3 ∨ p = 4 ∨ p = 5 := by omega
  clear h0 h5
  rcases hp with rfl | rfl | rfl | rfl | rfl | rfl <;> cases b
  all_goals
    go_enter Tryd.func83, Tryd.ntmps83
    go_wp2
    go_ret
    refine ⟨rfl, ?_⟩
    (repeat' (with_reducible (first | exact Below.refl _ _ | apply Below.setCell | apply Below.alloc | apply below_drewN | apply Below.drew))) <;> (first | exact Nat.le_refl _ | (simp; done) | (simp; omega))

set_option maxHeartbeats 400000 in
theorem gapText (w : World) :
    Calls Tryd.prog 80 #[.agg #[]] w fun e w' => e = .returned (.string (txt (false, 0, false))) ∧ Below w.heap.size w w' := by
  go_enter Tryd.func80, Tryd.ntmps80
  go_wp2
  go_ret
  refine ⟨rfl, ?_⟩
  (repeat' (with_reducible (first | exact Below.refl _ _ | apply Below.setCell | apply Below.alloc | apply below_drewN | apply Below.drew))) <;> (first | exact Nat.le_refl _ | (simp; done) | (simp; omega))

theorem conv1 (c : Int) (w : World) :
    Sem.run Tryd.prog (convert 22 9 (.slice (some ⟨w.heap.size, 0, none⟩) 1 1)) (w.alloc (.cells #[.int .u8 c] 5)) = .ok (.string ⟨#[UInt8.ofNat c.toNat]⟩) (w.alloc (.cells #[.int .u8 c] 5)) := by
  rw [run_convert_bytes_string _ 22 9 5 _ 1 1 Tryd.underlying22 Tryd.underlying5 Tryd.underlying9]
  rw [run_bytesToString _ _ 1 1 [c] (by simp [loadCells, go_sem])]
  rfl

set_option maxHeartbeats 2000000 in
theorem dec_any (p : Int) (w : World) (h0 : 0 ≤ p) (h5 : p ≤ 5) :
    Calls Tryd.prog 18 #[.int .i64 p] w fun e w' => e = .returned (.string (txt (true, p, false))) ∧ Below w.heap.size w w' := by
  have hp : p = 0 ∨ p = 1 ∨ p = 2 ∨ p = 3 ∨ p = 4 ∨ p = 5 := by omega
  clear h0 h5
  have hc := conv1
  rcases hp with rfl | rfl | rfl | rfl | rfl | rfl
  all_goals
    go_enter Tryd.func18, Tryd.ntmps18
    go_wp2
    go_ret
    refine ⟨rfl, ?_⟩
    (repeat' (with_reducible (first | exact Below.refl _ _ | apply Below.setCell | apply Below.alloc | apply below_drewN | apply Below.drew))) <;> (first | exact Nat.le_refl _ | (simp; done) | (simp; omega))
end Go.Proofs.YtfiailnlkhonnaaDoor
