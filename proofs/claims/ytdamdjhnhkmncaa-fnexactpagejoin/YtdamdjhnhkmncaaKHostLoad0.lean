/-
  What the program's own HostLoad does.
-/
import Derived.Test.YtdamdjhnhkmncaaKHostGive0
import Derived.Deep.DeepCutAuto
import Derived.Deep.RegionHeld3
import Derived.Deep.DrawnRows
import Derived.Deep.Light
namespace Go.Proofs.Ytdamdjhnhkmncaa
open Go.RowKit
attribute [local go_sem ↓] Go.wp_at_zero Go.wp_at_succ exec_lod exec_house
attribute [local go_sem] bigNext_ok

theorem implGuestsOk (n : Int) (w : World) : Calls Try.prog 46 #[.int .i64 n] w fun e w' => e = .returned (.bool (decide (1 ≤ n) && decide (n ≤ 2))) ∧ w' = w := by
  by_cases h1 : 1 ≤ n
  · by_cases h2 : n ≤ 2
    · rw [show (decide (1 ≤ n) && decide (n ≤ 2)) = true by simp [h1, h2]]
      go_enter Try.func46, Try.ntmps46
      go_wp2
      go_ret
      exact ⟨rfl, rfl⟩
    · rw [show (decide (1 ≤ n) && decide (n ≤ 2)) = false by simp [h2]]
      go_enter Try.func46, Try.ntmps46
      go_wp2
      go_ret
      exact ⟨rfl, rfl⟩
  · rw [show (decide (1 ≤ n) && decide (n ≤ 2)) = false by simp [h1]]
    go_enter Try.func46, Try.ntmps46
    go_wp2
    go_ret
    exact ⟨rfl, rfl⟩

/-- A lodger of noughts. -/
def zeroG : Gst := ⟨List.replicate 6 noM, zeroM 6, List.replicate 6 noS⟩
theorem infoL : (Try.prog.info? 84).map (fun i => (i.zero, i.size, i.bytes)) = some (some (.agg (lodC zeroG).toArray), 66, 528) := by kernel_rfl
theorem zeroG_sized : Sized zeroG := ⟨rfl, rfl, fun i hi => by show ((zeroM 6).getD i []).length = 4; rw [zeroM_get hi]; rfl, rfl⟩
/-- The making, building and storing of a house, kept shut. -/
def bigAlloc (P : Program) (t : TypeId) (w : World) : Result Value := (Instr.alloc t true (.tuple #[])).run P w
def bigBuild (P : Program) (t : TypeId) (parts : Array (Nat × Value)) (w : World) : Result Value := (Instr.build t parts).run P w
def bigStore (P : Program) (t : TypeId) (a v : Value) (w : World) : Result Unit := (Instr.storeAt t a v).run P w
def bigSkip : Result Unit → Result Next
  | .ok _ w => .ok .skip w
  | .halt h w => .halt h w
theorem bigSkip_ok (v : Unit) (w : World) : bigSkip (.ok v w) = .ok .skip w := rfl
theorem exec_allocH (ρ : Operand → Value) (dst : Option Tmp) (ty : TypeId) (pos : String) (after : Array _) (guard : Option _) (w : World) :
    (execOp ρ ⟨dst, .alloc 74, ty, pos, after, guard⟩).run Try.prog w = bigNext (bigAlloc Try.prog 74 w) := by
  unfold bigAlloc execOp
  simp only [Sem.run_bind]
  cases (Instr.alloc 74 true (.tuple #[])).run Try.prog w <;> rfl
theorem exec_buildH (ρ : Operand → Value) (dst : Option Tmp) (ty : TypeId) (pos : String) (after : Array _) (guard : Option _) (ps : Array (Nat × Operand)) (w : World) :
    (execOp ρ ⟨dst, .build 74 ps, ty, pos, after, guard⟩).run Try.prog w = bigNext (bigBuild Try.prog 74 (ps.map fun (i, x) => (i, ρ x)) w) := by
  unfold bigBuild execOp
  simp only [Sem.run_bind]
  cases (Instr.build 74 (ps.map fun (i, x) => (i, ρ x))).run Try.prog w <;> rfl
theorem exec_storeH (ρ : Operand → Value) (dst : Option Tmp) (ty : TypeId) (pos : String) (after : Array _) (guard : Option _) (x y : Operand) (w : World) :
    (execOp ρ ⟨dst, .store 74 x y, ty, pos, after, guard⟩).run Try.prog w = bigSkip (bigStore Try.prog 74 (ρ x) (ρ y) w) := by
  unfold bigStore execOp
  simp only [Sem.run_bind]
  cases (Instr.storeAt 74 (ρ x) (ρ y)).run Try.prog w <;> rfl
attribute [local go_sem ↓] exec_allocH exec_buildH exec_storeH
attribute [local go_sem] bigSkip_ok

end Go.Proofs.Ytdamdjhnhkmncaa
