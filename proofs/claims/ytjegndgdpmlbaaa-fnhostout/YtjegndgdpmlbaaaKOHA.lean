/-
  What the program's own HostLoad does.
-/
import Derived.Test.YtjegndgdpmlbaaaKOHostGive0
import Derived.Deep.DeepCutAuto
import Derived.Deep.RegionHeld3
import Derived.Deep.DrawnRows
import Derived.Deep.Light
namespace Go.Proofs.Ytjegndgdpmlbaaa
open Go.RowKit
attribute [local go_sem ↓] Go.wp_at_zero Go.wp_at_succ exec_lod exec_house
attribute [local go_sem] bigNext_ok

theorem implGuestsOk (n : Int) (w : World) : Calls Try.prog 76 #[.int .i64 n] w fun e w' => e = .returned (.bool (decide (1 ≤ n) && decide (n ≤ 2))) ∧ w' = w := by
  by_cases h1 : 1 ≤ n
  · by_cases h2 : n ≤ 2
    · rw [show (decide (1 ≤ n) && decide (n ≤ 2)) = true by simp [h1, h2]]
      go_enter Try.func76, Try.ntmps76
      go_wp2
      go_ret
      exact ⟨rfl, rfl⟩
    · rw [show (decide (1 ≤ n) && decide (n ≤ 2)) = false by simp [h2]]
      go_enter Try.func76, Try.ntmps76
      go_wp2
      go_ret
      exact ⟨rfl, rfl⟩
  · rw [show (decide (1 ≤ n) && decide (n ≤ 2)) = false by simp [h1]]
    go_enter Try.func76, Try.ntmps76
    go_wp2
    go_ret
    exact ⟨rfl, rfl⟩

/-- A guest whose pages are loaded, all of them out. -/
def ldG (ms : List (List Int)) (i : Nat) : Gst := ⟨List.replicate 6 noM, (ms.drop (i * 6)).take 6, List.replicate 6 noS⟩
/-- A lodger of noughts. -/
def zeroG : Gst := ⟨List.replicate 6 noM, zeroM 6, List.replicate 6 noS⟩
theorem infoL : (Try.prog.info? 91).map (fun i => (i.zero, i.size, i.bytes)) = some (some (.agg (lodC zeroG).toArray), 66, 528) := by kernel_rfl
theorem zeroG_sized : Sized zeroG := ⟨rfl, rfl, fun i hi => by show ((zeroM 6).getD i []).length = 4; rw [zeroM_get hi]; rfl, rfl⟩
theorem range_made (w : World) (cs : List Value) (n : Nat) (t : TypeId) (i : Nat) (hi : i < n) : (w.alloc (.cells (madeCells cs.toArray (n * cs.length)) t)).rangeAt w.heap.size (i * cs.length) cs := fun j v hj => by
  have hl := (List.getElem?_eq_some_iff.1 hj).1
  have hs := size_madeCells cs.toArray (n * cs.length)
  have hlt : i * cs.length + j < n * cs.length := by
    have := Nat.mul_le_mul_right cs.length (show i + 1 ≤ n by omega)
    rw [Nat.add_mul] at this
    omega
  have hel : (madeCells cs.toArray (n * cs.length))[i * cs.length + j]'(by omega) = v := by
    simp only [madeCells, Array.getElem_map, Array.getElem_range]
    have : (i * cs.length + j) % cs.length = j := by rw [Nat.mul_comm, Nat.mul_add_mod]; exact Nat.mod_eq_of_lt hl
    simp only [List.size_toArray, this]
    simp [hl, (List.getElem?_eq_some_iff.1 hj).2]
  simp [hs, hlt, hel]
/-- The making, building and storing of a house, kept shut. -/
def bigAlloc (P : Program) (t : TypeId) (w : World) : Result Value := (Instr.alloc t true (.tuple #[])).run P w
def bigBuild (P : Program) (t : TypeId) (parts : Array (Nat × Value)) (w : World) : Result Value := (Instr.build t parts).run P w
def bigStore (P : Program) (t : TypeId) (a v : Value) (w : World) : Result Unit := (Instr.storeAt t a v).run P w
def bigSkip : Result Unit → Result Next
  | .ok _ w => .ok .skip w
  | .halt h w => .halt h w
theorem bigSkip_ok (v : Unit) (w : World) : bigSkip (.ok v w) = .ok .skip w := rfl
theorem exec_allocH (ρ : Operand → Value) (dst : Option Tmp) (ty : TypeId) (pos : String) (after : Array _) (guard : Option _) (w : World) :
    (execOp ρ ⟨dst, .alloc 60, ty, pos, after, guard⟩).run Try.prog w = bigNext (bigAlloc Try.prog 60 w) := by
  unfold bigAlloc execOp
  simp only [Sem.run_bind]
  cases (Instr.alloc 60 true (.tuple #[])).run Try.prog w <;> rfl
theorem exec_buildH (ρ : Operand → Value) (dst : Option Tmp) (ty : TypeId) (pos : String) (after : Array _) (guard : Option _) (ps : Array (Nat × Operand)) (w : World) :
    (execOp ρ ⟨dst, .build 60 ps, ty, pos, after, guard⟩).run Try.prog w = bigNext (bigBuild Try.prog 60 (ps.map fun (i, x) => (i, ρ x)) w) := by
  unfold bigBuild execOp
  simp only [Sem.run_bind]
  cases (Instr.build 60 (ps.map fun (i, x) => (i, ρ x))).run Try.prog w <;> rfl
theorem exec_storeH (ρ : Operand → Value) (dst : Option Tmp) (ty : TypeId) (pos : String) (after : Array _) (guard : Option _) (x y : Operand) (w : World) :
    (execOp ρ ⟨dst, .store 60 x y, ty, pos, after, guard⟩).run Try.prog w = bigSkip (bigStore Try.prog 60 (ρ x) (ρ y) w) := by
  unfold bigStore execOp
  simp only [Sem.run_bind]
  cases (Instr.storeAt 60 (ρ x) (ρ y)).run Try.prog w <;> rfl
attribute [local go_sem ↓] exec_allocH exec_buildH exec_storeH
attribute [local go_sem] bigSkip_ok
end Go.Proofs.Ytjegndgdpmlbaaa

/-
  What the program's own HostLoad and HostNew do, at every argument.
-/
namespace Go.Proofs.Ytjegndgdpmlbaaa
open Go.RowKit

/-- Whether memory is loaded; what is loaded. -/
def loadB (ms : List (List Int)) : Bool := okM ms && ((ms.length % 6 == 0) && (decide (1 ≤ ms.length / 6) && decide (ms.length / 6 ≤ 2)))
def noH : Hst := ⟨[], [], 0⟩
def loadH (ms : List (List Int)) : Hst := bif loadB ms then ⟨zeroM 8, (List.range (ms.length / 6)).map (ldG ms), 0⟩ else noH
theorem ownHost_none (w : World) {lo hi : Nat} (h : lo ≤ hi) : OwnHost w lo hi (.slice none 0 0) (.slice none 0 0) noH :=
  ⟨none, 0, lo, lo, rfl, ⟨rfl, Or.inl rfl⟩, Nat.le_refl _, h, none, 0, rfl, Or.inl rfl⟩

theorem loadB_nat {ms : List (List Int)} {len : Nat} (hl : ms.length = len) : loadB ms = true ↔ ∃ n, len = n * 6 ∧ 1 ≤ n ∧ n ≤ 2 ∧ okM ms = true := by
  unfold loadB
  rw [hl]
  simp only [Bool.and_eq_true, beq_iff_eq, decide_eq_true_eq]
  constructor
  · rintro ⟨h1, h2, h3, h4⟩
    exact ⟨len / 6, by omega, h3, h4, h1⟩
  · rintro ⟨n, rfl, h1, h2, h3⟩
    exact ⟨h3, by omega, by omega, by omega⟩
theorem loadH_yes {ms : List (List Int)} {n : Nat} (hl : ms.length = n * 6) (h : loadB ms = true) : loadH ms = ⟨zeroM 8, (List.range n).map (ldG ms), 0⟩ := by
  rw [loadH, h, hl, Nat.mul_div_cancel _ (by omega)]; rfl

def newB (n : Int) : Bool := decide (1 ≤ n) && decide (n ≤ 2)
def newH (n : Int) : Hst := bif newB n then loadH (zeroM (n.toNat * 6)) else noH

theorem okM_zero (n : Nat) : okM (zeroM n) = true := by
  unfold okM
  rw [List.all_eq_true]
  intro x hx
  obtain ⟨_, rfl⟩ := List.mem_replicate.1 hx
  rfl

end Go.Proofs.Ytjegndgdpmlbaaa
