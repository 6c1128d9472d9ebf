/-
  A guest alone: what is bad, and what is told of it.
-/
import Derived.Test.YteelpikhijkmdaaDoorKAs0
import Derived.Test.YteelpikhijkmdaaDoorKPA
import Derived.Test.YteelpikhijkmdaaDoorKImplTabAt
namespace Go.Proofs.YteelpikhijkmdaaDoor
open Go.RowKit

/-- Whether a place of a guest's memory is one; whether a word may be written there. -/
def goodR (ms : List (List Int)) (p o : Int) : Bool := tabB ms && placeB 6 p o
def goodW (ms : List (List Int)) (p o z : Int) : Bool := goodR ms p o && okZ z
theorem goodR_nat {ms : List (List Int)} {p o : Int} (h : goodR ms p o = true) : ∃ P O : Nat, p = P ∧ o = O ∧ P < 6 ∧ O < 4 := by
  simp only [goodR, Bool.and_eq_true] at h
  exact placeB_nat h.2
theorem goodR_tab {ms : List (List Int)} {p o : Int} (h : goodR ms p o = true) : tabB ms = true := by
  simp only [goodR, Bool.and_eq_true] at h
  exact h.1
theorem tabB_ok {ms : List (List Int)} (h : tabB ms = true) : okM ms = true ∧ ms.length = 6 := by
  simpa [tabB] using h
theorem goodR_at {ms : List (List Int)} {p o : Int} (h : goodR ms p o = true) : atB ms p o = true := by
  have h1 := tabB_ok (goodR_tab h)
  simp only [goodR, Bool.and_eq_true] at h
  simp [atB, h1.1, h1.2, h.2]

/-- An error of the program's own kind, as a value. -/
def errV (g : Int) : Value := .iface 100 (.agg #[.int .i64 g])

set_option maxHeartbeats 1000000 in
theorem gotOf_any (g : Int) (w : World) (hg : ErrT w) :
    Calls Tryd.prog 31 #[errV g] w fun e w' => e = .returned (.int .i64 g) ∧ Below w.heap.size w w' := by
  have hgA : ErrT (w.alloc (.cells #[.int .i64 0] 100)) := hg.on ((Below.refl _ _).alloc (Nat.le_refl _) _)
  have hH := as_hit g ⟨w.heap.size, 0, none⟩ (.int .i64 0) (w.alloc (.cells #[.int .i64 0] 100)) hgA (by simp) (by simp)
  unfold errV
  clear hgA hg
  go_enter Tryd.func31, Tryd.ntmps31
  go_wp2_with (fail)
  refine hH.mono ?_
  rintro e w1 ⟨rfl, rfl⟩
  go_wp2
  go_ret
  refine ⟨rfl, ?_⟩
  (repeat' (with_reducible (first | exact Below.refl _ _ | apply Below.setCell | apply Below.alloc | apply below_drewN | apply Below.drew))) <;> (first | exact Nat.le_refl _ | (simp; done) | (simp; omega))

set_option maxHeartbeats 1000000 in
theorem checkRead_any (lo hi : Nat) (a : Option Addr) (len cap : Nat) (ms : List (List Int)) (p o : Int) (w : World) (h : IsMem w lo hi a len ms) (hh : hi ≤ w.heap.size) (hn : len ≤ 1048576) :
    Calls Tryd.prog 47 #[.slice a len cap, .int .i64 p, .int .i64 o] w fun e w' => e = .returned (bif goodR ms p o then .nilIface else errV (-3)) ∧ Below w.heap.size w w' := by
  have hl := h.1
  by_cases h6 : len = 6
  · subst h6
    cases ho : okM ms
    · rw [show goodR ms p o = false by simp [goodR, tabB, ho]]
      go_enter Tryd.func47, Tryd.ntmps47
      go_wp2_with (fail)
      refine (implMemOk lo hi a 6 cap ms _ h hh hn).mono ?_
      rintro e w1 ⟨rfl, B1⟩
      rw [ho]
      go_wp2
      go_ret
      refine ⟨rfl, ?_⟩
      (repeat' (with_reducible (first | exact Below.refl _ _ | apply Below.setCell | apply Below.alloc | apply below_drewN | apply Below.drew | refine Below.trans ?_ (Below.mono (by assumption) ?_)))) <;> (first | exact Nat.le_refl _ | (simp; done) | (simp; omega) | (simp at *; omega))
    · have hpb := placeOk_any 6 p o
      have hgr : goodR ms p o = placeB 6 p o := by simp [goodR, tabB, ho, hl]
      rw [hgr]
      cases hp : placeB 6 p o
      · rw [hp] at hpb
        go_enter Tryd.func47, Tryd.ntmps47
        go_wp2_with (fail)
        refine (implMemOk lo hi a 6 cap ms _ h hh hn).mono ?_
        rintro e w1 ⟨rfl, B1⟩
        rw [ho]
        go_wp2_with (fail)
        refine (hpb _).mono ?_
        rintro e w2 ⟨rfl, rfl⟩
        go_wp2
        go_ret
        refine ⟨rfl, ?_⟩
        (repeat' (with_reducible (first | exact Below.refl _ _ | apply Below.setCell | apply Below.alloc | apply below_drewN | apply Below.drew | refine Below.trans ?_ (Below.mono (by assumption) ?_)))) <;> (first | exact Nat.le_refl _ | (simp; done) | (simp; omega) | (simp at *; omega))
      · rw [hp] at hpb
        go_enter Tryd.func47, Tryd.ntmps47
        go_wp2_with (fail)
        refine (implMemOk lo hi a 6 cap ms _ h hh hn).mono ?_
        rintro e w1 ⟨rfl, B1⟩
        rw [ho]
        go_wp2_with (fail)
        refine (hpb _).mono ?_
        rintro e w2 ⟨rfl, rfl⟩
        go_wp2
        go_ret
        exact ⟨rfl, B1⟩
  · rw [show goodR ms p o = false by simp [goodR, tabB, hl, h6]]
    have h6' : ((len : Int) == 6) = false := by simp; omega
    go_enter Tryd.func47, Tryd.ntmps47
    go_wp2
    go_ret
    refine ⟨rfl, ?_⟩
    (repeat' (with_reducible (first | exact Below.refl _ _ | apply Below.setCell | apply Below.alloc | apply below_drewN | apply Below.drew))) <;> (first | exact Nat.le_refl _ | (simp; done) | (simp; omega))

set_option maxHeartbeats 1000000 in
theorem checkWrite_any (lo hi : Nat) (a : Option Addr) (len cap : Nat) (ms : List (List Int)) (p o z : Int) (w : World) (h : IsMem w lo hi a len ms) (hh : hi ≤ w.heap.size) (hn : len ≤ 1048576) :
    Calls Tryd.prog 30 #[.slice a len cap, .int .i64 p, .int .i64 o, .int .i64 z] w fun e w' => e = .returned (bif goodW ms p o z then .nilIface else errV (-3)) ∧ Below w.heap.size w w' := by
  have hC := checkRead_any lo hi a len cap ms p o w h hh hn
  cases hr : goodR ms p o
  · rw [hr] at hC
    rw [show goodW ms p o z = false by simp [goodW, hr]]
    unfold errV at hC
    go_enter Tryd.func30, Tryd.ntmps30
    go_wp2_with (fail)
    refine hC.mono ?_
    rintro e w1 ⟨rfl, B1⟩
    go_wp2
    go_ret
    exact ⟨rfl, B1⟩
  · rw [hr] at hC
    have hwo := implWordOk z
    rw [show goodW ms p o z = okZ z by simp [goodW, hr]]
    cases hz : okZ z
    · rw [hz] at hwo
      go_enter Tryd.func30, Tryd.ntmps30
      go_wp2_with (fail)
      refine hC.mono ?_
      rintro e w1 ⟨rfl, B1⟩
      go_wp2_with (fail)
      refine (hwo _).mono ?_
      rintro e w2 ⟨rfl, rfl⟩
      go_wp2
      go_ret
      refine ⟨rfl, ?_⟩
      (repeat' (with_reducible (first | exact Below.refl _ _ | apply Below.setCell | apply Below.alloc | apply below_drewN | apply Below.drew | refine Below.trans ?_ (Below.mono (by assumption) ?_)))) <;> (first | exact Nat.le_refl _ | (simp; done) | (simp; omega) | (simp at *; omega))
    · rw [hz] at hwo
      go_enter Tryd.func30, Tryd.ntmps30
      go_wp2_with (fail)
      refine hC.mono ?_
      rintro e w1 ⟨rfl, B1⟩
      go_wp2_with (fail)
      refine (hwo _).mono ?_
      rintro e w2 ⟨rfl, rfl⟩
      go_wp2
      go_ret
      exact ⟨rfl, B1⟩

end Go.Proofs.YteelpikhijkmdaaDoor
