/-
  A guest alone: what is bad, and what is told of it.
-/
import Derived.Test.YtcdgahmfggnafafDoorAs0
import Derived.Test.YtcdgahmfggnafafDoorMemTab0
import Derived.Test.YtcdgahmfggnafafDoorImplTabAt
namespace Go.Proofs.YtcdgahmfggnafafDoor
open Go.RowKit

theorem okE_entF (n : Int) : okE (entE n) = true := by
  unfold entE okE
  cases h : inW n
  · simp [pgW, wrW, h]
  · have := inW_bd h
    simp [pgW, h]
    omega
theorem okE_tabF (ms : List (List Int)) : (tabM ms).all okE = true := by
  rw [List.all_eq_true]
  intro x hx
  simp [tabM] at hx
  obtain ⟨k, _, rfl⟩ := hx
  exact okE_entF _

/-- Whether a place of a guest's memory is one; whether a word may be written there. -/
def goodR (ms : List (List Int)) (p o : Int) : Bool := tabB ms && placeB 6 p o
def goodW (ms : List (List Int)) (p o z : Int) : Bool := goodR ms p o && okZ z
theorem goodR_nat {ms : List (List Int)} {p o : Int} (h : goodR ms p o = true) : ∃ P O : Nat, p = P ∧ o = O ∧ P < 6 ∧ O < 4 := by
  simp only [goodR, Bool.and_eq_true] at h
  exact placeB_nat h.2
theorem goodR_tab {ms : List (List Int)} {p o : Int} (h : goodR ms p o = true) : tabB ms = true := by
  simp only [goodR, Bool.and_eq_true] at h
  exact h.1
theorem tabB_ok {ms : List (List Int)} (h : tabB ms = true) : okM ms = true ∧ ms.length = 6 := by
  simpa [tabB] using h
theorem goodR_of {ms : List (List Int)} {P O : Nat} (h : tabB ms = true) (hP : P < 6) (hO : O < 4) : goodR ms P O = true := by
  simp only [goodR, h, placeB, Bool.true_and]
  simp
  omega
theorem goodR_at {ms : List (List Int)} {p o : Int} (h : goodR ms p o = true) : atB ms p o = true := by
  have h1 := tabB_ok (goodR_tab h)
  simp only [goodR, Bool.and_eq_true] at h
  simp [atB, h1.1, h1.2, h.2]

/-- An error of the program's own kind, as a value. -/
def errV (g : Int) : Value := .iface 50 (.agg #[.int .i64 g])

set_option maxHeartbeats 1000000 in
theorem gotOf_any (g : Int) (w : World) (hg : ErrT w) :
    Calls Tryd.prog 12 #[errV g] w fun e w' => e = .returned (.int .i64 g) ∧ Below w.heap.size w w' := by
  have hgA : ErrT (w.alloc (.cells #[.int .i64 0] 50)) := hg.on ((Below.refl _ _).alloc (Nat.le_refl _) _)
  have hH := as_hit g ⟨w.heap.size, 0, none⟩ (.int .i64 0) (w.alloc (.cells #[.int .i64 0] 50)) hgA (by simp) (by simp)
  unfold errV
  clear hgA hg
  go_enter Tryd.func12, Tryd.ntmps12
  go_wp2_with (fail)
  refine hH.mono ?_
  rintro e w1 ⟨rfl, rfl⟩
  go_wp2
  go_ret
  refine ⟨rfl, ?_⟩
  (repeat' (with_reducible (first | exact Below.refl _ _ | apply Below.setCell | apply Below.alloc | apply below_drewN | apply Below.drew))) <;> (first | exact Nat.le_refl _ | (simp; done) | (simp; omega))

set_option maxHeartbeats 1000000 in
theorem checkRead_any (lo hi : Nat) (a : Option Addr) (len cap : Nat) (ms : List (List Int)) (p o : Int) (w : World) (h : IsMem w lo hi a len ms) (hh : hi ≤ w.heap.size) (hn : len ≤ 1048576) :
    Calls Tryd.prog 11 #[.slice a len cap, .int .i64 p, .int .i64 o] w fun e w' => e = .returned (bif goodR ms p o then .nilIface else errV (-3)) ∧ Below w.heap.size w w' := by
  have hl := h.1
  by_cases h6 : len = 6
  · subst h6
    cases ho : okM ms
    · rw [show goodR ms p o = false by simp [goodR, tabB, ho]]
      go_enter Tryd.func11, Tryd.ntmps11
      go_wp2_with (fail)
      refine (implMemOk lo hi a 6 cap ms _ h hh hn).mono ?_
      rintro e w1 ⟨rfl, B1⟩
      rw [ho]
      go_wp2
      go_ret
      refine ⟨rfl, ?_⟩
      (repeat' (with_reducible (first | exact Below.refl _ _ | apply Below.setCell | apply Below.alloc | apply below_drewN | apply Below.drew | refine Below.trans ?_ (Below.mono (by assumption) ?_)))) <;> (first | exact Nat.le_refl _ | (simp; done) | (simp; omega) | (simp at *; omega))
    · have hpb := placeOk_any 6 p o
      have hgr : goodR ms p o = placeB 6 p o := by simp [goodR, tabB, ho, hl]
      rw [hgr]
      cases hp : placeB 6 p o
      · rw [hp] at hpb
        go_enter Tryd.func11, Tryd.ntmps11
        go_wp2_with (fail)
        refine (implMemOk lo hi a 6 cap ms _ h hh hn).mono ?_
        rintro e w1 ⟨rfl, B1⟩
        rw [ho]
        go_wp2_with (fail)
        refine (hpb _).mono ?_
        rintro e w2 ⟨rfl, rfl⟩
        go_wp2
        go_ret
        refine ⟨rfl, ?_⟩
        (repeat' (with_reducible (first | exact Below.refl _ _ | apply Below.setCell | apply Below.alloc | apply below_drewN | apply Below.drew | refine Below.trans ?_ (Below.mono (by assumption) ?_)))) <;> (first | exact Nat.le_refl _ | (simp; done) | (simp; omega) | (simp at *; omega))
      · rw [hp] at hpb
        go_enter Tryd.func11, Tryd.ntmps11
        go_wp2_with (fail)
        refine (implMemOk lo hi a 6 cap ms _ h hh hn).mono ?_
        rintro e w1 ⟨rfl, B1⟩
        rw [ho]
        go_wp2_with (fail)
        refine (hpb _).mono ?_
        rintro e w2 ⟨rfl, rfl⟩
        go_wp2
        go_ret
        exact ⟨rfl, B1⟩
  · rw [show goodR ms p o = false by simp [goodR, tabB, hl, h6]]
    have h6' : ((len : Int) == 6) = false := by simp; omega
    go_enter Tryd.func11, Tryd.ntmps11
    go_wp2
    go_ret
    refine ⟨rfl, ?_⟩
    (repeat' (with_reducible (first | exact Below.refl _ _ | apply Below.setCell | apply Below.alloc | apply below_drewN | apply Below.drew))) <;> (first | exact Nat.le_refl _ | (simp; done) | (simp; omega))

/-- The entry of a page of the guest's own guest. -/
def entOf (ms : List (List Int)) (p : Int) : E3 := entE (atM ms (p.toNat / 4) (p.toNat % 4))
theorem entOf_bd {ms : List (List Int)} {p : Int} (h : (entOf ms p).1 = true) : 2 ≤ (entOf ms p).2.1 ∧ (entOf ms p).2.1 ≤ 5 := by
  unfold entOf entE at h ⊢
  have := inW_bd h
  simp only [pgW]
  rw [show inW (atM ms (p.toNat / 4) (p.toNat % 4)) = true from h]
  simp
  omega

end Go.Proofs.YtcdgahmfggnafafDoor
