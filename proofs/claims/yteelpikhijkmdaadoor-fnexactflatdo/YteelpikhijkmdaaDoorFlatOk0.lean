/-
  A guest alone: what is bad, and what is told of it.
-/
import Derived.Test.YteelpikhijkmdaaDoorAs0
import Derived.Test.YteelpikhijkmdaaDoorMemTab0
import Derived.Test.YteelpikhijkmdaaDoorImplTabAt
namespace Go.Proofs.YteelpikhijkmdaaDoor
open Go.RowKit

theorem okE_entF (n : Int) : okE (entE n) = true := by
  unfold entE okE
  cases h : inW n
  · simp [pgW, wrW, h]
  · have := inW_bd h
    simp [pgW, h]
    omega
theorem okE_tabF (ms : List (List Int)) : (tabM ms).all okE = true := by
  rw [List.all_eq_true]
  intro x hx
  simp [tabM] at hx
  obtain ⟨k, _, rfl⟩ := hx
  exact okE_entF _

/-- Whether a place of a guest's memory is one; whether a word may be written there. -/
def goodR (ms : List (List Int)) (p o : Int) : Bool := tabB ms && placeB 6 p o
def goodW (ms : List (List Int)) (p o z : Int) : Bool := goodR ms p o && okZ z
theorem goodR_nat {ms : List (List Int)} {p o : Int} (h : goodR ms p o = true) : ∃ P O : Nat, p = P ∧ o = O ∧ P < 6 ∧ O < 4 := by
  simp only [goodR, Bool.and_eq_true] at h
  exact placeB_nat h.2
theorem goodR_tab {ms : List (List Int)} {p o : Int} (h : goodR ms p o = true) : tabB ms = true := by
  simp only [goodR, Bool.and_eq_true] at h
  exact h.1
theorem tabB_ok {ms : List (List Int)} (h : tabB ms = true) : okM ms = true ∧ ms.length = 6 := by
  simpa [tabB] using h
theorem goodR_of {ms : List (List Int)} {P O : Nat} (h : tabB ms = true) (hP : P < 6) (hO : O < 4) : goodR ms P O = true := by
  simp only [goodR, h, placeB, Bool.true_and]
  simp
  omega
theorem goodR_at {ms : List (List Int)} {p o : Int} (h : goodR ms p o = true) : atB ms p o = true := by
  have h1 := tabB_ok (goodR_tab h)
  simp only [goodR, Bool.and_eq_true] at h
  simp [atB, h1.1, h1.2, h.2]

/-- An error of the program's own kind, as a value. -/
def errV (g : Int) : Value := .iface 100 (.agg #[.int .i64 g])

set_option maxHeartbeats 1000000 in
theorem gotOf_any (g : Int) (w : World) (hg : ErrT w) :
    Calls Tryd.prog 31 #[errV g] w fun e w' => e = .returned (.int .i64 g) ∧ Below w.heap.size w w' := by
  have hgA : ErrT (w.alloc (.cells #[.int .i64 0] 100)) := hg.on ((Below.refl _ _).alloc (Nat.le_refl _) _)
  have hH := as_hit g ⟨w.heap.size, 0, none⟩ (.int .i64 0) (w.alloc (.cells #[.int .i64 0] 100)) hgA (by simp) (by simp)
  unfold errV
  clear hgA hg
  go_enter Tryd.func31, Tryd.ntmps31
  go_wp2_with (fail)
  refine hH.mono ?_
  rintro e w1 ⟨rfl, rfl⟩
  go_wp2
  go_ret
  refine ⟨rfl, ?_⟩
  (repeat' (with_reducible (first | exact Below.refl _ _ | apply Below.setCell | apply Below.alloc | apply below_drewN | apply Below.drew))) <;> (first | exact Nat.le_refl _ | (simp; done) | (simp; omega))

set_option maxHeartbeats 1000000 in
theorem checkRead_any (lo hi : Nat) (a : Option Addr) (len cap : Nat) (ms : List (List Int)) (p o : Int) (w : World) (h : IsMem w lo hi a len ms) (hh : hi ≤ w.heap.size) (hn : len ≤ 1048576) :
    Calls Tryd.prog 47 #[.slice a len cap, .int .i64 p, .int .i64 o] w fun e w' => e = .returned (bif goodR ms p o then .nilIface else errV (-3)) ∧ Below w.heap.size w w' := by
  have hl := h.1
  by_cases h6 : len = 6
  · subst h6
    cases ho : okM ms
    · rw [show goodR ms p o = false by simp [goodR, tabB, ho]]
      go_enter Tryd.func47, Tryd.ntmps47
      go_wp2_with (fail)
      refine (implMemOk lo hi a 6 cap ms _ h hh hn).mono ?_
      rintro e w1 ⟨rfl, B1⟩
      rw [ho]
      go_wp2
      go_ret
      refine ⟨rfl, ?_⟩
      (repeat' (with_reducible (first | exact Below.refl _ _ | apply Below.setCell | apply Below.alloc | apply below_drewN | apply Below.drew | refine Below.trans ?_ (Below.mono (by assumption) ?_)))) <;> (first | exact Nat.le_refl _ | (simp; done) | (simp; omega) | (simp at *; omega))
    · have hpb := placeOk_any 6 p o
      have hgr : goodR ms p o = placeB 6 p o := by simp [goodR, tabB, ho, hl]
      rw [hgr]
      cases hp : placeB 6 p o
      · rw [hp] at hpb
        go_enter Tryd.func47, Tryd.ntmps47
        go_wp2_with (fail)
        refine (implMemOk lo hi a 6 cap ms _ h hh hn).mono ?_
        rintro e w1 ⟨rfl, B1⟩
        rw [ho]
        go_wp2_with (fail)
        refine (hpb _).mono ?_
        rintro e w2 ⟨rfl, rfl⟩
        go_wp2
        go_ret
        refine ⟨rfl, ?_⟩
        (repeat' (with_reducible (first | exact Below.refl _ _ | apply Below.setCell | apply Below.alloc | apply below_drewN | apply Below.drew | refine Below.trans ?_ (Below.mono (by assumption) ?_)))) <;> (first | exact Nat.le_refl _ | (simp; done) | (simp; omega) | (simp at *; omega))
      · rw [hp] at hpb
        go_enter Tryd.func47, Tryd.ntmps47
        go_wp2_with (fail)
        refine (implMemOk lo hi a 6 cap ms _ h hh hn).mono ?_
        rintro e w1 ⟨rfl, B1⟩
        rw [ho]
        go_wp2_with (fail)
        refine (hpb _).mono ?_
        rintro e w2 ⟨rfl, rfl⟩
        go_wp2
        go_ret
        exact ⟨rfl, B1⟩
  · rw [show goodR ms p o = false by simp [goodR, tabB, hl, h6]]
    have h6' : ((len : Int) == 6) = false := by simp; omega
    go_enter Tryd.func47, Tryd.ntmps47
    go_wp2
    go_ret
    refine ⟨rfl, ?_⟩
    (repeat' (with_reducible (first | exact Below.refl _ _ | apply Below.setCell | apply Below.alloc | apply below_drewN | apply Below.drew))) <;> (first | exact Nat.le_refl _ | (simp; done) | (simp; omega))

set_option maxHeartbeats 1000000 in
theorem checkWrite_any (lo hi : Nat) (a : Option Addr) (len cap : Nat) (ms : List (List Int)) (p o z : Int) (w : World) (h : IsMem w lo hi a len ms) (hh : hi ≤ w.heap.size) (hn : len ≤ 1048576) :
    Calls Tryd.prog 30 #[.slice a len cap, .int .i64 p, .int .i64 o, .int .i64 z] w fun e w' => e = .returned (bif goodW ms p o z then .nilIface else errV (-3)) ∧ Below w.heap.size w w' := by
  have hC := checkRead_any lo hi a len cap ms p o w h hh hn
  cases hr : goodR ms p o
  · rw [hr] at hC
    rw [show goodW ms p o z = false by simp [goodW, hr]]
    unfold errV at hC
    go_enter Tryd.func30, Tryd.ntmps30
    go_wp2_with (fail)
    refine hC.mono ?_
    rintro e w1 ⟨rfl, B1⟩
    go_wp2
    go_ret
    exact ⟨rfl, B1⟩
  · rw [hr] at hC
    have hwo := implWordOk z
    rw [show goodW ms p o z = okZ z by simp [goodW, hr]]
    cases hz : okZ z
    · rw [hz] at hwo
      go_enter Tryd.func30, Tryd.ntmps30
      go_wp2_with (fail)
      refine hC.mono ?_
      rintro e w1 ⟨rfl, B1⟩
      go_wp2_with (fail)
      refine (hwo _).mono ?_
      rintro e w2 ⟨rfl, rfl⟩
      go_wp2
      go_ret
      refine ⟨rfl, ?_⟩
      (repeat' (with_reducible (first | exact Below.refl _ _ | apply Below.setCell | apply Below.alloc | apply below_drewN | apply Below.drew | refine Below.trans ?_ (Below.mono (by assumption) ?_)))) <;> (first | exact Nat.le_refl _ | (simp; done) | (simp; omega) | (simp at *; omega))
    · rw [hz] at hwo
      go_enter Tryd.func30, Tryd.ntmps30
      go_wp2_with (fail)
      refine hC.mono ?_
      rintro e w1 ⟨rfl, B1⟩
      go_wp2_with (fail)
      refine (hwo _).mono ?_
      rintro e w2 ⟨rfl, rfl⟩
      go_wp2
      go_ret
      exact ⟨rfl, B1⟩

/-- The entry of a page of the guest's own guest. -/
def entOf (ms : List (List Int)) (p : Int) : E3 := entE (atM ms (p.toNat / 4) (p.toNat % 4))
theorem entOf_bd {ms : List (List Int)} {p : Int} (h : (entOf ms p).1 = true) : 2 ≤ (entOf ms p).2.1 ∧ (entOf ms p).2.1 ≤ 5 := by
  unfold entOf entE at h ⊢
  have := inW_bd h
  simp only [pgW]
  rw [show inW (atM ms (p.toNat / 4) (p.toNat % 4)) = true from h]
  simp
  omega

set_option maxHeartbeats 1000000 in
theorem entryIn_at (lo hi : Nat) (a : Option Addr) (cap : Nat) (ms : List (List Int)) (P : Nat) (w : World) (h : IsMem w lo hi a 6 ms) (hh : hi ≤ w.heap.size) (ho : okM ms = true) (eh : Bool) (ep : Int) (ew : Bool) (hE : atE (tabM ms) P = (eh, ep, ew)) :
    Calls Tryd.prog 73 #[.slice a 6 cap, .int .i64 P] w fun e w' => e = .returned (bif eh then .tuple #[entV (eh, ep, ew), .nilIface] else .tuple #[entV (false, 0, false), errV (-1)]) ∧ Below w.heap.size w w' := by
  have hl : (tabM ms).length = 6 := tabM_len ms
  go_enter Tryd.func73, Tryd.ntmps73
  go_wp2_with (fail)
  refine (implMemTab_yes lo hi a cap ms _ (h.same (below_sameIn ((Below.refl w.heap.size w).alloc (Nat.le_refl _) _) hh)) (by simp; omega) ho).mono ?_
  rintro e w1 ⟨T, rfl, hT1, hT2, hEn, hR, B1⟩
  clear hR
  go_wp2_with (fail)
  refine (implTabAt T 0 6 6 (tabM ms) P _ hl hT2 hEn).mono ?_
  rintro e w2 ⟨rfl, B2⟩
  rw [hE]
  have B12 := B1.trans (B2.mono B1.size)
  obtain ⟨⟨c0, c1, c2⟩, ⟨f0, f1, f2⟩, hlt⟩ := keep6 B12 w.heap.size (by simp) (by simp)
  have B0 : Below w.heap.size w w2 := ((Below.refl w.heap.size w).alloc (Nat.le_refl _) _).trans (B12.mono (by simp))
  clear hE hl hEn B1 B2 B12 hT1 hT2 h ho
  unfold entV
  cases eh
  · go_wp2
    refine bodyPost_ret (v := .tuple #[.agg #[.bool false, .int .i64 0, .bool false], .iface 100 (.agg #[.int .i64 (-1)])]) ?res rfl ⟨rfl, ?_⟩
    case res => simp [results, Tryd.results73, go_sem, c0, c1, c2, hlt]
    (repeat' (with_reducible (first | exact Below.refl _ _ | apply Below.setCell | apply Below.alloc | apply below_drewN | apply Below.drew | refine Below.trans ?_ (Below.mono (by assumption) ?_)))) <;> (first | exact Nat.le_refl _ | (simp; done) | (simp; omega) | (simp at *; omega))
  · go_wp2
    refine bodyPost_ret (v := .tuple #[.agg #[.bool true, .int .i64 ep, .bool ew], .nilIface]) ?res rfl ⟨rfl, ?_⟩
    case res => simp [results, Tryd.results73, go_sem, c0, c1, c2, hlt]
    (repeat' (with_reducible (first | exact Below.refl _ _ | apply Below.setCell | apply Below.alloc | apply below_drewN | apply Below.drew | refine Below.trans ?_ (Below.mono (by assumption) ?_)))) <;> (first | exact Nat.le_refl _ | (simp; done) | (simp; omega) | (simp at *; omega))

theorem entryIn_any (lo hi : Nat) (a : Option Addr) (cap : Nat) (ms : List (List Int)) (P : Nat) (w : World) (h : IsMem w lo hi a 6 ms) (hh : hi ≤ w.heap.size) (ho : okM ms = true) (hP : P < 6) :
    Calls Tryd.prog 73 #[.slice a 6 cap, .int .i64 P] w fun e w' => e = .returned (bif (entOf ms P).1 then .tuple #[entV (entOf ms P), .nilIface] else .tuple #[entV (false, 0, false), errV (-1)]) ∧ Below w.heap.size w w' := by
  have hE : atE (tabM ms) P = entOf ms P := by
    have h5 : (P : Int) ≤ 5 := by omega
    have hg := tabM_get ms P hP
    rw [List.getD_eq_getElem?_getD] at hg
    simp [atE, okE_tabF, tabM_len, h5, hg, entOf]
  exact entryIn_at lo hi a cap ms P w h hh ho _ _ _ hE
end Go.Proofs.YteelpikhijkmdaaDoor
