/-
  What the functions from a word to an entry do: the program's own and the given one.
-/
import Derived.Test.YteelpikhijkmdaaDoorBase
namespace Go.Proofs.YteelpikhijkmdaaDoor
open Go.RowKit

/-- An entry as a value. -/
def ent (h : Bool) (p : Int) (b : Bool) : Value := .agg #[.bool h, .int .i64 p, .bool b]

set_option maxHeartbeats 400000 in
theorem leadEntry (p : Int) (b : Bool) (w : World) :
    Calls Tryd.prog 104 #[.agg #[.int .i64 p, .bool b]] w fun e w' => e = .returned (.agg #[.bool true, .int .i64 p, .bool b]) ∧ ∃ o1 o2, w' = (w.alloc o1).alloc o2 := by
  go_enter Tryd.func104, Tryd.ntmps104
  go_wp2
  exact bodyPost_ret (v := .agg #[.bool true, .int .i64 p, .bool b]) (by simp [results, Tryd.results104, go_sem]) rfl ⟨rfl, _, _, rfl⟩

set_option maxHeartbeats 400000 in
theorem leadNum_t (p : Int) (w : World) (h1 : -1000 ≤ p) (h2 : p ≤ 1000) :
    Calls Tryd.prog 103 #[.agg #[.int .i64 p, .bool true]] w fun e w' => e = .returned (.int .i64 (1 + 2 * p + 1)) ∧ ∃ o1, w' = w.alloc o1 := by
  go_enter Tryd.func103, Tryd.ntmps103
  go_wp2
  go_ret
  exact ⟨rfl, _, rfl⟩

set_option maxHeartbeats 400000 in
theorem leadNum_f (p : Int) (w : World) (h1 : -1000 ≤ p) (h2 : p ≤ 1000) :
    Calls Tryd.prog 103 #[.agg #[.int .i64 p, .bool false]] w fun e w' => e = .returned (.int .i64 (1 + 2 * p)) ∧ ∃ o1, w' = w.alloc o1 := by
  go_enter Tryd.func103, Tryd.ntmps103
  go_wp2
  go_ret
  exact ⟨rfl, _, rfl⟩

theorem leadNum (p : Int) (b : Bool) (w : World) (h1 : -1000 ≤ p) (h2 : p ≤ 1000) :
    Calls Tryd.prog 103 #[.agg #[.int .i64 p, .bool b]] w fun e w' => e = .returned (.int .i64 (bif b then 1 + 2 * p + 1 else 1 + 2 * p)) ∧ ∃ o1, w' = w.alloc o1 := by
  cases b
  · exact leadNum_f p w h1 h2
  · exact leadNum_t p w h1 h2

set_option maxHeartbeats 400000 in
theorem implEntryOf_low (n : Int) (w : World) (h : n < 5) :
    Calls Tryd.prog 100 #[.int .i64 n] w fun e w' => e = .returned (ent false 0 false) ∧ Below w.heap.size w w' := by
  unfold ent
  go_enter Tryd.func100, Tryd.ntmps100
  go_wp2
  refine bodyPost_ret (v := .agg #[.bool false, .int .i64 0, .bool false]) (by simp [results, Tryd.results100, go_sem]) rfl ⟨rfl, ?_⟩
  (repeat' (with_reducible (first | exact Below.refl _ _ | apply Below.setCell | apply Below.alloc | apply below_drewN | apply Below.drew))) <;> (first | exact Nat.le_refl _ | (simp; done) | (simp; omega))

set_option maxHeartbeats 400000 in
theorem implEntryOf_high (n : Int) (w : World) (h : 12 < n) :
    Calls Tryd.prog 100 #[.int .i64 n] w fun e w' => e = .returned (ent false 0 false) ∧ Below w.heap.size w w' := by
  unfold ent
  have h2 : ¬ n < 5 := by omega
  go_enter Tryd.func100, Tryd.ntmps100
  go_wp2
  refine bodyPost_ret (v := .agg #[.bool false, .int .i64 0, .bool false]) (by simp [results, Tryd.results100, go_sem]) rfl ⟨rfl, ?_⟩
  (repeat' (with_reducible (first | exact Below.refl _ _ | apply Below.setCell | apply Below.alloc | apply below_drewN | apply Below.drew))) <;> (first | exact Nat.le_refl _ | (simp; done) | (simp; omega))

set_option maxHeartbeats 400000 in
theorem implEntryOf_in (n : Int) (w : World) (h : 5 ≤ n) (h' : n ≤ 12) :
    Calls Tryd.prog 100 #[.int .i64 n] w fun e w' => e = .returned (ent true ((n - 1) / 2) (n % 2 == 0)) ∧ Below w.heap.size w w' := by
  unfold ent
  have h2 : ¬ n < 5 := by omega
  have h3 : ¬ 12 < n := by omega
  go_enter Tryd.func100, Tryd.ntmps100
  go_wp2_with (first | (go_at_call 104; refine (leadEntry _ _ _).mono ?_; rintro e w' ⟨rfl, o1, o2, rfl⟩) | (go_at_call 103; refine (leadNum _ _ _ (by omega) (by omega)).mono ?_; rintro e w' ⟨rfl, o1, rfl⟩))
  refine bodyPost_ret (v := .agg #[.bool true, .int .i64 ((n - 1) / 2), .bool (n % 2 == 0)]) (by simp [results, Tryd.results100, go_sem]) rfl ⟨rfl, ?_⟩
  (repeat' (with_reducible (first | exact Below.refl _ _ | apply Below.setCell | apply Below.alloc | apply below_drewN | apply Below.drew))) <;> (first | exact Nat.le_refl _ | (simp; done) | (simp; omega))

set_option maxHeartbeats 400000 in
theorem specEntryOf_out (n : Int) (w : World) (h : n < 5 ∨ 12 < n) (h1 : -9223372036854775808 ≤ n) (h2 : n ≤ 9223372036854775807) :
    Calls Tryd.prog 101 #[.int .i64 n] w fun e w' => e = .returned (ent false 0 false) ∧ Below w.heap.size w w' := by
  unfold ent
  by_cases h0 : n < 1
  · go_enter Tryd.func101, Tryd.ntmps101
    go_wp2
    refine bodyPost_ret (v := .agg #[.bool false, .int .i64 0, .bool false]) (by simp [results, Tryd.results101, go_sem]) rfl ⟨rfl, ?_⟩
    (repeat' (with_reducible (first | exact Below.refl _ _ | apply Below.setCell | apply Below.alloc | apply below_drewN | apply Below.drew))) <;> (first | exact Nat.le_refl _ | (simp; done) | (simp; omega))
  · rcases h with h | h
    · have h3 : ¬ 2 ≤ (n - 1) / 2 := by omega
      go_enter Tryd.func101, Tryd.ntmps101
      go_wp2
      refine bodyPost_ret (v := .agg #[.bool false, .int .i64 0, .bool false]) (by simp [results, Tryd.results101, go_sem]) rfl ⟨rfl, ?_⟩
      (repeat' (with_reducible (first | exact Below.refl _ _ | apply Below.setCell | apply Below.alloc | apply below_drewN | apply Below.drew))) <;> (first | exact Nat.le_refl _ | (simp; done) | (simp; omega))
    · have h3 : 2 ≤ (n - 1) / 2 := by omega
      have h4 : ¬ (n - 1) / 2 ≤ 5 := by omega
      go_enter Tryd.func101, Tryd.ntmps101
      go_wp2
      refine bodyPost_ret (v := .agg #[.bool false, .int .i64 0, .bool false]) (by simp [results, Tryd.results101, go_sem]) rfl ⟨rfl, ?_⟩
      (repeat' (with_reducible (first | exact Below.refl _ _ | apply Below.setCell | apply Below.alloc | apply below_drewN | apply Below.drew))) <;> (first | exact Nat.le_refl _ | (simp; done) | (simp; omega))

set_option maxHeartbeats 400000 in
theorem specEntryOf_in (n : Int) (w : World) (h : 5 ≤ n) (h' : n ≤ 12) :
    Calls Tryd.prog 101 #[.int .i64 n] w fun e w' => e = .returned (ent true ((n - 1) / 2) (n % 2 == 0)) ∧ Below w.heap.size w w' := by
  unfold ent
  have h2 : ¬ n < 1 := by omega
  have h3 : 2 ≤ (n - 1) / 2 := by omega
  have h4 : (n - 1) / 2 ≤ 5 := by omega
  go_enter Tryd.func101, Tryd.ntmps101
  go_wp2
  refine bodyPost_ret (v := .agg #[.bool true, .int .i64 ((n - 1) / 2), .bool (n % 2 == 0)]) (by simp [results, Tryd.results101, go_sem]) rfl ⟨rfl, ?_⟩
  (repeat' (with_reducible (first | exact Below.refl _ _ | apply Below.setCell | apply Below.alloc | apply below_drewN | apply Below.drew))) <;> (first | exact Nat.le_refl _ | (simp; done) | (simp; omega))

/-- The three parts of the entry of a word. -/
def inW (n : Int) : Bool := decide (5 ≤ n) && decide (n ≤ 12)
def pgW (n : Int) : Int := bif inW n then (n - 1) / 2 else 0
def wrW (n : Int) : Bool := inW n && (n % 2 == 0)

theorem inW_t {n : Int} (h : 5 ≤ n) (h' : n ≤ 12) : inW n = true := by simp [inW, h, h']
theorem inW_f {n : Int} (h : n < 5 ∨ 12 < n) : inW n = false := by
  unfold inW
  by_cases a : 5 ≤ n
  · have : ¬ n ≤ 12 := by omega
    simp [this]
  · simp [a]
theorem inW_bd {n : Int} (h : inW n = true) : 5 ≤ n ∧ n ≤ 12 := by simpa [inW] using h

theorem implEntryOf (n : Int) (w : World) :
    Calls Tryd.prog 100 #[.int .i64 n] w fun e w' => e = .returned (ent (inW n) (pgW n) (wrW n)) ∧ Below w.heap.size w w' := by
  by_cases h : 5 ≤ n
  · by_cases h' : n ≤ 12
    · have e := implEntryOf_in n w h h'
      simpa [pgW, wrW, inW_t h h'] using e
    · have e := implEntryOf_high n w (by omega)
      simpa [pgW, wrW, inW_f (n := n) (by omega)] using e
  · have e := implEntryOf_low n w (by omega)
    simpa [pgW, wrW, inW_f (n := n) (by omega)] using e

theorem specEntryOf (n : Int) (w : World) (h1 : -9223372036854775808 ≤ n) (h2 : n ≤ 9223372036854775807) :
    Calls Tryd.prog 101 #[.int .i64 n] w fun e w' => e = .returned (ent (inW n) (pgW n) (wrW n)) ∧ Below w.heap.size w w' := by
  by_cases h : 5 ≤ n ∧ n ≤ 12
  · have e := specEntryOf_in n w h.1 h.2
    simpa [pgW, wrW, inW_t h.1 h.2] using e
  · have e := specEntryOf_out n w (by omega) h1 h2
    simpa [pgW, wrW, inW_f (n := n) (by omega)] using e

end Go.Proofs.YteelpikhijkmdaaDoor
