/-
  What the functions on one entry do: the program's own and the given ones.
-/
import Derived.Test.YtfiailnlkhonnaaBase
namespace Go.Proofs.Ytfiailnlkhonnaa
open Go.RowKit

/-- An entry as a value. -/
def ent (h : Bool) (p : Int) (b : Bool) : Value := .agg #[.bool h, .int .i64 p, .bool b]

set_option maxHeartbeats 400000 in
theorem leadEntry (p : Int) (b : Bool) (w : World) :
    Calls Try.prog 22 #[.agg #[.int .i64 p, .bool b]] w fun e w' => e = .returned (.agg #[.bool true, .int .i64 p, .bool b]) ∧ ∃ o1 o2, w' = (w.alloc o1).alloc o2 := by
  go_enter Try.func22, Try.ntmps22
  go_wp2
  exact bodyPost_ret (v := .agg #[.bool true, .int .i64 p, .bool b]) (by simp [results, Try.results22, go_sem]) rfl ⟨rfl, _, _, rfl⟩

set_option maxHeartbeats 400000 in
theorem leadNum_t (p : Int) (w : World) (h1 : -1000 ≤ p) (h2 : p ≤ 1000) :
    Calls Try.prog 21 #[.agg #[.int .i64 p, .bool true]] w fun e w' => e = .returned (.int .i64 (1 + 2 * p + 1)) ∧ ∃ o1, w' = w.alloc o1 := by
  go_enter Try.func21, Try.ntmps21
  go_wp2
  go_ret
  exact ⟨rfl, _, rfl⟩

set_option maxHeartbeats 400000 in
theorem leadNum_f (p : Int) (w : World) (h1 : -1000 ≤ p) (h2 : p ≤ 1000) :
    Calls Try.prog 21 #[.agg #[.int .i64 p, .bool false]] w fun e w' => e = .returned (.int .i64 (1 + 2 * p)) ∧ ∃ o1, w' = w.alloc o1 := by
  go_enter Try.func21, Try.ntmps21
  go_wp2
  go_ret
  exact ⟨rfl, _, rfl⟩

theorem leadNum (p : Int) (b : Bool) (w : World) (h1 : -1000 ≤ p) (h2 : p ≤ 1000) :
    Calls Try.prog 21 #[.agg #[.int .i64 p, .bool b]] w fun e w' => e = .returned (.int .i64 (bif b then 1 + 2 * p + 1 else 1 + 2 * p)) ∧ ∃ o1, w' = w.alloc o1 := by
  cases b
  · exact leadNum_f p w h1 h2
  · exact leadNum_t p w h1 h2

set_option maxHeartbeats 400000 in
theorem implEntryOf_low (n : Int) (w : World) (h : n < 5) :
    Calls Try.prog 11 #[.int .i64 n] w fun e w' => e = .returned (ent false 0 false) ∧ Below w.heap.size w w' := by
  unfold ent
  go_enter Try.func11, Try.ntmps11
  go_wp2
  refine bodyPost_ret (v := .agg #[.bool false, .int .i64 0, .bool false]) (by simp [results, Try.results11, go_sem]) rfl ⟨rfl, ?_⟩
  (repeat' (first | exact Below.refl _ _ | apply Below.setCell | apply Below.alloc | apply below_drewN | apply Below.drew)) <;> (first | exact Nat.le_refl _ | (simp; done) | (simp; omega))

set_option maxHeartbeats 400000 in
theorem implEntryOf_high (n : Int) (w : World) (h : 12 < n) :
    Calls Try.prog 11 #[.int .i64 n] w fun e w' => e = .returned (ent false 0 false) ∧ Below w.heap.size w w' := by
  unfold ent
  have h2 : ¬ n < 5 := by omega
  go_enter Try.func11, Try.ntmps11
  go_wp2
  refine bodyPost_ret (v := .agg #[.bool false, .int .i64 0, .bool false]) (by simp [results, Try.results11, go_sem]) rfl ⟨rfl, ?_⟩
  (repeat' (first | exact Below.refl _ _ | apply Below.setCell | apply Below.alloc | apply below_drewN | apply Below.drew)) <;> (first | exact Nat.le_refl _ | (simp; done) | (simp; omega))

set_option maxHeartbeats 400000 in
theorem implEntryOf_in (n : Int) (w : World) (h : 5 ≤ n) (h' : n ≤ 12) :
    Calls Try.prog 11 #[.int .i64 n] w fun e w' => e = .returned (ent true ((n - 1) / 2) (n % 2 == 0)) ∧ Below w.heap.size w w' := by
  unfold ent
  have h2 : ¬ n < 5 := by omega
  have h3 : ¬ 12 < n := by omega
  go_enter Try.func11, Try.ntmps11
  go_wp2_with (first | (go_at_call 22; refine (leadEntry _ _ _).mono ?_; rintro e w' ⟨rfl, o1, o2, rfl⟩) | (go_at_call 21; refine (leadNum _ _ _ (by omega) (by omega)).mono ?_; rintro e w' ⟨rfl, o1, rfl⟩))
  refine bodyPost_ret (v := .agg #[.bool true, .int .i64 ((n - 1) / 2), .bool (n % 2 == 0)]) (by simp [results, Try.results11, go_sem]) rfl ⟨rfl, ?_⟩
  (repeat' (first | exact Below.refl _ _ | apply Below.setCell | apply Below.alloc | apply below_drewN | apply Below.drew)) <;> (first | exact Nat.le_refl _ | (simp; done) | (simp; omega))

set_option maxHeartbeats 400000 in
theorem specEntryOf_out (n : Int) (w : World) (h : n < 5 ∨ 12 < n) (h1 : -1000 < n) (h2 : n < 1000) :
    Calls Try.prog 13 #[.int .i64 n] w fun e w' => e = .returned (ent false 0 false) ∧ Below w.heap.size w w' := by
  unfold ent
  by_cases h0 : n < 1
  · go_enter Try.func13, Try.ntmps13
    go_wp2
    refine bodyPost_ret (v := .agg #[.bool false, .int .i64 0, .bool false]) (by simp [results, Try.results13, go_sem]) rfl ⟨rfl, ?_⟩
    (repeat' (first | exact Below.refl _ _ | apply Below.setCell | apply Below.alloc | apply below_drewN | apply Below.drew)) <;> (first | exact Nat.le_refl _ | (simp; done) | (simp; omega))
  · rcases h with h | h
    · have h3 : ¬ 2 ≤ (n - 1) / 2 := by omega
      go_enter Try.func13, Try.ntmps13
      go_wp2
      refine bodyPost_ret (v := .agg #[.bool false, .int .i64 0, .bool false]) (by simp [results, Try.results13, go_sem]) rfl ⟨rfl, ?_⟩
      (repeat' (first | exact Below.refl _ _ | apply Below.setCell | apply Below.alloc | apply below_drewN | apply Below.drew)) <;> (first | exact Nat.le_refl _ | (simp; done) | (simp; omega))
    · have h3 : 2 ≤ (n - 1) / 2 := by omega
      have h4 : ¬ (n - 1) / 2 ≤ 5 := by omega
      go_enter Try.func13, Try.ntmps13
      go_wp2
      refine bodyPost_ret (v := .agg #[.bool false, .int .i64 0, .bool false]) (by simp [results, Try.results13, go_sem]) rfl ⟨rfl, ?_⟩
      (repeat' (first | exact Below.refl _ _ | apply Below.setCell | apply Below.alloc | apply below_drewN | apply Below.drew)) <;> (first | exact Nat.le_refl _ | (simp; done) | (simp; omega))

set_option maxHeartbeats 400000 in
theorem specEntryOf_in (n : Int) (w : World) (h : 5 ≤ n) (h' : n ≤ 12) :
    Calls Try.prog 13 #[.int .i64 n] w fun e w' => e = .returned (ent true ((n - 1) / 2) (n % 2 == 0)) ∧ Below w.heap.size w w' := by
  unfold ent
  have h2 : ¬ n < 1 := by omega
  have h3 : 2 ≤ (n - 1) / 2 := by omega
  have h4 : (n - 1) / 2 ≤ 5 := by omega
  go_enter Try.func13, Try.ntmps13
  go_wp2
  refine bodyPost_ret (v := .agg #[.bool true, .int .i64 ((n - 1) / 2), .bool (n % 2 == 0)]) (by simp [results, Try.results13, go_sem]) rfl ⟨rfl, ?_⟩
  (repeat' (first | exact Below.refl _ _ | apply Below.setCell | apply Below.alloc | apply below_drewN | apply Below.drew)) <;> (first | exact Nat.le_refl _ | (simp; done) | (simp; omega))

set_option maxHeartbeats 400000 in
theorem specEntryNum (h : Bool) (p : Int) (b : Bool) (w : World) (h1 : -1000 ≤ p) (h2 : p ≤ 1000) :
    Calls Try.prog 9 #[ent h p b] w fun e w' => e = .returned (.int .i64 (bif h then (bif b then 1 + 2 * p + 1 else 1 + 2 * p) else 0)) ∧ Below w.heap.size w w' := by
  unfold ent
  cases h <;> cases b
  all_goals
    go_enter Try.func9, Try.ntmps9
    go_wp2
    go_ret
    refine ⟨rfl, ?_⟩
    (repeat' (first | exact Below.refl _ _ | apply Below.setCell | apply Below.alloc | apply below_drewN | apply Below.drew)) <;> (first | exact Nat.le_refl _ | (simp; done) | (simp; omega))

theorem method_gapNum (w : World) : Sem.run Try.prog (method 172 55 (.agg #[]) "loop.example/casket/impl.num") w = .ok (47, .agg #[]) w := by kernel_rfl
theorem method_leadNum (p : Int) (b : Bool) (w : World) : Sem.run Try.prog (method 172 45 (.agg #[.int .i64 p, .bool b]) "loop.example/casket/impl.num") w = .ok (21, .agg #[.int .i64 p, .bool b]) w := by kernel_rfl

set_option maxHeartbeats 400000 in
theorem implEntryNum_f (p : Int) (b : Bool) (w : World) :
    Calls Try.prog 8 #[ent false p b] w fun e w' => e = .returned (.int .i64 0) ∧ Below w.heap.size w w' := by
  unfold ent
  have m1 := method_gapNum
  go_enter Try.func8, Try.ntmps8
  go_wp2
  go_ret
  refine ⟨rfl, ?_⟩
  (repeat' (first | exact Below.refl _ _ | apply Below.setCell | apply Below.alloc | apply below_drewN | apply Below.drew)) <;> (first | exact Nat.le_refl _ | (simp; done) | (simp; omega))

set_option maxHeartbeats 400000 in
theorem implEntryNum_t (p : Int) (b : Bool) (w : World) (h1 : -1000 ≤ p) (h2 : p ≤ 1000) :
    Calls Try.prog 8 #[ent true p b] w fun e w' => e = .returned (.int .i64 (bif b then 1 + 2 * p + 1 else 1 + 2 * p)) ∧ Below w.heap.size w w' := by
  unfold ent
  have m2 := method_leadNum
  cases b
  all_goals
    go_enter Try.func8, Try.ntmps8
    go_wp2
    go_ret
    refine ⟨rfl, ?_⟩
    (repeat' (first | exact Below.refl _ _ | apply Below.setCell | apply Below.alloc | apply below_drewN | apply Below.drew)) <;> (first | exact Nat.le_refl _ | (simp; done) | (simp; omega))

theorem implEntryNum (h : Bool) (p : Int) (b : Bool) (w : World) (h1 : -1000 ≤ p) (h2 : p ≤ 1000) :
    Calls Try.prog 8 #[ent h p b] w fun e w' => e = .returned (.int .i64 (bif h then (bif b then 1 + 2 * p + 1 else 1 + 2 * p) else 0)) ∧ Below w.heap.size w w' := by
  cases h
  · exact implEntryNum_f p b w
  · exact implEntryNum_t p b w h1 h2

/-- The three parts of the entry of a word. -/
def inW (n : Int) : Bool := decide (5 ≤ n) && decide (n ≤ 12)
def pgW (n : Int) : Int := bif inW n then (n - 1) / 2 else 0
def wrW (n : Int) : Bool := inW n && (n % 2 == 0)

theorem inW_t {n : Int} (h : 5 ≤ n) (h' : n ≤ 12) : inW n = true := by simp [inW, h, h']
theorem inW_f {n : Int} (h : n < 5 ∨ 12 < n) : inW n = false := by
  unfold inW
  by_cases a : 5 ≤ n
  · have : ¬ n ≤ 12 := by omega
    simp [this]
  · simp [a]
theorem inW_bd {n : Int} (h : inW n = true) : 5 ≤ n ∧ n ≤ 12 := by simpa [inW] using h

theorem implEntryOf (n : Int) (w : World) :
    Calls Try.prog 11 #[.int .i64 n] w fun e w' => e = .returned (ent (inW n) (pgW n) (wrW n)) ∧ Below w.heap.size w w' := by
  by_cases h : 5 ≤ n
  · by_cases h' : n ≤ 12
    · have e := implEntryOf_in n w h h'
      simpa [pgW, wrW, inW_t h h'] using e
    · have e := implEntryOf_high n w (by omega)
      simpa [pgW, wrW, inW_f (n := n) (by omega)] using e
  · have e := implEntryOf_low n w (by omega)
    simpa [pgW, wrW, inW_f (n := n) (by omega)] using e

theorem specEntryOf (n : Int) (w : World) (h1 : -1000 < n) (h2 : n < 1000) :
    Calls Try.prog 13 #[.int .i64 n] w fun e w' => e = .returned (ent (inW n) (pgW n) (wrW n)) ∧ Below w.heap.size w w' := by
  by_cases h : 5 ≤ n ∧ n ≤ 12
  · have e := specEntryOf_in n w h.1 h.2
    simpa [pgW, wrW, inW_t h.1 h.2] using e
  · have e := specEntryOf_out n w (by omega) h1 h2
    simpa [pgW, wrW, inW_f (n := n) (by omega)] using e

end Go.Proofs.Ytfiailnlkhonnaa
