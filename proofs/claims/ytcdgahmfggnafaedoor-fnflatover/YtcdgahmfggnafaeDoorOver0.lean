/-
  What the program's own functions do that lay one table behind another.
-/
import Derived.Test.YtcdgahmfggnafaeDoorEnts0
namespace Go.Proofs.YtcdgahmfggnafaeDoor
open Go.RowKit

/-- An entry as the program tells its kinds apart. -/
def linkV (e : E3) : Value := bif e.1 then .iface 91 (.agg #[.int .i64 e.2.1, .bool e.2.2]) else .iface 95 (.agg #[])

/-- Where an entry leads behind another table. -/
def overE (x : E3) (eb : List E3) : E3 :=
  bif x.1 then (bif (eb.getD x.2.1.toNat (false, 0, false)).1 then (true, (eb.getD x.2.1.toNat (false, 0, false)).2.1, (eb.getD x.2.1.toNat (false, 0, false)).2.2 && x.2.2) else (false, 0, false)) else (false, 0, false)

theorem method_gapEntry (w : World) : Sem.run Tryd.prog (method 257 95 (.agg #[]) "loop.example/casket/impl.entry") w = .ok (95, .agg #[]) w := by kernel_rfl
theorem method_leadEntry (p : Int) (b : Bool) (w : World) : Sem.run Tryd.prog (method 257 91 (.agg #[.int .i64 p, .bool b]) "loop.example/casket/impl.entry") w = .ok (58, .agg #[.int .i64 p, .bool b]) w := by kernel_rfl

set_option maxHeartbeats 400000 in
theorem leadEntry_any (p : Int) (b : Bool) (w : World) :
    Calls Tryd.prog 58 #[.agg #[.int .i64 p, .bool b]] w fun e w' => e = .returned (.agg #[.bool true, .int .i64 p, .bool b]) ∧ Below w.heap.size w w' := by
  go_enter Tryd.func58, Tryd.ntmps58
  go_wp2
  refine bodyPost_ret (v := .agg #[.bool true, .int .i64 p, .bool b]) ?res rfl ⟨rfl, ?_⟩
  case res => simp [results, Tryd.results58, go_sem]
  (repeat' (with_reducible (first | exact Below.refl _ _ | apply Below.setCell | apply Below.alloc | apply below_drewN | apply Below.drew))) <;> (first | exact Nat.le_refl _ | (simp; done) | (simp; omega))

set_option maxHeartbeats 400000 in
theorem gapEntry_any (w : World) :
    Calls Tryd.prog 95 #[.agg #[]] w fun e w' => e = .returned (.agg #[.bool false, .int .i64 0, .bool false]) ∧ Below w.heap.size w w' := by
  go_enter Tryd.func95, Tryd.ntmps95
  go_wp2
  refine bodyPost_ret (v := .agg #[.bool false, .int .i64 0, .bool false]) ?res rfl ⟨rfl, ?_⟩
  case res => simp [results, Tryd.results95, go_sem]
  (repeat' (with_reducible (first | exact Below.refl _ _ | apply Below.setCell | apply Below.alloc | apply below_drewN | apply Below.drew))) <;> (first | exact Nat.le_refl _ | (simp; done) | (simp; omega))

set_option maxHeartbeats 400000 in
theorem linkOf_any (h : Bool) (p : Int) (b : Bool) (w : World) :
    Calls Tryd.prog 47 #[.agg #[.bool h, .int .i64 p, .bool b]] w fun e w' => e = .returned (linkV (h, p, b)) ∧ ∃ o, w' = w.alloc o := by
  cases h
  all_goals
    go_enter Tryd.func47, Tryd.ntmps47
    go_wp2
    go_ret
    exact ⟨rfl, _, rfl⟩

set_option maxHeartbeats 400000 in
theorem narrow_lead (p : Int) (b c : Bool) (w : World) :
    Calls Tryd.prog 62 #[.iface 91 (.agg #[.int .i64 p, .bool b]), .bool c] w fun e w' => e = .returned (.iface 91 (.agg #[.int .i64 p, .bool (b && c)])) ∧ Below w.heap.size w w' := by
  have t2 := assert_lead
  cases b
  all_goals
    go_enter Tryd.func62, Tryd.ntmps62
    go_wp2
    go_ret
    refine ⟨rfl, ?_⟩
    (repeat' (with_reducible (first | exact Below.refl _ _ | apply Below.setCell | apply Below.alloc | apply below_drewN | apply Below.drew))) <;> (first | exact Nat.le_refl _ | (simp; done) | (simp; omega))

set_option maxHeartbeats 400000 in
theorem narrow_gap (c : Bool) (w : World) :
    Calls Tryd.prog 62 #[.iface 95 (.agg #[]), .bool c] w fun e w' => e = .returned (.iface 95 (.agg #[])) ∧ Below w.heap.size w w' := by
  have t1 := assert_gap
  go_enter Tryd.func62, Tryd.ntmps62
  go_wp2
  go_ret
  exact ⟨rfl, Below.refl _ _⟩

set_option maxHeartbeats 400000 in
theorem follow_gap (v : Value) (w : World) :
    Calls Tryd.prog 46 #[.iface 95 (.agg #[]), v] w fun e w' => e = .returned (.iface 95 (.agg #[])) ∧ Below w.heap.size w w' := by
  have t1 := assert_gap
  go_enter Tryd.func46, Tryd.ntmps46
  go_wp2
  go_ret
  exact ⟨rfl, Below.refl _ _⟩

set_option maxHeartbeats 1000000 in
theorem follow_lead (k : Nat) (c : Bool) (b o cap : Nat) (y : E3) (w : World) (hk : k < 6) (hb : b < w.heap.size)
    (q0 : w.cell? ⟨b, o + k * 3, none⟩ = some (.bool y.1)) (q1 : w.cell? ⟨b, o + k * 3 + 1, none⟩ = some (.int .i64 y.2.1)) (q2 : w.cell? ⟨b, o + k * 3 + 2, none⟩ = some (.bool y.2.2)) :
    Calls Tryd.prog 46 #[.iface 91 (.agg #[.int .i64 k, .bool c]), .slice (some ⟨b, o, none⟩) 6 cap] w fun e w' =>
      e = .returned (linkV (bif y.1 then (true, y.2.1, y.2.2 && c) else (false, 0, false))) ∧ Below w.heap.size w w' := by
  obtain ⟨yh, yp, yb⟩ := y
  have t2 := assert_lead
  have hne : ¬ b = w.heap.size := by omega
  have hki : (k : Int) < 6 := by omega
  cases yh
  · have hL : ∀ p b w, Calls Tryd.prog 47 #[.agg #[.bool false, .int .i64 p, .bool b]] w fun e w' => e = .returned (.iface 95 (.agg #[])) ∧ ∃ o, w' = w.alloc o := fun p b w => linkOf_any false p b w
    have hN := narrow_gap c
    go_enter Tryd.func46, Tryd.ntmps46
    go_wp2_with (fail)
    go_region_with (first | (go_at_call 47; refine (hL _ _ _).mono ?_; rintro e w' ⟨rfl, ob, rfl⟩) | (go_at_call 62; refine (hN _).mono ?_; rintro e w' ⟨rfl, hb1⟩))
    all_goals
      go_wp2
      go_ret
      refine ⟨rfl, ?_⟩
      (repeat' (with_reducible (first | exact Below.refl _ _ | apply Below.setCell | apply Below.alloc | apply below_drewN | apply Below.drew | refine Below.trans ?_ (Below.mono (by assumption) ?_)))) <;> (first | exact Nat.le_refl _ | (simp; done) | (simp; omega) | (simp at *; omega))
  · have hL : ∀ p b w, Calls Tryd.prog 47 #[.agg #[.bool true, .int .i64 p, .bool b]] w fun e w' => e = .returned (.iface 91 (.agg #[.int .i64 p, .bool b])) ∧ ∃ o, w' = w.alloc o := fun p b w => linkOf_any true p b w
    have hN := narrow_lead yp yb c
    go_enter Tryd.func46, Tryd.ntmps46
    go_wp2_with (fail)
    go_region_with (first | (go_at_call 47; refine (hL _ _ _).mono ?_; rintro e w' ⟨rfl, ob, rfl⟩) | (go_at_call 62; refine (hN _).mono ?_; rintro e w' ⟨rfl, hb1⟩))
    all_goals
      go_wp2
      go_ret
      refine ⟨rfl, ?_⟩
      (repeat' (with_reducible (first | exact Below.refl _ _ | apply Below.setCell | apply Below.alloc | apply below_drewN | apply Below.drew | refine Below.trans ?_ (Below.mono (by assumption) ?_)))) <;> (first | exact Nat.le_refl _ | (simp; done) | (simp; omega) | (simp at *; omega))
end Go.Proofs.YtcdgahmfggnafaeDoor
