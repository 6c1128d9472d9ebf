/-
  Two pages as arrays, held against each other.
-/
import Derived.Test.YteelpikhijkmdaaDoorKB
import Derived.ChangeKeysEq
namespace Go.Proofs.YteelpikhijkmdaaDoor
open Go.RowKit

theorem cellsZ : Tryd.prog.cellsOf 3 = 1 := by kernel_rfl
theorem part0 (a b c d : Value) (w : World) : (part 3 #[a, b, c, d] (0 * 1)).run Tryd.prog w = .ok a w := by kernel_rfl
theorem part1 (a b c d : Value) (w : World) : (part 3 #[a, b, c, d] (1 * 1)).run Tryd.prog w = .ok b w := by kernel_rfl
theorem part2 (a b c d : Value) (w : World) : (part 3 #[a, b, c, d] (2 * 1)).run Tryd.prog w = .ok c w := by kernel_rfl
theorem part3 (a b c d : Value) (w : World) : (part 3 #[a, b, c, d] (3 * 1)).run Tryd.prog w = .ok d w := by kernel_rfl
theorem eqI (x y : Int) (w : World) : (Op.equalIn 9999 3 (.int .i64 x) (.int .i64 y)).run Tryd.prog w = .ok (x == y) w := run_equalIn_int w 9998 3 .i64 .i64 x y Tryd.underlying3

theorem eq_sheet (z0 z1 z2 z3 y0 y1 y2 y3 : Int) (w : World) :
    (Op.equalIn 10000 64 (.agg #[.int .i64 z0, .int .i64 z1, .int .i64 z2, .int .i64 z3]) (.agg #[.int .i64 y0, .int .i64 y1, .int .i64 y2, .int .i64 y3])).run Tryd.prog w = .ok (z0 == y0 && (z1 == y1 && (z2 == y2 && z3 == y3))) w := by
  obtain ⟨i0, hi, hz0, hz1, hz2⟩ := info_parts infoZ
  rw [show (10000 : Nat) = 9999 + 1 from rfl, run_equalIn_array w 9999 _ _ Tryd.underlying64 hi, cellsZ, show List.range 4 = [0, 1, 2, 3] from rfl]
  have step : ∀ (j : Nat) (is : List Nat) (x y : Int) (r : Bool), (part 3 #[.int .i64 z0, .int .i64 z1, .int .i64 z2, .int .i64 z3] (j * 1)).run Tryd.prog w = .ok (.int .i64 x) w → (part 3 #[.int .i64 y0, .int .i64 y1, .int .i64 y2, .int .i64 y3] (j * 1)).run Tryd.prog w = .ok (.int .i64 y) w →
      (Op.eqItems 9999 3 1 #[.int .i64 z0, .int .i64 z1, .int .i64 z2, .int .i64 z3] #[.int .i64 y0, .int .i64 y1, .int .i64 y2, .int .i64 y3] is).run Tryd.prog w = .ok r w →
      (Op.eqItems 9999 3 1 #[.int .i64 z0, .int .i64 z1, .int .i64 z2, .int .i64 z3] #[.int .i64 y0, .int .i64 y1, .int .i64 y2, .int .i64 y3] (j :: is)).run Tryd.prog w = .ok (x == y && r) w := fun j is x y r h1 h2 h3 => by
    rw [Op.eqItems]
    simp only [Sem.run_bind, h1, h2, eqI, Result.andThen_ok]
    cases x == y
    · simp
    · simpa using h3
  refine step 0 _ z0 y0 _ (part0 _ _ _ _ w) (part0 _ _ _ _ w) (step 1 _ z1 y1 _ (part1 _ _ _ _ w) (part1 _ _ _ _ w) (step 2 _ z2 y2 _ (part2 _ _ _ _ w) (part2 _ _ _ _ w) ?_))
  have := step 3 [] z3 y3 true (part3 _ _ _ _ w) (part3 _ _ _ _ w) (by simp [Op.eqItems])
  rwa [Bool.and_true] at this
end Go.Proofs.YteelpikhijkmdaaDoor
