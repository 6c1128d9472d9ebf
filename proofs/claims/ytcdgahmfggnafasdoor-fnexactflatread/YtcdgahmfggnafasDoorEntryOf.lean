/-
  What the functions from a word to an entry do: the program's own and the given one.
-/
import Derived.Test.YtcdgahmfggnafasDoorBase
namespace Go.Proofs.YtcdgahmfggnafasDoor
open Go.RowKit

/-- An entry as a value. -/
def ent (h : Bool) (p : Int) (b : Bool) : Value := .agg #[.bool h, .int .i64 p, .bool b]

/-- The three parts of the entry of a word. -/
def inW (n : Int) : Bool := decide (5 ≤ n) && decide (n ≤ 12)
def pgW (n : Int) : Int := bif inW n then (n - 1) / 2 else 0
def wrW (n : Int) : Bool := inW n && (n % 2 == 0)

theorem inW_t {n : Int} (h : 5 ≤ n) (h' : n ≤ 12) : inW n = true := by simp [inW, h, h']
theorem inW_f {n : Int} (h : n < 5 ∨ 12 < n) : inW n = false := by
  unfold inW
  by_cases a : 5 ≤ n
  · have : ¬ n ≤ 12 := by omega
    simp [this]
  · simp [a]
theorem inW_bd {n : Int} (h : inW n = true) : 5 ≤ n ∧ n ≤ 12 := by simpa [inW] using h

end Go.Proofs.YtcdgahmfggnafasDoor
