/-
  What the program's own TabAt does.
-/
import Derived.Test.YtcdgahmfggnafasDoorEnts0
namespace Go.Proofs.YtcdgahmfggnafasDoor
open Go.RowKit

def entV (e : E3) : Value := .agg #[.bool e.1, .int .i64 e.2.1, .bool e.2.2]
/-- The entry of a page of a table. -/
def atE (es : List E3) (page : Int) : E3 := if es.all okE && ((es.length : Int) == 6) && decide (0 ≤ page) && decide (page ≤ 5) then es.getD page.toNat (false, 0, false) else (false, 0, false)

end Go.Proofs.YtcdgahmfggnafasDoor
