/-
  What the tests on tables do: the given one and the program's own.
-/
import Derived.Test.YtdnaiifibpbobaaBase
namespace Go.Proofs.Ytdnaiifibpbobaa
open Go.RowKit

/-- An entry: whether there is something, its page, whether it may be written. -/
abbrev E3 := Bool × Int × Bool
/-- Whether an entry is one. -/
def okE (e : E3) : Bool := if e.1 then decide (0 ≤ e.2.1) && decide (e.2.1 ≤ 5) else e.2.1 == 0 && !e.2.2

theorem all_false {es : List E3} {k : Nat} (h : k < es.length) (hf : okE es[k] = false) : es.all okE = false := by
  rw [List.all_eq_false]
  exact ⟨es[k], List.getElem_mem h, by simp [hf]⟩
theorem take_all {es : List E3} {k : Nat} (h : k < es.length) (ha : (es.take k).all okE = true) (hf : okE es[k] = true) : (es.take (k + 1)).all okE = true := by
  rw [List.take_succ_eq_append_getElem h, List.all_append, ha]
  simp [hf]

/-- A row of entries in memory. -/
def Ents (w : World) (b o : Nat) (es : List E3) : Prop :=
  ∀ i, i < es.length → w.cell? ⟨b, o + i * 3, none⟩ = some (.bool (es.getD i (false, 0, false)).1) ∧ w.cell? ⟨b, o + i * 3 + 1, none⟩ = some (.int .i64 (es.getD i (false, 0, false)).2.1) ∧ w.cell? ⟨b, o + i * 3 + 2, none⟩ = some (.bool (es.getD i (false, 0, false)).2.2)

end Go.Proofs.Ytdnaiifibpbobaa
