/-
  The walk of the law FnExactHostOk: whatever the host, both functions give the same, and the host is left as it was.
-/
import Derived.Test.YtjegndgdpmlbaaaKOHN
import Derived.Test.YtjegndgdpmlbaaaKOZ
import Derived.Test.YtjegndgdpmlbaaaKOHostOk1
import Derived.Test.YtjegndgdpmlbaaaKOH
import Derived.Test.YtjegndgdpmlbaaaKOM
set_option linter.unusedSimpArgs false
namespace Go.Proofs.Ytjegndgdpmlbaaa
open Go.RowKit

/-- Three cells of a block, kept. -/
theorem cells3 {N : Nat} {w w' : World} (hB : Below N w w') {b : Nat} (hb : b < N) {v0 v1 v2 : Value} (h : w.cell? ⟨b, 0, none⟩ = some v0 ∧ w.cell? ⟨b, 1, none⟩ = some v1 ∧ w.cell? ⟨b, 2, none⟩ = some v2) : w'.cell? ⟨b, 0, none⟩ = some v0 ∧ w'.cell? ⟨b, 1, none⟩ = some v1 ∧ w'.cell? ⟨b, 2, none⟩ = some v2 :=
  ⟨(hB.cell (p := ⟨b, 0, none⟩) hb).trans h.1, (hB.cell (p := ⟨b, 1, none⟩) hb).trans h.2.1, (hB.cell (p := ⟨b, 2, none⟩) hb).trans h.2.2⟩

theorem HostIn.parts {w : World} {lo hi : Nat} {af ag : Option Addr} {lf cf n cg : Nat} {h : Hst} (k : HostIn w lo hi (.slice af lf cf) (.slice ag n cg) h) : IsMem w lo hi af lf h.frames ∧ IsGuests w lo hi ag n h.guests := by
  obtain ⟨⟨a, c, e1, hF⟩, a', c', e2, hG⟩ := k
  cases e1
  cases e2
  exact ⟨hF, hG⟩

end Go.Proofs.Ytjegndgdpmlbaaa
