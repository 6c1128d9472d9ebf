/-
  What the laws' own comparing of hosts does where both hold the same.
-/
import Derived.Test.YtdamdjhnhkmncaaKA
import Derived.Test.YtdamdjhnhkmncaaKE
namespace Go.Proofs.Ytdamdjhnhkmncaa
open Go.RowKit

/-- How great a host may be that is looked at. -/
def SmallG (g : Gst) : Prop := g.maps.length ≤ 1048576 ∧ g.shades.length ≤ 1048576 ∧ g.disk.length ≤ 1048576 ∧ ∀ j, j < g.disk.length → (g.disk.getD j []).length ≤ 1048576
def SmallH (h : Hst) : Prop := h.frames.length ≤ 1048576 ∧ (∀ i, i < h.frames.length → (h.frames.getD i []).length ≤ 1048576) ∧ h.guests.length ≤ 1048576 ∧ ∀ i, i < h.guests.length → SmallG (h.guests.getD i noG)

end Go.Proofs.Ytdamdjhnhkmncaa
