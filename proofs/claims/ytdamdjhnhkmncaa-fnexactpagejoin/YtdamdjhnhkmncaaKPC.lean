/-
  What is seen, plainly; a host to which all guests were carried; shades forgotten.
-/
import Derived.Test.YtdamdjhnhkmncaaKPB
import Derived.Test.YtdamdjhnhkmncaaKSpecCarry0
import Derived.Test.YtdamdjhnhkmncaaKImplForget0
namespace Go.Proofs.Ytdamdjhnhkmncaa
open Go.RowKit

end Go.Proofs.Ytdamdjhnhkmncaa

/-
  What acts do to a host, plainly: forgetting, sharing, moving, and each act by its kind.
-/
namespace Go.Proofs.Ytdamdjhnhkmncaa
open Go.RowKit

/-- The first two frames that are used and have the same. -/
def pairsL : List (Nat × Nat) := (List.range 8).flatMap fun t => ((List.range 8).filter fun f => decide (t < f)).map fun f => (t, f)
def twinB (h : Hst) (x : Nat × Nat) : Bool := decide (0 < usersH h x.1) && (decide (0 < usersH h x.2) && (fAt h x.1 == fAt h x.2))
def twins (h : Hst) : Option (Nat × Nat) := pairsL.find? (twinB h)
def joinB (h : Hst) : Bool := (twins h).isSome
def joinH (h : Hst) : Hst := match twins h with | some x => shareP h x.2 x.1 | none => h
theorem mem_pairsL {t f : Nat} : (t, f) ∈ pairsL ↔ t < f ∧ f < 8 := by
  simp only [pairsL, List.mem_flatMap, List.mem_range, List.mem_map, List.mem_filter, decide_eq_true_eq, Prod.mk.injEq]
  constructor
  · rintro ⟨a, h1, b, ⟨h2, h3⟩, h4, h5⟩
    subst h4 h5
    exact ⟨h3, h2⟩
  · rintro ⟨h1, h2⟩
    exact ⟨t, by omega, f, ⟨h2, h1⟩, rfl, rfl⟩
theorem join_ok {h : Hst} (k : OkH h) : OkH (joinH h) ∧ (joinH h).guests.length = h.guests.length ∧ (∀ g p, g < h.guests.length → p < 6 → pAt (joinH h) g p = pAt h g p) := by
  unfold joinH
  cases ht : twins h with
  | none => exact ⟨k, rfl, fun _ _ _ _ => rfl⟩
  | some x =>
    obtain ⟨t, f⟩ := x
    have h1 := List.mem_of_find?_eq_some ht
    have h2 := List.find?_some ht
    obtain ⟨m1, m2⟩ := mem_pairsL.1 h1
    simp only [twinB, Bool.and_eq_true, beq_iff_eq] at h2
    exact share_ok k (by omega) h2.2.2.symm

end Go.Proofs.Ytdamdjhnhkmncaa
