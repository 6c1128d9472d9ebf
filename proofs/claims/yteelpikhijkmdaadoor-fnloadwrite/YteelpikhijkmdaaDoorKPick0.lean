/-
  Numbers that are drawn: a pick, a word.
-/
import Derived.Test.YteelpikhijkmdaaDoorKAdv0
namespace Go.Proofs.YteelpikhijkmdaaDoor
open Go.RowKit

/-- A pick: a number, one place further. -/
theorem pickA (rb k : Nat) (n : Int) (w : World) (hr : Rd w rb k) (hk : k ≤ 900000) (hn : 1 ≤ n) (hn2 : n ≤ 1000000) :
    Calls Tryd.prog 55 #[.pointer (some ⟨rb, 0, none⟩), .int .i64 n] w fun e w' => ∃ v : Nat, e = .returned (.int .i64 v) ∧ (v : Int) < n ∧ Rd w' rb (k + 1) ∧ Adv rb w w' := by
  refine (pick_any rb k n w hr (by omega) (by omega) (by omega)).mono ?_
  rintro e w' ⟨v, m, rfl, h0, h1, rfl⟩
  obtain ⟨v, rfl⟩ := Int.eq_ofNat_of_zero_le h0
  refine ⟨v, rfl, by omega, ?_, ?_⟩
  · exact (hr.step1).drewN m
  · exact ((Adv.refl _ _).setCell (p := ⟨rb, 1, none⟩) (Or.inl rfl) _).drewN m

set_option maxHeartbeats 1000000 in
theorem drawWord (rb k : Nat) (w : World) (hr : Rd w rb k) (hk : k ≤ 800000) :
    Calls Tryd.prog 56 #[.pointer (some ⟨rb, 0, none⟩)] w fun e w' => ∃ z k' : Nat, e = .returned (.int .i64 z) ∧ z ≤ 63 ∧ Rd w' rb k' ∧ k' ≤ k + 2 ∧ Adv rb w w' := by
  go_enter Tryd.func56, Tryd.ntmps56
  go_wp2_with (fail)
  refine (pickA rb k 3 _ hr (by omega) (by omega) (by omega)).mono ?_
  rintro e w1 ⟨v, rfl, hv, hr1, ha1⟩
  go_wp2_with (fail)
  · refine (pickA rb (k + 1) 64 _ hr1 (by omega) (by omega) (by omega)).mono ?_
    rintro e w2 ⟨v2, rfl, hv2, hr2, ha2⟩
    have hA := ha1.trans ha2
    go_wp2
    go_ret
    exact ⟨v2, k + 2, rfl, by omega, hr2, by omega, hA⟩
  · refine (pickA rb (k + 1) 14 _ hr1 (by omega) (by omega) (by omega)).mono ?_
    rintro e w2 ⟨v2, rfl, hv2, hr2, ha2⟩
    have hA := ha1.trans ha2
    go_wp2
    go_ret
    exact ⟨v2, k + 2, rfl, by omega, hr2, by omega, hA⟩

end Go.Proofs.YteelpikhijkmdaaDoor
