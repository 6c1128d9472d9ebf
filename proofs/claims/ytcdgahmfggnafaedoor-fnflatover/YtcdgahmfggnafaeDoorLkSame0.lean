/-
  What the laws' own table in which each page is itself is.
-/
import Derived.Test.YtcdgahmfggnafaeDoorOverImpl0
import Derived.Test.YtcdgahmfggnafaeDoorFlat0
namespace Go.Proofs.YtcdgahmfggnafaeDoor
open Go.RowKit

def sameT : List E3 := [(true, 0, true), (true, 1, true), (true, 2, true), (true, 3, true), (true, 4, true), (true, 5, true)]

theorem sameT_get (p : Int) (h0 : 0 ≤ p) (h5 : p ≤ 5) : sameT.getD p.toNat (false, 0, false) = (true, p, true) := by
  have : p = 0 ∨ p = 1 ∨ p = 2 ∨ p = 3 ∨ p = 4 ∨ p = 5 := by omega
  rcases this with rfl | rfl | rfl | rfl | rfl | rfl <;> rfl

theorem over_same (ea : List E3) (hA : ea.all okE = true) : overT ea sameT = ea := by
  have : ea.map (fun x => overE x sameT) = ea.map id := by
    apply List.map_congr_left
    intro x hx
    have hok := (List.all_eq_true.mp hA) _ hx
    obtain ⟨xh, xp, xw⟩ := x
    cases xh
    · have hh : xp = 0 ∧ xw = false := by simpa [okE] using hok
      obtain ⟨rfl, rfl⟩ := hh
      rfl
    · have hh : 0 ≤ xp ∧ xp ≤ 5 := by simpa [okE] using hok
      simp only [overE, cond_true, sameT_get xp hh.1 hh.2, Bool.true_and, id]
  simpa [overT] using this

theorem same_get (k : Nat) (hk : k < 6) : sameT.getD k (false, 0, false) = (true, (k : Int), true) := by
  have := sameT_get k (by omega) (by omega)
  simpa using this

set_option maxHeartbeats 1000000 in
theorem lkSame_any (w : World) :
    Calls Tryd.prog 24 #[] w fun e w' => ∃ T cap, e = .returned (.slice (some ⟨T, 0, none⟩) 6 cap) ∧ T < w'.heap.size ∧ Ents w' T 0 sameT ∧ Below w.heap.size w w' := by
  obtain ⟨i0, hi, hz0, hz1, hz2⟩ := info_parts infoE
  go_enter Tryd.func24, Tryd.ntmps24
  go_wp2
  go_loopw [1, 2] (fun v i wr => ∃ k : Nat, k ≤ 6 ∧ i = .int .i64 k ∧ Hid (wr.ownsRow w.heap.size 30 3 v k (flat (sameT.take k))) ∧ Below w.heap.size w wr) (fun _ i _ => 6 - (intOf i).toNat)
  case atStart => exact ⟨0, Nat.zero_le _, rfl, World.ownsRow_made w #[] 0 (Nat.le_refl _) (by simp [maxLen]) rfl, (Below.refl _ _).alloc (Nat.le_refl _) _⟩
  case round =>
    obtain ⟨k, hk, rfl, hownH, hW⟩ := hrel
    have hown := hownH.out
    have sW := hW.size
    by_cases hkl : k < 6
    · have hki : (k : Int) < 6 := by omega
      have HC1 := cell_three_new wr (.bool true) (.int .i64 k) (.bool true) 30
      have HC2 : ∀ u ∈ [Value.bool true, .int .i64 (k : Int), .bool true], u.oneCell' = true := fun u hu => by simp at hu; rcases hu with rfl | rfl | rfl <;> rfl
      go_wp2_with (at_builtin; refine wpList_append_own _ rfl _ _ 32 rfl w.heap.size 30 i0 (.agg #[.bool false, .int .i64 0, .bool false]) 3 24 Tryd.underlying32 hi hz0 hz1 hz2 rfl (by decide) _ _ _ rfl (hown.alloc _) ⟨wr.heap.size, 0, none⟩ 1 1 [.bool true, .int .i64 k, .bool true] rfl rfl HC1 HC2 (by unfold maxLen; omega) (by omega) (by simp; omega) ?_; intro v' w3 hown' hgrow hnil)
      have hB3 : Below w.heap.size w w3 := Below.grown (hW.alloc sW (.cells #[.bool true, .int .i64 k, .bool true] 30)) hgrow (by simp; omega) (fun j hj => (hown.lt _ hj).1)
      have hown3 : Hid (w3.ownsRow w.heap.size 30 3 v' (k + 1) (flat (sameT.take (k + 1)))) := by
        rw [flat_snoc (by simpa [sameT] using hkl) (same_get k hkl)]; exact hown'
      clear hown' hgrow hown hnil HC1 HC2
      go_wp2
      go_roundw
      case rel => exact ⟨k + 1, by omega, by go_num, hown3, hB3⟩
      case measure => simp [intOf]; omega
    · obtain rfl : k = 6 := by omega
      rw [List.take_of_length_le (by simp [sameT])] at hown
      obtain ⟨T, cap, hv, hT1, hT2, hE⟩ := ents_own hown (by omega)
      clear hown hownH
      subst hv
      go_wp2
      go_ret
      exact ⟨T, cap, rfl, hT2, hE, hW⟩
end Go.Proofs.YtcdgahmfggnafaeDoor
