/-
  A guest alone: what the given FlatRead, FlatWrite, FlatReadIn, FlatWriteIn do.
-/
import Derived.Test.YteelpikhijkmdaaDoorKFlatFns0
import Derived.Test.YteelpikhijkmdaaDoorKFlatCopy0
namespace Go.Proofs.YteelpikhijkmdaaDoor
open Go.RowKit

set_option maxHeartbeats 1000000 in
theorem specGuest (lo hi : Nat) (a : Option Addr) (len cap : Nat) (ms : List (List Int)) (w : World) (h : IsMem w lo hi a len ms) (hn : len ≤ 1048576) (hL : ∀ i, i < len → (ms.getD i []).length ≤ 1048576) :
    Calls Tryd.prog 27 #[.slice a len cap] w fun e w' => e = .returned (.bool (tabB ms)) ∧ w' = w := by
  have hl := h.1
  cases ho : okM ms
  · rw [show tabB ms = false by simp [tabB, ho]]
    go_enter Tryd.func27, Tryd.ntmps27
    go_wp2_with (fail)
    refine (specMemOk lo hi a len cap ms _ h hn hL).mono ?_
    rintro e w1 ⟨rfl, rfl⟩
    rw [ho]
    go_wp2
    go_ret
    exact ⟨rfl, rfl⟩
  · by_cases h6 : len = 6
    · subst h6
      rw [show tabB ms = true by simp [tabB, ho, hl]]
      go_enter Tryd.func27, Tryd.ntmps27
      go_wp2_with (fail)
      refine (specMemOk lo hi a 6 cap ms _ h hn hL).mono ?_
      rintro e w1 ⟨rfl, rfl⟩
      rw [ho]
      go_wp2
      go_ret
      exact ⟨rfl, rfl⟩
    · rw [show tabB ms = false by simp [tabB, hl, h6]]
      have h6' : ((len : Int) == 6) = false := by simp; omega
      go_enter Tryd.func27, Tryd.ntmps27
      go_wp2_with (fail)
      refine (specMemOk lo hi a len cap ms _ h hn hL).mono ?_
      rintro e w1 ⟨rfl, rfl⟩
      rw [ho]
      go_wp2
      go_ret
      exact ⟨rfl, rfl⟩

theorem goodR_eq (ms : List (List Int)) (p o : Int) : goodR ms p o = (tabB ms && atB ms p o) := by
  cases h : tabB ms
  · simp [goodR, h]
  · obtain ⟨ho, h6⟩ := tabB_ok h
    simp [goodR, h, atB, ho, h6]
theorem goodW_eq (ms : List (List Int)) (p o z : Int) : goodW ms p o z = (tabB ms && withB ms p o z) := by
  rw [goodW, goodR_eq, withB, Bool.and_assoc]

set_option maxHeartbeats 1000000 in
theorem specFlatWrite (lo hi : Nat) (a : Option Addr) (len cap : Nat) (ms : List (List Int)) (p o z : Int) (w : World) (h : IsMem w lo hi a len ms) (hh : hi ≤ w.heap.size) (hn : len ≤ 1048576) (hL : ∀ i, i < len → (ms.getD i []).length ≤ 1048576) :
    Calls Tryd.prog 7 #[.slice a len cap, .int .i64 p, .int .i64 o, .int .i64 z] w fun e w' => ∃ a c, e = .returned (.tuple #[.slice a len c, .int .i64 (wrG ms p o z)]) ∧ OwnMem w' w.heap.size w'.heap.size a len (wrM ms p o z) ∧ Below w.heap.size w w' := by
  have hG := specGuest lo hi a len cap ms
  have hA := specMemAt lo hi a len cap ms p o w h hn hL
  have hW := specMemWith lo hi a len cap ms p o z w h hh hn hL
  have hr := goodW_eq ms p o z
  have hlm := h.1
  cases hx : goodW ms p o z
  · rw [show wrG ms p o z = -3 by rw [wrG, hx]; rfl, show wrM ms p o z = ms by rw [wrM, hx]; rfl]
    rw [hx] at hr
    generalize withM ms p o z = xs at hW
    generalize atZ ms p o = az at hA
    generalize atB ms p o = ab at hA
    cases ht : tabB ms
    · rw [ht] at hG
      clear hr
      go_enter Tryd.func7, Tryd.ntmps7
      go_wp2_with (fail)
      refine hA.mono ?_
      rintro e w1 ⟨rfl, rfl⟩
      go_wp2_with (fail)
      refine hW.mono ?_
      rintro e w2 ⟨a2, c2, rfl, _, B2⟩
      have h2 := h.same (below_sameIn B2 hh)
      go_wp2_with (fail)
      refine (hG _ h2 hn hL).mono ?_
      rintro e w3 ⟨rfl, rfl⟩
      go_wp2_with (fail)
      refine (specCopyAll lo hi a len cap ms _ h2 (Nat.le_trans hh B2.size) hn hL).mono ?_
      rintro e w4 ⟨a4, c4, rfl, M4, B4⟩
      have HM : Hid (OwnMem w4 w1.heap.size w4.heap.size a4 len ms) := M4.wide B2.size (Nat.le_refl _)
      have B24 := B2.trans (B4.mono B2.size)
      clear M4 hG hA hW B2 B4
      go_wp2
      refine bodyPost_ret (v := .tuple #[.slice a4 len c4, .int .i64 (-3)]) (by simp [results, Tryd.results7, go_sem]) rfl ?_
      exact ⟨_, _, rfl, HM.out, B24⟩
    · rw [ht] at hG hr
      rw [show withB ms p o z = false by simpa using hr.symm] at hW
      clear hr
      go_enter Tryd.func7, Tryd.ntmps7
      go_wp2_with (fail)
      refine hA.mono ?_
      rintro e w1 ⟨rfl, rfl⟩
      go_wp2_with (fail)
      refine hW.mono ?_
      rintro e w2 ⟨a2, c2, rfl, _, B2⟩
      have h2 := h.same (below_sameIn B2 hh)
      go_wp2_with (fail)
      refine (hG _ h2 hn hL).mono ?_
      rintro e w3 ⟨rfl, rfl⟩
      go_wp2_with (fail)
      refine (specCopyAll lo hi a len cap ms _ h2 (Nat.le_trans hh B2.size) hn hL).mono ?_
      rintro e w4 ⟨a4, c4, rfl, M4, B4⟩
      have HM : Hid (OwnMem w4 w1.heap.size w4.heap.size a4 len ms) := M4.wide B2.size (Nat.le_refl _)
      have B24 := B2.trans (B4.mono B2.size)
      clear M4 hG hA hW B2 B4
      go_wp2
      refine bodyPost_ret (v := .tuple #[.slice a4 len c4, .int .i64 (-3)]) (by simp [results, Tryd.results7, go_sem]) rfl ?_
      exact ⟨_, _, rfl, HM.out, B24⟩
  · rw [hx] at hr
    obtain ⟨ht, hw⟩ : tabB ms = true ∧ withB ms p o z = true := by simpa using hr.symm
    have ha := goodR_at (goodW_R hx)
    rw [show wrG ms p o z = atZ ms p o by rw [wrG, hx, atZ, ha]; rfl, show wrM ms p o z = withM ms p o z by rw [wrM, hx, withM, hw]; rfl]
    rw [ht] at hG
    rw [hw] at hW
    rw [show (withM ms p o z).length = len by rw [withM, hw]; exact (putM_len _ _ _ _).trans hlm] at hW
    generalize withM ms p o z = xs at hW ⊢
    generalize atZ ms p o = az at hA ⊢
    generalize atB ms p o = ab at hA
    clear hr ha hw ht
    go_enter Tryd.func7, Tryd.ntmps7
    go_wp2_with (fail)
    refine hA.mono ?_
    rintro e w1 ⟨rfl, rfl⟩
    go_wp2_with (fail)
    refine hW.mono ?_
    rintro e w2 ⟨a2, c2, rfl, M2, B2⟩
    have h2 := h.same (below_sameIn B2 hh)
    have HM : Hid (OwnMem w2 w1.heap.size w2.heap.size a2 len xs) := M2
    clear M2
    go_wp2_with (fail)
    refine (hG _ h2 hn hL).mono ?_
    rintro e w3 ⟨rfl, rfl⟩
    clear hG hA hW h2
    go_wp2
    refine bodyPost_ret (v := .tuple #[.slice a2 len c2, .int .i64 az]) (by simp [results, Tryd.results7, go_sem]) rfl ?_
    exact ⟨_, _, rfl, HM.out, B2⟩

end Go.Proofs.YteelpikhijkmdaaDoor
