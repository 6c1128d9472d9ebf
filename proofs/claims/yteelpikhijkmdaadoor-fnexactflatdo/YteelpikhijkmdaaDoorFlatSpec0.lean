/-
  A guest alone: what the given FlatRead, FlatWrite, FlatReadIn, FlatWriteIn do.
-/
import Derived.Test.YteelpikhijkmdaaDoorFlatFns0
import Derived.Test.YteelpikhijkmdaaDoorFlatCopy0
namespace Go.Proofs.YteelpikhijkmdaaDoor
open Go.RowKit

set_option maxHeartbeats 1000000 in
theorem specGuest (lo hi : Nat) (a : Option Addr) (len cap : Nat) (ms : List (List Int)) (w : World) (h : IsMem w lo hi a len ms) (hn : len ≤ 1048576) (hL : ∀ i, i < len → (ms.getD i []).length ≤ 1048576) :
    Calls Tryd.prog 27 #[.slice a len cap] w fun e w' => e = .returned (.bool (tabB ms)) ∧ w' = w := by
  have hl := h.1
  cases ho : okM ms
  · rw [show tabB ms = false by simp [tabB, ho]]
    go_enter Tryd.func27, Tryd.ntmps27
    go_wp2_with (fail)
    refine (specMemOk lo hi a len cap ms _ h hn hL).mono ?_
    rintro e w1 ⟨rfl, rfl⟩
    rw [ho]
    go_wp2
    go_ret
    exact ⟨rfl, rfl⟩
  · by_cases h6 : len = 6
    · subst h6
      rw [show tabB ms = true by simp [tabB, ho, hl]]
      go_enter Tryd.func27, Tryd.ntmps27
      go_wp2_with (fail)
      refine (specMemOk lo hi a 6 cap ms _ h hn hL).mono ?_
      rintro e w1 ⟨rfl, rfl⟩
      rw [ho]
      go_wp2
      go_ret
      exact ⟨rfl, rfl⟩
    · rw [show tabB ms = false by simp [tabB, hl, h6]]
      have h6' : ((len : Int) == 6) = false := by simp; omega
      go_enter Tryd.func27, Tryd.ntmps27
      go_wp2_with (fail)
      refine (specMemOk lo hi a len cap ms _ h hn hL).mono ?_
      rintro e w1 ⟨rfl, rfl⟩
      rw [ho]
      go_wp2
      go_ret
      exact ⟨rfl, rfl⟩

theorem goodR_eq (ms : List (List Int)) (p o : Int) : goodR ms p o = (tabB ms && atB ms p o) := by
  cases h : tabB ms
  · simp [goodR, h]
  · obtain ⟨ho, h6⟩ := tabB_ok h
    simp [goodR, h, atB, ho, h6]
theorem goodW_eq (ms : List (List Int)) (p o z : Int) : goodW ms p o z = (tabB ms && withB ms p o z) := by
  rw [goodW, goodR_eq, withB, Bool.and_assoc]

set_option maxHeartbeats 1000000 in
theorem specFlatRead (lo hi : Nat) (a : Option Addr) (len cap : Nat) (ms : List (List Int)) (p o : Int) (w : World) (h : IsMem w lo hi a len ms) (hn : len ≤ 1048576) (hL : ∀ i, i < len → (ms.getD i []).length ≤ 1048576) :
    Calls Tryd.prog 43 #[.slice a len cap, .int .i64 p, .int .i64 o] w fun e w' => e = .returned (.int .i64 (rdG ms p o)) ∧ w' = w := by
  have hG := specGuest lo hi a len cap ms
  have hA := specMemAt lo hi a len cap ms p o w h hn hL
  have hr := goodR_eq ms p o
  cases ht : tabB ms
  · rw [ht] at hG hr
    rw [show rdG ms p o = -3 by rw [rdG, hr]; rfl]
    go_enter Tryd.func43, Tryd.ntmps43
    go_wp2_with (fail)
    refine hA.mono ?_
    rintro e w1 ⟨rfl, rfl⟩
    go_wp2_with (fail)
    refine (hG _ h hn hL).mono ?_
    rintro e w2 ⟨rfl, rfl⟩
    go_wp2
    go_ret
    exact ⟨rfl, rfl⟩
  · rw [ht] at hG hr
    cases ha : atB ms p o
    · rw [ha] at hr hA
      rw [show rdG ms p o = -3 by rw [rdG, hr]; rfl]
      go_enter Tryd.func43, Tryd.ntmps43
      go_wp2_with (fail)
      refine hA.mono ?_
      rintro e w1 ⟨rfl, rfl⟩
      go_wp2_with (fail)
      refine (hG _ h hn hL).mono ?_
      rintro e w2 ⟨rfl, rfl⟩
      go_wp2
      go_ret
      exact ⟨rfl, rfl⟩
    · rw [show rdG ms p o = atZ ms p o by rw [rdG, hr, atZ, ha]; rfl]
      rw [ha] at hA
      go_enter Tryd.func43, Tryd.ntmps43
      go_wp2_with (fail)
      refine hA.mono ?_
      rintro e w1 ⟨rfl, rfl⟩
      go_wp2_with (fail)
      refine (hG _ h hn hL).mono ?_
      rintro e w2 ⟨rfl, rfl⟩
      go_wp2
      go_ret
      exact ⟨rfl, rfl⟩

set_option maxHeartbeats 1000000 in
theorem specFlatWrite (lo hi : Nat) (a : Option Addr) (len cap : Nat) (ms : List (List Int)) (p o z : Int) (w : World) (h : IsMem w lo hi a len ms) (hh : hi ≤ w.heap.size) (hn : len ≤ 1048576) (hL : ∀ i, i < len → (ms.getD i []).length ≤ 1048576) :
    Calls Tryd.prog 7 #[.slice a len cap, .int .i64 p, .int .i64 o, .int .i64 z] w fun e w' => ∃ a c, e = .returned (.tuple #[.slice a len c, .int .i64 (wrG ms p o z)]) ∧ OwnMem w' w.heap.size w'.heap.size a len (wrM ms p o z) ∧ Below w.heap.size w w' := by
  have hG := specGuest lo hi a len cap ms
  have hA := specMemAt lo hi a len cap ms p o w h hn hL
  have hW := specMemWith lo hi a len cap ms p o z w h hh hn hL
  have hr := goodW_eq ms p o z
  have hlm := h.1
  cases hx : goodW ms p o z
  · rw [show wrG ms p o z = -3 by rw [wrG, hx]; rfl, show wrM ms p o z = ms by rw [wrM, hx]; rfl]
    rw [hx] at hr
    generalize withM ms p o z = xs at hW
    generalize atZ ms p o = az at hA
    generalize atB ms p o = ab at hA
    cases ht : tabB ms
    · rw [ht] at hG
      clear hr
      go_enter Tryd.func7, Tryd.ntmps7
      go_wp2_with (fail)
      refine hA.mono ?_
      rintro e w1 ⟨rfl, rfl⟩
      go_wp2_with (fail)
      refine hW.mono ?_
      rintro e w2 ⟨a2, c2, rfl, _, B2⟩
      have h2 := h.same (below_sameIn B2 hh)
      go_wp2_with (fail)
      refine (hG _ h2 hn hL).mono ?_
      rintro e w3 ⟨rfl, rfl⟩
      go_wp2_with (fail)
      refine (specCopyAll lo hi a len cap ms _ h2 (Nat.le_trans hh B2.size) hn hL).mono ?_
      rintro e w4 ⟨a4, c4, rfl, M4, B4⟩
      have HM : Hid (OwnMem w4 w1.heap.size w4.heap.size a4 len ms) := M4.wide B2.size (Nat.le_refl _)
      have B24 := B2.trans (B4.mono B2.size)
      clear M4 hG hA hW B2 B4
      go_wp2
      refine bodyPost_ret (v := .tuple #[.slice a4 len c4, .int .i64 (-3)]) (by simp [results, Tryd.results7, go_sem]) rfl ?_
      exact ⟨_, _, rfl, HM.out, B24⟩
    · rw [ht] at hG hr
      rw [show withB ms p o z = false by simpa using hr.symm] at hW
      clear hr
      go_enter Tryd.func7, Tryd.ntmps7
      go_wp2_with (fail)
      refine hA.mono ?_
      rintro e w1 ⟨rfl, rfl⟩
      go_wp2_with (fail)
      refine hW.mono ?_
      rintro e w2 ⟨a2, c2, rfl, _, B2⟩
      have h2 := h.same (below_sameIn B2 hh)
      go_wp2_with (fail)
      refine (hG _ h2 hn hL).mono ?_
      rintro e w3 ⟨rfl, rfl⟩
      go_wp2_with (fail)
      refine (specCopyAll lo hi a len cap ms _ h2 (Nat.le_trans hh B2.size) hn hL).mono ?_
      rintro e w4 ⟨a4, c4, rfl, M4, B4⟩
      have HM : Hid (OwnMem w4 w1.heap.size w4.heap.size a4 len ms) := M4.wide B2.size (Nat.le_refl _)
      have B24 := B2.trans (B4.mono B2.size)
      clear M4 hG hA hW B2 B4
      go_wp2
      refine bodyPost_ret (v := .tuple #[.slice a4 len c4, .int .i64 (-3)]) (by simp [results, Tryd.results7, go_sem]) rfl ?_
      exact ⟨_, _, rfl, HM.out, B24⟩
  · rw [hx] at hr
    obtain ⟨ht, hw⟩ : tabB ms = true ∧ withB ms p o z = true := by simpa using hr.symm
    have ha := goodR_at (goodW_R hx)
    rw [show wrG ms p o z = atZ ms p o by rw [wrG, hx, atZ, ha]; rfl, show wrM ms p o z = withM ms p o z by rw [wrM, hx, withM, hw]; rfl]
    rw [ht] at hG
    rw [hw] at hW
    rw [show (withM ms p o z).length = len by rw [withM, hw]; exact (putM_len _ _ _ _).trans hlm] at hW
    generalize withM ms p o z = xs at hW ⊢
    generalize atZ ms p o = az at hA ⊢
    generalize atB ms p o = ab at hA
    clear hr ha hw ht
    go_enter Tryd.func7, Tryd.ntmps7
    go_wp2_with (fail)
    refine hA.mono ?_
    rintro e w1 ⟨rfl, rfl⟩
    go_wp2_with (fail)
    refine hW.mono ?_
    rintro e w2 ⟨a2, c2, rfl, M2, B2⟩
    have h2 := h.same (below_sameIn B2 hh)
    have HM : Hid (OwnMem w2 w1.heap.size w2.heap.size a2 len xs) := M2
    clear M2
    go_wp2_with (fail)
    refine (hG _ h2 hn hL).mono ?_
    rintro e w3 ⟨rfl, rfl⟩
    clear hG hA hW h2
    go_wp2
    refine bodyPost_ret (v := .tuple #[.slice a2 len c2, .int .i64 az]) (by simp [results, Tryd.results7, go_sem]) rfl ?_
    exact ⟨_, _, rfl, HM.out, B2⟩

/-- Where the guest's own guest comes to: the entry, and what is wrong. -/
def walkE (ms : List (List Int)) (p o : Int) : E3 := bif goodR ms p o then entOf ms p else (false, 0, false)
def walkG (ms : List (List Int)) (p o : Int) (wr : Bool) : Int := bif goodR ms p o then (bif (entOf ms p).1 then (bif wr && !(entOf ms p).2.2 then -2 else 0) else -1) else -3

theorem goodR_out {ms : List (List Int)} {p o : Int} (h : goodR ms p o = false) : tabB ms = false ∨ (decide (0 ≤ p) && decide (p ≤ 5)) = false ∨ ((decide (0 ≤ p) && decide (p ≤ 5)) = true ∧ (decide (0 ≤ o) && decide (o ≤ 3)) = false) := by
  cases ht : tabB ms
  · exact Or.inl rfl
  · cases hp : (decide (0 ≤ p) && decide (p ≤ 5))
    · exact Or.inr (Or.inl rfl)
    · refine Or.inr (Or.inr ⟨rfl, ?_⟩)
      simp [goodR, ht, placeB] at h
      simp at hp
      simp
      intro h0
      have := h hp.1 (by omega) h0
      omega

set_option maxHeartbeats 2000000 in
theorem specWalk (lo hi : Nat) (a : Option Addr) (len cap : Nat) (ms : List (List Int)) (p o : Int) (wr : Bool) (w : World) (h : IsMem w lo hi a len ms) (hh : hi ≤ w.heap.size) (hn : len ≤ 1048576) (hL : ∀ i, i < len → (ms.getD i []).length ≤ 1048576) :
    Calls Tryd.prog 68 #[.slice a len cap, .int .i64 p, .int .i64 o, .bool wr] w fun e w' => e = .returned (.tuple #[entV (walkE ms p o), .int .i64 (walkG ms p o wr)]) ∧ Below w.heap.size w w' := by
  have hG := fun W h => specGuest lo hi a len cap ms W h hn hL
  have hI1 := specIn p 0 5
  have hI2 := specIn o 0 3
  have hl := h.1
  have hA : ∀ W, Below w.heap.size w W → IsMem W lo hi a len ms := fun W B => h.same (below_sameIn B hh)
  cases hr : goodR ms p o
  · rw [show walkE ms p o = (false, 0, false) by rw [walkE, hr]; rfl, show walkG ms p o wr = -3 by rw [walkG, hr]; rfl]
    unfold entV
    rcases goodR_out hr with ht | ht | ⟨ht, ht'⟩
    · rw [ht] at hG
      have hA1 := hA (w.alloc (.cells #[.bool false, .int .i64 0, .bool false] 117)) ((Below.refl _ _).alloc (Nat.le_refl _) _)
      go_enter Tryd.func68, Tryd.ntmps68
      go_wp2_with (fail)
      refine (hG _ hA1).mono ?_
      rintro e w1 ⟨rfl, rfl⟩
      go_wp2
      refine bodyPost_ret (v := .tuple #[.agg #[.bool false, .int .i64 0, .bool false], .int .i64 (-3)]) ?res rfl ⟨rfl, ?_⟩
      case res => simp [results, Tryd.results68, go_sem]
      (repeat' (with_reducible (first | exact Below.refl _ _ | apply Below.setCell | apply Below.alloc | apply below_drewN | apply Below.drew))) <;> (first | exact Nat.le_refl _ | (simp; done) | (simp; omega))
    · rw [ht] at hI1
      cases hb : tabB ms
      · rw [hb] at hG
        have hA1 := hA (w.alloc (.cells #[.bool false, .int .i64 0, .bool false] 117)) ((Below.refl _ _).alloc (Nat.le_refl _) _)
        go_enter Tryd.func68, Tryd.ntmps68
        go_wp2_with (fail)
        refine (hG _ hA1).mono ?_
        rintro e w1 ⟨rfl, rfl⟩
        go_wp2
        refine bodyPost_ret (v := .tuple #[.agg #[.bool false, .int .i64 0, .bool false], .int .i64 (-3)]) ?res rfl ⟨rfl, ?_⟩
        case res => simp [results, Tryd.results68, go_sem]
        (repeat' (with_reducible (first | exact Below.refl _ _ | apply Below.setCell | apply Below.alloc | apply below_drewN | apply Below.drew))) <;> (first | exact Nat.le_refl _ | (simp; done) | (simp; omega))
      · rw [hb] at hG
        have hA1 := hA (w.alloc (.cells #[.bool false, .int .i64 0, .bool false] 117)) ((Below.refl _ _).alloc (Nat.le_refl _) _)
        go_enter Tryd.func68, Tryd.ntmps68
        go_wp2_with (fail)
        refine (hG _ hA1).mono ?_
        rintro e w1 ⟨rfl, rfl⟩
        go_wp2_with (fail)
        refine (hI1 _).mono ?_
        rintro e w2 ⟨rfl, rfl⟩
        go_wp2
        refine bodyPost_ret (v := .tuple #[.agg #[.bool false, .int .i64 0, .bool false], .int .i64 (-3)]) ?res rfl ⟨rfl, ?_⟩
        case res => simp [results, Tryd.results68, go_sem]
        (repeat' (with_reducible (first | exact Below.refl _ _ | apply Below.setCell | apply Below.alloc | apply below_drewN | apply Below.drew))) <;> (first | exact Nat.le_refl _ | (simp; done) | (simp; omega))
    · rw [ht] at hI1
      rw [ht'] at hI2
      cases hb : tabB ms
      · rw [hb] at hG
        have hA1 := hA (w.alloc (.cells #[.bool false, .int .i64 0, .bool false] 117)) ((Below.refl _ _).alloc (Nat.le_refl _) _)
        go_enter Tryd.func68, Tryd.ntmps68
        go_wp2_with (fail)
        refine (hG _ hA1).mono ?_
        rintro e w1 ⟨rfl, rfl⟩
        go_wp2
        refine bodyPost_ret (v := .tuple #[.agg #[.bool false, .int .i64 0, .bool false], .int .i64 (-3)]) ?res rfl ⟨rfl, ?_⟩
        case res => simp [results, Tryd.results68, go_sem]
        (repeat' (with_reducible (first | exact Below.refl _ _ | apply Below.setCell | apply Below.alloc | apply below_drewN | apply Below.drew))) <;> (first | exact Nat.le_refl _ | (simp; done) | (simp; omega))
      · rw [hb] at hG
        have hA1 := hA (w.alloc (.cells #[.bool false, .int .i64 0, .bool false] 117)) ((Below.refl _ _).alloc (Nat.le_refl _) _)
        go_enter Tryd.func68, Tryd.ntmps68
        go_wp2_with (fail)
        refine (hG _ hA1).mono ?_
        rintro e w1 ⟨rfl, rfl⟩
        go_wp2_with (fail)
        refine (hI1 _).mono ?_
        rintro e w2 ⟨rfl, rfl⟩
        go_wp2_with (fail)
        refine (hI2 _).mono ?_
        rintro e w3 ⟨rfl, rfl⟩
        go_wp2
        refine bodyPost_ret (v := .tuple #[.agg #[.bool false, .int .i64 0, .bool false], .int .i64 (-3)]) ?res rfl ⟨rfl, ?_⟩
        case res => simp [results, Tryd.results68, go_sem]
        (repeat' (with_reducible (first | exact Below.refl _ _ | apply Below.setCell | apply Below.alloc | apply below_drewN | apply Below.drew))) <;> (first | exact Nat.le_refl _ | (simp; done) | (simp; omega))
  · obtain ⟨P, O, rfl, rfl, hP, hO⟩ := goodR_nat hr
    have ht := goodR_tab hr
    obtain ⟨ho, h6⟩ := tabB_ok ht
    obtain rfl : len = 6 := by omega
    have hE : walkE ms P O = entOf ms P := by rw [walkE, hr]; rfl
    have hW : walkG ms P O wr = bif (entOf ms P).1 then (bif wr && !(entOf ms P).2.2 then -2 else 0) else -1 := by rw [walkG, hr]; rfl
    have hg : (tabM ms).getD P (false, 0, false) = entOf ms P := tabM_get ms P hP
    rw [hE, hW]
    rw [ht] at hG
    rw [show (decide (0 ≤ (P : Int)) && decide ((P : Int) ≤ 5)) = true by simp; omega] at hI1
    rw [show (decide (0 ≤ (O : Int)) && decide ((O : Int) ≤ 3)) = true by simp; omega] at hI2
    generalize entOf ms P = en at hg ⊢
    obtain ⟨eh, ep, ew⟩ := en
    have hPi : (P : Int) < 6 := by omega
    unfold entV
    clear hE hW hr ht
    have hA1 := hA (w.alloc (.cells #[.bool false, .int .i64 0, .bool false] 117)) ((Below.refl _ _).alloc (Nat.le_refl _) _)
    go_enter Tryd.func68, Tryd.ntmps68
    go_wp2_with (fail)
    refine (hG _ hA1).mono ?_
    rintro e w1 ⟨rfl, rfl⟩
    go_wp2_with (fail)
    refine (hI1 _).mono ?_
    rintro e w2 ⟨rfl, rfl⟩
    go_wp2_with (fail)
    refine (hI2 _).mono ?_
    rintro e w3 ⟨rfl, rfl⟩
    go_wp2_with (fail)
    refine (specMemTab_yes lo hi a cap ms _ hA1 (by simp; omega) ho).mono ?_
    rintro e w4 ⟨T, c, rfl, hT1, hT2, hEn, B4⟩
    obtain ⟨q0, q1, q2⟩ := hEn P (by rw [tabM_len]; exact hP)
    rw [hg] at q0 q1 q2
    simp only [Nat.zero_add] at q0 q1 q2
    obtain ⟨⟨c0, c1, c2⟩, ⟨f0, f1, f2⟩, hlt⟩ := keep6 B4 w.heap.size (by simp) (by simp)
    have B0 : Below w.heap.size w w4 := ((Below.refl w.heap.size w).alloc (Nat.le_refl _) _).trans (B4.mono (by simp))
    clear hEn hg B4 hG hI1 hI2 hA hA1 hT1
    cases eh
    · go_wp2
      refine bodyPost_ret (v := .tuple #[.agg #[.bool false, .int .i64 ep, .bool ew], .int .i64 (-1)]) ?res rfl ⟨rfl, ?_⟩
      case res => simp [results, Tryd.results68, go_sem, c0, c1, c2, hlt]
      (repeat' (with_reducible (first | exact Below.refl _ _ | apply Below.setCell | apply Below.alloc | apply below_drewN | apply Below.drew | refine Below.trans ?_ (Below.mono (by assumption) ?_)))) <;> (first | exact Nat.le_refl _ | (simp; done) | (simp; omega) | (simp at *; omega))
    · cases wr <;> cases ew
      · go_wp2
        refine bodyPost_ret (v := .tuple #[.agg #[.bool true, .int .i64 ep, .bool false], .int .i64 0]) ?res rfl ⟨rfl, ?_⟩
        case res => simp [results, Tryd.results68, go_sem, c0, c1, c2, hlt]
        (repeat' (with_reducible (first | exact Below.refl _ _ | apply Below.setCell | apply Below.alloc | apply below_drewN | apply Below.drew | refine Below.trans ?_ (Below.mono (by assumption) ?_)))) <;> (first | exact Nat.le_refl _ | (simp; done) | (simp; omega) | (simp at *; omega))
      · go_wp2
        refine bodyPost_ret (v := .tuple #[.agg #[.bool true, .int .i64 ep, .bool true], .int .i64 0]) ?res rfl ⟨rfl, ?_⟩
        case res => simp [results, Tryd.results68, go_sem, c0, c1, c2, hlt]
        (repeat' (with_reducible (first | exact Below.refl _ _ | apply Below.setCell | apply Below.alloc | apply below_drewN | apply Below.drew | refine Below.trans ?_ (Below.mono (by assumption) ?_)))) <;> (first | exact Nat.le_refl _ | (simp; done) | (simp; omega) | (simp at *; omega))
      · go_wp2
        refine bodyPost_ret (v := .tuple #[.agg #[.bool true, .int .i64 ep, .bool false], .int .i64 (-2)]) ?res rfl ⟨rfl, ?_⟩
        case res => simp [results, Tryd.results68, go_sem, c0, c1, c2, hlt]
        (repeat' (with_reducible (first | exact Below.refl _ _ | apply Below.setCell | apply Below.alloc | apply below_drewN | apply Below.drew | refine Below.trans ?_ (Below.mono (by assumption) ?_)))) <;> (first | exact Nat.le_refl _ | (simp; done) | (simp; omega) | (simp at *; omega))
      · go_wp2
        refine bodyPost_ret (v := .tuple #[.agg #[.bool true, .int .i64 ep, .bool true], .int .i64 0]) ?res rfl ⟨rfl, ?_⟩
        case res => simp [results, Tryd.results68, go_sem, c0, c1, c2, hlt]
        (repeat' (with_reducible (first | exact Below.refl _ _ | apply Below.setCell | apply Below.alloc | apply below_drewN | apply Below.drew | refine Below.trans ?_ (Below.mono (by assumption) ?_)))) <;> (first | exact Nat.le_refl _ | (simp; done) | (simp; omega) | (simp at *; omega))
end Go.Proofs.YteelpikhijkmdaaDoor
