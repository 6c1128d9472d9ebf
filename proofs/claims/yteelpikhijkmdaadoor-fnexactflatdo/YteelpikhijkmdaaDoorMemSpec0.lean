/-
  What the given functions that ask of memory do.
-/
import Derived.Test.YteelpikhijkmdaaDoorMemFns0
namespace Go.Proofs.YteelpikhijkmdaaDoor
open Go.RowKit

set_option maxHeartbeats 400000 in
theorem specIn (n l h : Int) (w : World) :
    Calls Tryd.prog 58 #[.int .i64 n, .int .i64 l, .int .i64 h] w fun e w' => e = .returned (.bool (decide (l ≤ n) && decide (n ≤ h))) ∧ w' = w := by
  by_cases h0 : l ≤ n
  · by_cases h1 : n ≤ h
    · rw [show (decide (l ≤ n) && decide (n ≤ h)) = true by simp [h0, h1]]
      go_enter Tryd.func58, Tryd.ntmps58
      go_wp2
      go_ret
      exact ⟨rfl, rfl⟩
    · rw [show (decide (l ≤ n) && decide (n ≤ h)) = false by simp [h1]]
      go_enter Tryd.func58, Tryd.ntmps58
      go_wp2
      go_ret
      exact ⟨rfl, rfl⟩
  · rw [show (decide (l ≤ n) && decide (n ≤ h)) = false by simp [h0]]
    go_enter Tryd.func58, Tryd.ntmps58
    go_wp2
    go_ret
    exact ⟨rfl, rfl⟩

set_option maxHeartbeats 1000000 in
theorem specPageOk (lo hi : Nat) (a : Option Addr) (len cap : Nat) (zs : List Int) (w : World) (h : IsInts w lo hi a len zs) (hn : len ≤ 1048576) :
    Calls Tryd.prog 74 #[.slice a len cap] w fun e w' => e = .returned (.bool (okP zs)) ∧ w' = w := by
  obtain ⟨hl, hd⟩ := h
  go_enter Tryd.func74, Tryd.ntmps74
  go_wp2
  go_loop [3] (fun i => ∃ k : Nat, k ≤ len ∧ i = .int .i64 k ∧ Hid ((zs.take k).all okZ = true)) (fun i => len - (intOf i).toNat)
  case atStart => exact ⟨0, Nat.zero_le _, rfl, rfl⟩
  case round =>
    obtain ⟨k, hk, rfl, hok⟩ := hrel
    by_cases hkl : k < len
    · rcases hd with h0 | ⟨b, o, rfl, _, _, hc⟩
      · omega
      have c := hc k (by omega)
      have hlt' : k < zs.length := by omega
      have hg : zs.getD k 0 = zs[k] := getD_lt hlt'
      generalize hz : zs.getD k 0 = z at c hg
      have hI := specIn z 0 63
      rw [show (decide (0 ≤ z) && decide (z ≤ 63)) = okZ z from rfl] at hI
      have hki : (k : Int) < (len : Int) := by omega
      clear hc hz
      cases hO : okZ z
      · have HF : Hid (okP zs = false) := by
          have := all_no (f := okZ) hlt' (by rw [← hg]; exact hO)
          show okP zs = false
          simp [okP, this]
        rw [hO] at hI
        clear hg
        go_wp2_with (go_at_call 58; refine (hI _).mono ?_; rintro e w' ⟨rfl, rfl⟩)
        go_ret
        exact ⟨by rw [HF.out]; rfl, rfl⟩
      · have HT : Hid ((zs.take (k + 1)).all okZ = true) := all_more hlt' hok.out (by rw [← hg]; exact hO)
        rw [hO] at hI
        clear hg
        go_wp2_with (go_at_call 58; refine (hI _).mono ?_; rintro e w' ⟨rfl, rfl⟩)
        go_round
        case rel => exact ⟨k + 1, by omega, by go_num, HT⟩
        case measure => simp [intOf]; omega
    · have HA : Hid (okP zs = ((len : Int) == 4)) := by
        have := hok.out
        rw [List.take_of_length_le (by omega)] at this
        show okP zs = _
        rw [okP, this, hl, Bool.true_and]
        by_cases h4 : len = 4
        · subst h4; rfl
        · have : ¬ (len : Int) = 4 := by omega
          rw [beq_eq_false_iff_ne.mpr h4, beq_eq_false_iff_ne.mpr this]
      go_wp2
      go_ret
      exact ⟨by rw [HA.out]; rfl, rfl⟩

set_option maxHeartbeats 1000000 in
theorem specMemOk (lo hi : Nat) (a : Option Addr) (len cap : Nat) (ms : List (List Int)) (w : World) (h : IsMem w lo hi a len ms) (hn : len ≤ 1048576) (hL : ∀ i, i < len → (ms.getD i []).length ≤ 1048576) :
    Calls Tryd.prog 57 #[.slice a len cap] w fun e w' => e = .returned (.bool (okM ms)) ∧ w' = w := by
  obtain ⟨hl, hd⟩ := h
  go_enter Tryd.func57, Tryd.ntmps57
  go_wp2
  go_loop [3] (fun i => ∃ k : Nat, k ≤ len ∧ i = .int .i64 k ∧ Hid ((ms.take k).all okP = true)) (fun i => len - (intOf i).toNat)
  case atStart => exact ⟨0, Nat.zero_le _, rfl, rfl⟩
  case round =>
    obtain ⟨k, hk, rfl, hok⟩ := hrel
    by_cases hkl : k < len
    · rcases hd with h0 | ⟨b, o, rfl, _, _, hc⟩
      · omega
      obtain ⟨a', l, c, q, hI⟩ := hc k hkl
      have hlt' : k < ms.length := by omega
      have hg : ms.getD k [] = ms[k] := getD_lt hlt'
      have hP := fun cap => specPageOk lo hi a' l cap _ w hI (by rw [← hI.1]; exact hL k hkl)
      have hki : (k : Int) < (len : Int) := by omega
      clear hc
      cases hO : okP (ms.getD k [])
      · have HF : Hid (okM ms = false) := all_no (f := okP) hlt' (by rw [← hg]; exact hO)
        rw [hO] at hP
        clear hg hI
        go_wp2_with (go_at_call 74; refine (hP _).mono ?_; rintro e w' ⟨rfl, rfl⟩)
        go_ret
        exact ⟨by rw [HF.out]; rfl, rfl⟩
      · have HT : Hid ((ms.take (k + 1)).all okP = true) := all_more hlt' hok.out (by rw [← hg]; exact hO)
        rw [hO] at hP
        clear hg hI
        go_wp2_with (go_at_call 74; refine (hP _).mono ?_; rintro e w' ⟨rfl, rfl⟩)
        go_round
        case rel => exact ⟨k + 1, by omega, by go_num, HT⟩
        case measure => simp [intOf]; omega
    · have HA : Hid (okM ms = true) := by
        have := hok.out
        rwa [List.take_of_length_le (by omega)] at this
      go_wp2
      go_ret
      exact ⟨by rw [HA.out]; rfl, rfl⟩

set_option maxHeartbeats 1000000 in
theorem specMemAt (lo hi : Nat) (a : Option Addr) (len cap : Nat) (ms : List (List Int)) (p o : Int) (w : World) (h : IsMem w lo hi a len ms) (hn : len ≤ 1048576) (hL : ∀ i, i < len → (ms.getD i []).length ≤ 1048576) :
    Calls Tryd.prog 25 #[.slice a len cap, .int .i64 p, .int .i64 o] w fun e w' => e = .returned (.tuple #[.int .i64 (atZ ms p o), .bool (atB ms p o)]) ∧ w' = w := by
  have hl := h.1
  cases ho : okM ms
  · rw [show atZ ms p o = 0 by simp [atZ, atB, ho], show atB ms p o = false by simp [atB, ho]]
    go_enter Tryd.func25, Tryd.ntmps25
    go_wp2_with (fail)
    refine (specMemOk lo hi a len cap ms _ h hn hL).mono ?_
    rintro e w1 ⟨rfl, rfl⟩
    rw [ho]
    go_wp2
    refine bodyPost_ret (v := .tuple #[.int .i64 0, .bool false]) (by simp [results, Tryd.results25, go_sem]) rfl ⟨rfl, rfl⟩
  · have hI1 := specIn p 0 ((len : Int) - 1)
    have hI2 := specIn o 0 3
    cases h1 : (decide (0 ≤ p) && decide (p ≤ (len : Int) - 1))
    · rw [h1] at hI1
      have hpl : placeB len p o = false := by
        simp at h1
        simp [placeB]
        intro a b
        have := h1 a
        omega
      rw [show atZ ms p o = 0 by simp [atZ, atB, hl, hpl], show atB ms p o = false by simp [atB, hl, hpl]]
      go_enter Tryd.func25, Tryd.ntmps25
      go_wp2_with (fail)
      refine (specMemOk lo hi a len cap ms _ h hn hL).mono ?_
      rintro e w1 ⟨rfl, rfl⟩
      rw [ho]
      go_wp2_with (fail)
      refine (hI1 _).mono ?_
      rintro e w2 ⟨rfl, rfl⟩
      go_wp2
      refine bodyPost_ret (v := .tuple #[.int .i64 0, .bool false]) (by simp [results, Tryd.results25, go_sem]) rfl ⟨rfl, rfl⟩
    · rw [h1] at hI1
      cases h2 : (decide (0 ≤ o) && decide (o ≤ 3))
      · rw [h2] at hI2
        have hpl : placeB len p o = false := by
          simp at h2
          simp [placeB]
          intro a b c
          have := h2 c
          omega
        rw [show atZ ms p o = 0 by simp [atZ, atB, hl, hpl], show atB ms p o = false by simp [atB, hl, hpl]]
        go_enter Tryd.func25, Tryd.ntmps25
        go_wp2_with (fail)
        refine (specMemOk lo hi a len cap ms _ h hn hL).mono ?_
        rintro e w1 ⟨rfl, rfl⟩
        rw [ho]
        go_wp2_with (fail)
        refine (hI1 _).mono ?_
        rintro e w2 ⟨rfl, rfl⟩
        go_wp2_with (fail)
        refine (hI2 _).mono ?_
        rintro e w3 ⟨rfl, rfl⟩
        go_wp2
        refine bodyPost_ret (v := .tuple #[.int .i64 0, .bool false]) (by simp [results, Tryd.results25, go_sem]) rfl ⟨rfl, rfl⟩
      · rw [h2] at hI2
        have hpl : placeB len p o = true := by
          simp at h1 h2
          simp [placeB]
          omega
        have hAB : atB ms p o = true := by simp [atB, ho, hl, hpl]
        rw [show atZ ms p o = atM ms p.toNat o.toNat by simp [atZ, hAB], hAB]
        obtain ⟨P, O, rfl, rfl, hP, hO⟩ := placeB_nat hpl
        simp only [Int.toNat_natCast]
        obtain ⟨h4, _⟩ := okM_get ho (k := P) (by omega)
        have h' := h
        obtain ⟨_, hd⟩ := h'
        rcases hd with h0 | ⟨b, of, rfl, _, _, hc⟩
        · omega
        obtain ⟨a', l, c, q, hI⟩ := hc P hP
        obtain ⟨hl4, hd⟩ := hI
        have hl4' : l = 4 := by omega
        subst hl4'
        rcases hd with h0 | ⟨b', o', rfl, _, _, hc'⟩
        · omega
        have c' := hc' O (by omega)
        rw [show (ms.getD P []).getD O 0 = atM ms P O from rfl] at c'
        have hPi : (P : Int) < (len : Int) := by omega
        have hOi : (O : Int) < 4 := by omega
        clear hc hc' hAB hpl h1 h2
        go_enter Tryd.func25, Tryd.ntmps25
        go_wp2_with (fail)
        refine (specMemOk lo hi _ len cap ms _ h hn hL).mono ?_
        rintro e w1 ⟨rfl, rfl⟩
        rw [ho]
        go_wp2_with (fail)
        refine (hI1 _).mono ?_
        rintro e w2 ⟨rfl, rfl⟩
        go_wp2_with (fail)
        refine (hI2 _).mono ?_
        rintro e w3 ⟨rfl, rfl⟩
        go_wp2
        refine bodyPost_ret (v := .tuple #[.int .i64 (atM ms P O), .bool true]) (by simp [results, Tryd.results25, go_sem]) rfl ⟨rfl, rfl⟩
end Go.Proofs.YteelpikhijkmdaaDoor
