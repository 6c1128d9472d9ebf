/-
  The walk of the law FnEntryOf.
-/
import Derived.Test.YtfiailnlkhonnaaDraw
namespace Go.Proofs.Ytfiailnlkhonnaa
open Go.RowKit

theorem num_back (n : Int) (h : inW n = true) : (bif inW n then (bif wrW n then 1 + 2 * pgW n + 1 else 1 + 2 * pgW n) else 0) = n := by
  have hb := inW_bd h
  by_cases e : n % 2 = 0
  · have e' : (n % 2 == 0) = true := by simpa using e
    simp only [wrW, pgW, h, e', Bool.and_self, cond_true]; omega
  · have e' : (n % 2 == 0) = false := by simpa using e
    simp only [wrW, pgW, h, e', Bool.and_false, cond_true, cond_false]; omega

set_option maxHeartbeats 1000000 in
theorem walk_FnEntryOf (a0 : Option Addr) (len0 cap0 : Nat) (z0 : List Int) (w : World) (w0 : IsRow .u8 w a0 len0 cap0 z0) :
    Calls Try.prog 4 #[.slice a0 len0 cap0] w fun e w' => e = .returned (.bool true) ∧ Below w.heap.size w w' := by
  by_cases hbig : (1048576 : Int) < (len0 : Int)
  · go_enter Try.func4, Try.ntmps4
    go_wp2
    go_ret
    exact ⟨rfl, Below.refl _ _⟩
  · go_enter Try.func4, Try.ntmps4
    go_wp2_with (go_at_call 12; refine (drawEntryOf a0 len0 cap0 z0 _ w0).mono ?_; rintro e w1 ⟨n, rfl, hn1, hn2, hb1⟩)
    refine (implEntryOf n _).mono ?_
    rintro e w2 ⟨rfl, hb2⟩
    obtain ⟨hc2, hf2⟩ := bcell hb2
    unfold ent
    go_wp2_with (fail)
    have hS := fun w => specEntryOf n w (by omega) (by omega)
    unfold ent at hS
    have s1 := hb1.size
    have s2 := hb2.size
    cases hI : inW n
    · go_region_with (go_at_call 13; refine (hS _).mono ?_; rintro e w3 ⟨rfl, hb3⟩; obtain ⟨t0, t1, t2⟩ := keep3 hb3 w2.heap.size (by simp); have s3 := lt_size hb3 (b := w2.heap.size) (by simp))
      all_goals
        go_wp2
        go_simp
        go_region_with (go_at_call 13; refine (hS _).mono ?_; rintro e w4 ⟨rfl, hb4⟩; obtain ⟨u0, u1, u2⟩ := keep3 hb4 w2.heap.size (by simpa using s3); have s4 := lt_size hb4 (b := w2.heap.size) (by simpa using s3))
        all_goals
          go_wp2
          go_ret
          refine ⟨rfl, ?_⟩
          have b3 := hb3.size
          have b4 := hb4.size
          (repeat' (first | exact Below.refl _ _ | apply Below.setCell | apply Below.alloc | apply below_drewN | apply Below.drew | refine Below.trans ?_ (Below.mono (by assumption) ?_))) <;> (first | exact Nat.le_refl _ | (simp; done) | (simp; omega) | (simp at *; omega))
    · have hN := num_back n hI
      have hp1 : 2 ≤ pgW n := by have := inW_bd hI; unfold pgW; rw [hI]; simp only [cond_true]; omega
      have hp2 : pgW n < 6 := by have := inW_bd hI; unfold pgW; rw [hI]; simp only [cond_true]; omega
      have hM := fun w => implEntryNum (inW n) (pgW n) (wrW n) w (by omega) (by omega)
      unfold ent at hM
      rw [hN] at hM
      rw [hI] at hM
      clear hN
      go_region_with (go_at_call 13; refine (hS _).mono ?_; rintro e w3 ⟨rfl, hb3⟩; obtain ⟨t0, t1, t2⟩ := keep3 hb3 w2.heap.size (by simp); have s3 := lt_size hb3 (b := w2.heap.size) (by simp))
      all_goals
        go_wp2_with (go_at_call 8; refine (hM _).mono ?_; rintro e w4 ⟨rfl, hb4⟩; obtain ⟨u0, u1, u2⟩ := keep3 hb4 w2.heap.size (by simpa using s3); have s4 := lt_size hb4 (b := w2.heap.size) (by simpa using s3))
        go_ret
        refine ⟨rfl, ?_⟩
        have b3 := hb3.size
        have b4 := hb4.size
        (repeat' (first | exact Below.refl _ _ | apply Below.setCell | apply Below.alloc | apply below_drewN | apply Below.drew | refine Below.trans ?_ (Below.mono (by assumption) ?_))) <;> (first | exact Nat.le_refl _ | (simp; done) | (simp; omega) | (simp at *; omega))
end Go.Proofs.Ytfiailnlkhonnaa
