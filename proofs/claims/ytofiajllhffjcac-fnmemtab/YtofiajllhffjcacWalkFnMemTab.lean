/-
  The walk of the law FnMemTab.
-/
import Derived.Test.YtofiajllhffjcacMemEnt0
namespace Go.Proofs.Ytofiajllhffjcac
open Go.RowKit

set_option maxHeartbeats 20000000 in
theorem walk_FnMemTab (a0 : Option Addr) (len0 cap0 : Nat) (z0 : List Int) (w : World) (w0 : IsRow .u8 w a0 len0 cap0 z0) :
    Calls Try.prog 7 #[.slice a0 len0 cap0] w fun e w' => e = .returned (.bool true) ∧ Below w.heap.size w w' := by
  by_cases hbig : (1048576 : Int) < (len0 : Int)
  · go_enter Try.func7, Try.ntmps7
    go_wp2
    go_ret
    exact ⟨rfl, Below.refl _ _⟩
  go_enter Try.func7, Try.ntmps7
  go_wp2_with (fail)
  refine (drawMemTab a0 len0 cap0 z0 _ w0).mono ?_
  rintro e v3 ⟨a, n, c, ms, rfl, ⟨hM3, hn6, h4⟩, B03⟩
  have hn : n ≤ 1048576 := by omega
  have hL : ∀ i, i < n → (ms.getD i []).length ≤ 1048576 := fun i hi => by have := h4 i hi; omega
  have hlm := hM3.1
  have htl := tabL_len ms
  have s3 : v3.heap.size ≤ v3.heap.size := Nat.le_refl _
  go_wp2_with (fail)
  refine (implMemTab _ _ a n c ms _ hM3 s3 hn).mono ?_
  rintro e v5 ⟨at', ct, rfl, Mt, B5⟩
  have B05 := B03.trans (B5.mono B03.size)
  have hM5 := hM3.same (below_sameIn B5 s3)
  have s5 : v3.heap.size ≤ v5.heap.size := B5.size
  have Mt := Mt.has
  have t5 : v5.heap.size ≤ v5.heap.size := Nat.le_refl _
  clear B03 hM3 B5 s3
  go_wp2_with (fail)
  refine (specMemTab _ _ a n c ms _ hM5 s5 hn hL).mono ?_
  rintro e v6 ⟨aw, cw, rfl, Mw, B6⟩
  have B06 := B05.trans (B6.mono B05.size)
  have hM6 := hM5.same (below_sameIn B6 s5)
  have s6 := Nat.le_trans s5 B6.size
  have Mt6 := Mt.same (below_sameIn B6 t5)
  have t6 := Nat.le_trans t5 B6.size
  clear B05 hM5 s5 B6 Mt t5
  go_wp2_with (fail)
  refine (lkEnts _ _ _ _ _ _ (tabL ms).length _ _ (tabL ms) _ Mt6 Mw (by omega)).mono ?_
  rintro e v7 ⟨rfl, B7⟩
  have B07 := B06.trans (B7.mono B06.size)
  have hM7 := hM6.same (below_sameIn B7 s6)
  have s7 := Nat.le_trans s6 B7.size
  have Mt7 := Mt6.same (below_sameIn B7 t6)
  have t7 := Nat.le_trans t6 B7.size
  clear B06 hM6 s6 B7 Mt6 t6 Mw
  cases hT : tabB ms
  · have hl0 : (((tabL ms).length : Int) == 0) = true := by rw [tabL, hT]; rfl
    go_wp2_with (fail)
    refine (specMemTab _ _ a n c ms _ hM7 s7 hn hL).mono ?_
    rintro e v9 ⟨aw', cw', rfl, Mw', B9⟩
    have B09 := B07.trans (B9.mono B07.size)
    have Mt9 := Mt7.same (below_sameIn B9 t7)
    clear B07 hM7 s7 B9 Mt7
    go_wp2_with (fail)
    refine (lkEnts _ _ _ _ _ _ (tabL ms).length _ _ (tabL ms) _ Mt9 Mw' (by omega)).mono ?_
    rintro e v10 ⟨rfl, B10⟩
    go_wp2
    go_ret
    exact ⟨rfl, B09.trans (B10.mono B09.size)⟩
  · have hT' := hT
    simp only [tabB, Bool.and_eq_true, beq_iff_eq] at hT'
    obtain ⟨hok, h6⟩ := hT'
    have hn6' : n = 6 := by omega
    subst hn6'
    rw [show tabL ms = tabM ms by rw [tabL, hT]; rfl] at Mt7 ⊢
    rw [tabM_len] at Mt7 ⊢
    obtain ⟨_, hd⟩ := Mt7
    rcases hd with h0 | ⟨T, rfl, hT1, hT2, Et⟩
    · omega
    have hAt : ∀ (W : World) (k : Nat), Below v7.heap.size v7 W → k < 6 → Calls Try.prog 17 #[.slice a 6 c, .int .i64 ((k / 4 : Nat) : Int), .int .i64 ((k % 4 : Nat) : Int)] W fun e w' => e = .returned (.tuple #[.int .i64 (atM ms (k / 4) (k % 4)), .bool true]) ∧ Below W.heap.size W w' := fun W k hB hk => by
      have hA : atB ms ((k / 4 : Nat) : Int) ((k % 4 : Nat) : Int) = true := by
        rw [atB, hok, hlm]
        simp [placeB]
        omega
      have := implMemAt _ _ a 6 c ms ((k / 4 : Nat) : Int) ((k % 4 : Nat) : Int) W (hM7.same (below_sameIn hB s7)) (Nat.le_trans s7 hB.size) hn
      rw [hA, show atZ ms ((k / 4 : Nat) : Int) ((k % 4 : Nat) : Int) = atM ms (k / 4) (k % 4) by simp only [atZ, hA, cond_true, Int.toNat_natCast]] at this
      exact this
    clear htl hT
    have lT7 : T < v7.heap.size := by omega
    go_wp2
    go_loopw [5, 6, 7] (fun i _ _ wr => ∃ k : Nat, k ≤ 6 ∧ i = .int .i64 k ∧ Below v7.heap.size v7 wr) (fun i _ _ _ => 6 - (intOf i).toNat)
    case atStart => exact ⟨0, Nat.zero_le _, rfl, Below.refl _ _⟩
    case round =>
      obtain ⟨k, hk, rfl, hB⟩ := hrel
      by_cases hkl : k < 6
      · obtain ⟨q0, q1, q2⟩ := Et k (by rw [tabM_len]; exact hkl)
        have hA := hAt wr k hB hkl
        rw [tabM_get ms k hkl] at q0 q1 q2
        simp only [Nat.zero_add] at q0 q1 q2
        obtain ⟨P, hP⟩ : ∃ P : Nat, P = k / 4 := ⟨_, rfl⟩
        obtain ⟨O, hO⟩ : ∃ O : Nat, O = k % 4 := ⟨_, rfl⟩
        have hPe : (k : Int) / 4 = (P : Int) := by omega
        have hOe : (k : Int) % 4 = (O : Int) := by omega
        rw [← hP, ← hO] at hA q0 q1 q2
        clear hP hO
        have hEn : ∀ W, Calls Try.prog 25 #[.int .i64 (atM ms P O)] W fun e w' => e = .returned (.agg #[.bool (inW (atM ms P O)), .int .i64 (pgW (atM ms P O)), .bool (wrW (atM ms P O))]) ∧ Below W.heap.size W w' := fun W => implEntryOf (atM ms P O) W
        have hlow : inW (atM ms P O) = true → 2 ≤ pgW (atM ms P O) := fun h => by
          have := inW_bd h
          simp [pgW, h]
          omega
        unfold entE at q0 q1 q2
        generalize atM ms P O = z at hA q0 q1 q2 hEn hlow
        generalize inW z = eh at q0 hEn hlow
        generalize pgW z = ep at q1 hEn hlow
        generalize wrW z = ew at q2 hEn
        have hki : (k : Int) < 6 := by omega
        go_wp2_with (fail)
        refine hA.mono ?_
        rintro e w8 ⟨rfl, B8⟩
        have hB8 := hB.trans (B8.mono hB.size)
        have c0 := (hB8.cell (p := ⟨T, k * 3, none⟩) lT7).trans q0
        have c1 := (hB8.cell (p := ⟨T, k * 3 + 1, none⟩) lT7).trans q1
        have c2 := (hB8.cell (p := ⟨T, k * 3 + 2, none⟩) lT7).trans q2
        have hs8 : v7.heap.size ≤ w8.heap.size := hB8.size
        have lT : T < w8.heap.size := Nat.lt_of_lt_of_le lT7 hs8
        clear hA hB B8 q0 q1 q2 hAt hPe hOe
        cases eh
        · clear hlow
          go_wp2_with (fail)
          first | (go_region_with (go_at_call 25; refine (hEn _).mono ?_; rintro e w9 ⟨rfl, B9⟩; have n0 := (B9.cell (p := ⟨T, k * 3, none⟩) lT).trans c0; have n1 := (B9.cell (p := ⟨T, k * 3 + 1, none⟩) lT).trans c1; have n2 := (B9.cell (p := ⟨T, k * 3 + 2, none⟩) lT).trans c2)) | fail
          all_goals
            go_wp2
            go_roundw
            case rel =>
              refine ⟨k + 1, by omega, by go_num, ?_⟩
              (repeat' (with_reducible (first | exact Below.refl _ _ | apply Below.setCell | apply Below.alloc | apply below_drewN | apply Below.drew | refine Below.trans ?_ (Below.mono (by assumption) ?_)))) <;> (first | exact Nat.le_refl _ | (simp; done) | (simp; omega) | (simp at *; omega))
            case measure => simp [intOf]; omega
        · have hl2 := hlow rfl
          have hl2' : ¬ ep < 2 := by omega
          clear hlow
          go_wp2_with (fail)
          first | (go_region_with (go_at_call 25; refine (hEn _).mono ?_; rintro e w9 ⟨rfl, B9⟩; have n0 := (B9.cell (p := ⟨T, k * 3, none⟩) lT).trans c0; have n1 := (B9.cell (p := ⟨T, k * 3 + 1, none⟩) lT).trans c1; have n2 := (B9.cell (p := ⟨T, k * 3 + 2, none⟩) lT).trans c2)) | fail
          all_goals
            go_wp2
            go_roundw
            case rel =>
              refine ⟨k + 1, by omega, by go_num, ?_⟩
              (repeat' (with_reducible (first | exact Below.refl _ _ | apply Below.setCell | apply Below.alloc | apply below_drewN | apply Below.drew | refine Below.trans ?_ (Below.mono (by assumption) ?_)))) <;> (first | exact Nat.le_refl _ | (simp; done) | (simp; omega) | (simp at *; omega))
            case measure => simp [intOf]; omega
      · go_wp2_with (fail)
        have hok6 : ((tabM ms).all okE && (((6 : Nat) : Int) == 6)) = true := by rw [okE_tab]; rfl
        refine (implTabOk T 0 6 _ (tabM ms) _ (tabM_len _) (Nat.lt_of_lt_of_le lT7 hB.size) (Et.below hB lT7)).mono ?_
        rintro e w8 ⟨rfl, B8⟩
        rw [hok6]
        go_wp2
        go_ret
        exact ⟨rfl, B07.trans ((hB.trans (B8.mono hB.size)).mono B07.size)⟩
end Go.Proofs.Ytofiajllhffjcac
