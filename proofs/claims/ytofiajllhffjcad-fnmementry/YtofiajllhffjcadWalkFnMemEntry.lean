/-
  The walk of the law FnMemEntry.
-/
import Derived.Test.YtofiajllhffjcadMemEnt0
namespace Go.Proofs.Ytofiajllhffjcad
open Go.RowKit

theorem okM_put' {ms : List (List Int)} {P O : Nat} {z : Int} (ho : okM ms = true) (hP : P < ms.length) (hz : okZ z = true) : okM (putM ms P O z) = true := by
  have h1 : okP ((ms.getD P []).set O z) = true := by
    have hp : okP (ms.getD P []) = true := by
      unfold okM at ho
      rw [List.all_eq_true] at ho
      rw [getD_lt hP]
      exact ho _ (List.getElem_mem hP)
    simp only [okP, Bool.and_eq_true, beq_iff_eq, List.all_eq_true, List.length_set] at hp ⊢
    refine ⟨fun x hx => ?_, hp.2⟩
    rcases List.mem_or_eq_of_mem_set hx with h | h
    · exact hp.1 x h
    · rw [h]; exact hz
  unfold okM at ho ⊢
  rw [List.all_eq_true] at ho ⊢
  intro x hx
  rcases List.mem_or_eq_of_mem_set hx with h | h
  · exact ho x h
  · rw [h]; exact h1

/-- An entry in a block. -/
def At3 (w : World) (b : Nat) (h : Bool) (p : Int) (x : Bool) : Prop := b < w.heap.size ∧ w.cell? ⟨b, 0, none⟩ = some (.bool h) ∧ w.cell? ⟨b, 1, none⟩ = some (.int .i64 p) ∧ w.cell? ⟨b, 2, none⟩ = some (.bool x)
theorem At3.below {w w' : World} {b : Nat} {h : Bool} {p : Int} {x : Bool} (k : At3 w b h p x) (hB : Below w.heap.size w w') : At3 w' b h p x :=
  ⟨Nat.lt_of_lt_of_le k.1 hB.size, (hB.cell (p := ⟨b, 0, none⟩) k.1).trans k.2.1, (hB.cell (p := ⟨b, 1, none⟩) k.1).trans k.2.2.1, (hB.cell (p := ⟨b, 2, none⟩) k.1).trans k.2.2.2⟩
theorem at3_new (w : World) (h : Bool) (p : Int) (x : Bool) (t : TypeId) : At3 (w.alloc (.cells #[.bool h, .int .i64 p, .bool x] t)) w.heap.size h p x := ⟨by simp, by simp, by simp, by simp⟩

set_option maxHeartbeats 1000000 in
theorem walk_FnMemEntry (a0 : Option Addr) (len0 cap0 : Nat) (z0 : List Int) (a1 : Option Addr) (len1 cap1 : Nat) (z1 : List Int) (w : World) (w0 : IsRow .u8 w a0 len0 cap0 z0) (w1 : IsRow .u8 w a1 len1 cap1 z1) :
    Calls Try.prog 4 #[.slice a0 len0 cap0, .slice a1 len1 cap1] w fun e w' => e = .returned (.bool true) ∧ Below w.heap.size w w' := by
  by_cases hbig : (1048576 : Int) < (len0 : Int)
  · go_enter Try.func4, Try.ntmps4
    go_wp2
    go_ret
    exact ⟨rfl, Below.refl _ _⟩
  by_cases hbig' : (1048576 : Int) < (len1 : Int)
  · go_enter Try.func4, Try.ntmps4
    go_wp2
    go_ret
    exact ⟨rfl, Below.refl _ _⟩
  go_enter Try.func4, Try.ntmps4
  go_wp2_with (fail)
  refine (drawMemTab a0 len0 cap0 z0 _ w0).mono ?_
  rintro e v1 ⟨a, n, c, ms, rfl, ⟨hM, hn6, h4⟩, B1⟩
  have hn : n ≤ 1048576 := by omega
  have hL : ∀ i, i < n → (ms.getD i []).length ≤ 1048576 := fun i hi => by have := h4 i hi; omega
  have hlm := hM.1
  go_wp2_with (fail)
  refine (drawEntryNum a1 len1 cap1 z1 _ (w1.below B1)).mono ?_
  rintro e v2 ⟨eh, ep, eb, rfl, hp0, hp1, B2⟩
  have B02 := B1.trans (B2.mono B1.size)
  have hM2 := hM.same (below_sameIn B2 (Nat.le_refl _))
  have s2 : v1.heap.size ≤ v2.heap.size := B2.size
  clear B1 B2 hM
  go_wp2_with (fail)
  have A0 := at3_new v2 eh ep eb 34
  have BA : Below v2.heap.size v2 (v2.alloc (.cells #[.bool eh, .int .i64 ep, .bool eb] 34)) := (Below.refl _ _).alloc (Nat.le_refl _) _
  have B03 := B02.trans (BA.mono B02.size)
  have hM3 := hM2.same (below_sameIn BA s2)
  have s3 := Nat.le_trans s2 BA.size
  clear BA B02 hM2
  generalize v2.alloc (.cells #[.bool eh, .int .i64 ep, .bool eb] 34) = v3 at A0 B03 hM3 s3
  generalize v2.heap.size = be at A0 s2
  clear s2
  refine (implMemTab _ _ a n c ms _ hM3 s3 hn).mono ?_
  rintro e v4 ⟨at', ct, rfl, Mt, B4⟩
  have A4 := A0.below B4
  have B04 := B03.trans (B4.mono B03.size)
  have hM4 := hM3.same (below_sameIn B4 s3)
  have s4 := Nat.le_trans s3 B4.size
  have Mt := Mt.has
  clear A0 B03 hM3 s3 B4
  have hI : ∀ W, Calls Try.prog 14 #[.agg #[.bool eh, .int .i64 ep, .bool eb]] W fun e w' => e = .returned (.int .i64 (bif eh then (bif eb then 1 + 2 * ep + 1 else 1 + 2 * ep) else 0)) ∧ Below W.heap.size W w' := fun W => implEntryNum eh ep eb W (by omega) (by omega)
  have hS : ∀ W, Calls Try.prog 17 #[.agg #[.bool eh, .int .i64 ep, .bool eb]] W fun e w' => e = .returned (.int .i64 (bif eh then (bif eb then 1 + 2 * ep + 1 else 1 + 2 * ep) else 0)) ∧ Below W.heap.size W w' := fun W => specEntryNum eh ep eb W (by omega) (by omega)
  have hb : -1 ≤ (bif eh then (bif eb then 1 + 2 * ep + 1 else 1 + 2 * ep) else 0) ∧ (bif eh then (bif eb then 1 + 2 * ep + 1 else 1 + 2 * ep) else 0) ≤ 20 := by cases eh <;> cases eb <;> simp <;> omega
  generalize (bif eh then (bif eb then 1 + 2 * ep + 1 else 1 + 2 * ep) else 0 : Int) = x at hI hS hb
  obtain ⟨hx0, hx1⟩ := hb
  obtain ⟨_, j0, j1, j2⟩ := id A4
  go_wp2_with (fail)
  refine (hI _).mono ?_
  rintro e v5 ⟨rfl, B5⟩
  have A5 := A4.below B5
  have B05 := B04.trans (B5.mono B04.size)
  have hM5 := hM4.same (below_sameIn B5 s4)
  have s5 := Nat.le_trans s4 B5.size
  have Mt5 := Mt.same (below_sameIn B5 (Nat.le_refl _))
  have t5 : v4.heap.size ≤ v5.heap.size := B5.size
  have htl := tabL_len ms
  clear A4 B04 hM4 s4 B5 Mt j0 j1 j2
  go_wp2_with (fail)
  refine (specMemTab _ _ a n c ms _ hM5 s5 hn hL).mono ?_
  rintro e v6 ⟨aw, cw, rfl, Mw, B6⟩
  have A6 := A5.below B6
  have B06 := B05.trans (B6.mono B05.size)
  have hM6 := hM5.same (below_sameIn B6 s5)
  have s6 := Nat.le_trans s5 B6.size
  have Mt6 := Mt5.same (below_sameIn B6 t5)
  have t6 := Nat.le_trans t5 B6.size
  clear A5 B05 hM5 s5 B6 Mt5 t5
  go_wp2_with (fail)
  refine (lkEnts _ _ _ _ _ _ (tabL ms).length _ _ (tabL ms) _ Mt6 Mw (by omega)).mono ?_
  rintro e v7 ⟨rfl, B7⟩
  have A7 := A6.below B7
  have B07 := B06.trans (B7.mono B06.size)
  have hM7 := hM6.same (below_sameIn B7 s6)
  have s7 := Nat.le_trans s6 B7.size
  have Mt7 := Mt6.same (below_sameIn B7 t6)
  have t7 := Nat.le_trans t6 B7.size
  clear A6 B06 hM6 s6 B7 Mt6 t6 Mw
  obtain ⟨_, j0, j1, j2⟩ := id A7
  go_wp2_with (fail)
  refine (hS _).mono ?_
  rintro e v8 ⟨rfl, B8⟩
  have A8 := A7.below B8
  have B08 := B07.trans (B8.mono B07.size)
  have hM8 := hM7.same (below_sameIn B8 s7)
  have s8 := Nat.le_trans s7 B8.size
  have Mt8 := Mt7.same (below_sameIn B8 t7)
  have t8 := Nat.le_trans t7 B8.size
  clear A7 B07 hM7 s7 B8 Mt7 t7 j0 j1 j2
  cases hT : tabB ms
  · have hl0 : (((tabL ms).length : Int) == 0) = true := by rw [tabL, hT]; rfl
    go_wp2_with (fail)
    refine (specMemTab _ _ a n c ms _ hM8 s8 hn hL).mono ?_
    rintro e v9 ⟨aw', cw', rfl, Mw', B9⟩
    have A9 := A8.below B9
    have B09 := B08.trans (B9.mono B08.size)
    have Mt9 := Mt8.same (below_sameIn B9 t8)
    clear A8 B08 hM8 s8 B9 Mt8
    go_wp2_with (fail)
    refine (lkEnts _ _ _ _ _ _ (tabL ms).length _ _ (tabL ms) _ Mt9 Mw' (by omega)).mono ?_
    rintro e v10 ⟨rfl, B10⟩
    have A10 := A9.below B10
    have B010 := B09.trans (B10.mono B09.size)
    clear A9 B09 B10 Mt9 Mw'
    obtain ⟨_, j0, j1, j2⟩ := id A10
    go_wp2_with (fail)
    refine (hS _).mono ?_
    rintro e v11 ⟨rfl, B11⟩
    have B011 := B010.trans (B11.mono B010.size)
    go_wp2
    go_ret
    exact ⟨rfl, B011⟩
  · have hl0 : (((tabL ms).length : Int) == 0) = false := by rw [tabL, hT, cond_true, tabM_len]; rfl
    by_cases hx : x < 0
    · skip
      go_wp2_with (fail)
      refine (specMemTab _ _ a n c ms _ hM8 s8 hn hL).mono ?_
      rintro e v9 ⟨aw', cw', rfl, Mw', B9⟩
      have A9 := A8.below B9
      have B09 := B08.trans (B9.mono B08.size)
      have Mt9 := Mt8.same (below_sameIn B9 t8)
      clear A8 B08 hM8 s8 B9 Mt8
      go_wp2_with (fail)
      refine (lkEnts _ _ _ _ _ _ (tabL ms).length _ _ (tabL ms) _ Mt9 Mw' (by omega)).mono ?_
      rintro e v10 ⟨rfl, B10⟩
      have A10 := A9.below B10
      have B010 := B09.trans (B10.mono B09.size)
      clear A9 B09 B10 Mt9 Mw'
      obtain ⟨_, j0, j1, j2⟩ := id A10
      go_wp2_with (fail)
      refine (hS _).mono ?_
      rintro e v11 ⟨rfl, B11⟩
      have B011 := B010.trans (B11.mono B010.size)
      go_wp2
      go_ret
      exact ⟨rfl, B011⟩
    · have hx63 : ¬ (63 : Int) < x := by omega
      have hT' := hT
      simp only [tabB, Bool.and_eq_true, beq_iff_eq] at hT'
      obtain ⟨hok, h6⟩ := hT'
      have hn6' : n = 6 := by omega
      subst hn6'
      obtain ⟨kk, hkk6, hkk⟩ : ∃ kk : Nat, kk < 6 ∧ (len1 : Int) % 6 = (kk : Int) := ⟨len1 % 6, Nat.mod_lt _ (by omega), by omega⟩
      obtain ⟨P, O, hPe, hOe, hP, hO, hPO⟩ : ∃ P O : Nat, (kk : Int) / 4 = (P : Int) ∧ (kk : Int) % 4 = (O : Int) ∧ P < 6 ∧ O < 4 ∧ kk = P * 4 + O := ⟨kk / 4, kk % 4, by omega, by omega, by omega, by omega, by omega⟩
      have hz : okZ x = true := by simp [okZ]; omega
      have hB : (atB ms P O && okZ x) = true := by
        rw [hz, atB, hok, h6]
        simp [placeB]
        omega
      have hokx : okM (putM ms P O x) = true := okM_put' hok (by omega) hz
      have hat : atE (tabM (putM ms P O x)) kk = entE x := by
        have h4P : (ms.getD P []).length = 4 := (okM_get hok (by omega)).1
        unfold atE
        rw [okE_tab, tabM_len, if_pos (by simp; omega), Int.toNat_natCast, tabM_get _ kk hkk6, atM_put x (by omega) h4P hO, if_pos (by omega)]
      have hEO : ∀ W, Calls Try.prog 19 #[.int .i64 x] W fun e w' => e = .returned (.agg #[.bool (inW x), .int .i64 (pgW x), .bool (wrW x)]) ∧ Below W.heap.size W w' := fun W => implEntryOf x W
      have hW := implMemWith_yes _ _ a 6 c ms P O x _ hM8 s8 hn hB
      clear hPO A8 Mt8 hz hB
      go_wp2_with (fail)
      refine hW.mono ?_
      rintro e v9 ⟨T, rfl, hX, B9⟩
      have B09 := B08.trans (B9.mono B08.size)
      clear B9
      go_wp2_with (fail)
      refine (implMemTab_yes _ _ _ 6 (putM ms P O x) _ hX.mem (Nat.le_refl _) hokx).mono ?_
      rintro e v10 ⟨Tt, rfl, _, lTt, Et, _, B10⟩
      have B010 := B09.trans (B10.mono B09.size)
      clear B10 hX
      go_wp2_with (fail)
      refine (implTabAt Tt 0 6 6 (tabM (putM ms P O x)) kk _ (tabM_len _) lTt Et).mono ?_
      rintro e v11 ⟨rfl, B11⟩
      have B011 := B010.trans (B11.mono B010.size)
      clear B11
      rw [hat]
      unfold entV entE
      go_wp2_with (fail)
      refine (hEO _).mono ?_
      rintro e v12 ⟨rfl, B12⟩
      have B012 := B011.trans (B12.mono B011.size)
      clear B12
      go_wp2
      go_ret
      exact ⟨rfl, B012⟩
end Go.Proofs.Ytofiajllhffjcad
