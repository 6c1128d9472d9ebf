/-
  What the program's own asking of a lodger does.
-/
import Derived.Test.YtpaeigmdhmmjmaaKTen0
import Derived.Test.YtpaeigmdhmmjmaaKEqSheet0
set_option linter.unusedSimpArgs false
namespace Go.Proofs.Ytpaeigmdhmmjmaa
open Go.RowKit
attribute [local go_sem ↓] Go.wp_at_zero Go.wp_at_succ exec_app exec_lod exec_house exec_mapsA exec_allocL exec_storeL exec_idxM exec_look exec_upd
attribute [local go_sem] bigNext_ok bigSkip_ok

theorem implFrameOk (n : Int) (w : World) : Calls Try.prog 68 #[.int .i64 n] w fun e w' => e = .returned (.bool (decide (0 ≤ n) && decide (n ≤ 7))) ∧ w' = w := by
  by_cases h1 : 0 ≤ n
  · by_cases h2 : n < 8
    · rw [show (decide (0 ≤ n) && decide (n ≤ 7)) = true by simp; omega]
      go_enter Try.func68, Try.ntmps68
      go_wp2
      go_ret
      exact ⟨rfl, rfl⟩
    · rw [show (decide (0 ≤ n) && decide (n ≤ 7)) = false by simp; omega]
      go_enter Try.func68, Try.ntmps68
      go_wp2
      go_ret
      exact ⟨rfl, rfl⟩
  · rw [show (decide (0 ≤ n) && decide (n ≤ 7)) = false by simp [h1]]
    go_enter Try.func68, Try.ntmps68
    go_wp2
    go_ret
    exact ⟨rfl, rfl⟩
theorem implPageOk (n : Int) (w : World) : Calls Try.prog 89 #[.int .i64 n] w fun e w' => e = .returned (.bool (decide (0 ≤ n) && decide (n ≤ 5))) ∧ w' = w := by
  by_cases h1 : 0 ≤ n
  · by_cases h2 : n < 6
    · rw [show (decide (0 ≤ n) && decide (n ≤ 5)) = true by simp; omega]
      go_enter Try.func89, Try.ntmps89
      go_wp2
      go_ret
      exact ⟨rfl, rfl⟩
    · rw [show (decide (0 ≤ n) && decide (n ≤ 5)) = false by simp; omega]
      go_enter Try.func89, Try.ntmps89
      go_wp2
      go_ret
      exact ⟨rfl, rfl⟩
  · rw [show (decide (0 ≤ n) && decide (n ≤ 5)) = false by simp [h1]]
    go_enter Try.func89, Try.ntmps89
    go_wp2
    go_ret
    exact ⟨rfl, rfl⟩

/-- What a map must be, by how many pages are in its frame. -/
def okMapI (n : Nat) (m : E3) (disk : List Int) : Bool := bif m.1 then (decide (0 ≤ m.2.1) && decide (m.2.1 ≤ 7)) && (blankP disk && (!m.2.2 || (n == 1))) else decide (m = noM)

set_option maxRecDepth 100000 in
set_option maxHeartbeats 4000000 in
theorem implMapOk (g : Gst) (hg : Sized g) (p : Nat) (hp : p < 6) (lo r : Nat) (S : Int → List (Nat × Nat)) (w : World) (hW : Who w lo r S) (hwf : (Lit.int .i64 (g.maps.getD p noM).2.1).wf = true) :
    Calls Try.prog 87 #[.agg (lodC g).toArray, .int .i64 p, .map (some r)] w fun e w' => e = .returned (.bool (okMapI (S (g.maps.getD p noM).2.1).length (g.maps.getD p noM) (g.disk.getD p []))) ∧ Below w.heap.size w w' := by
  have hR := range_new w (lodC g) 86
  obtain ⟨q0, q1, q2⟩ := lod_maps hR p (by rw [hg.1]; exact hp)
  obtain ⟨d0, d1, d2, d3⟩ := lod_disk hg hR p (by rw [hg.2.1]; exact hp)
  have h4 := four (hg.2.2.1 p hp)
  obtain ⟨a, c, hlk, _, _, _⟩ := hW.look _ hwf
  rw [show g.maps.getD p (false, 0, false) = g.maps.getD p noM from rfl] at q0 q1 q2
  have hrl := hW.lt
  generalize g.maps.getD p noM = mm at *
  generalize g.disk.getD p [] = zs at *
  obtain ⟨mi, mf, mw⟩ := mm
  generalize hcs : (lodC g).toArray = cs at *
  clear hcs hR hW
  simp only [Nat.zero_add] at q0 q1 q2 d0 d1 d2 d3 hlk hwf
  generalize (S mf).length = ln at *
  generalize zs.getD 0 0 = z0 at *
  generalize zs.getD 1 0 = z1 at *
  generalize zs.getD 2 0 = z2 at *
  generalize zs.getD 3 0 = z3 at *
  subst h4
  have hpi : (p : Int) < 6 := by omega
  cases mi
  · have e1 : okMapI ln (false, mf, mw) [z0, z1, z2, z3] = decide ((false, mf, mw) = noM) := by simp [okMapI]
    rw [e1]
    by_cases hf : mf = 0
    · subst hf
      cases mw
      · go_enter Try.func87, Try.ntmps87
        go_wp2
        go_ret
        refine ⟨by simp [noM], ?_⟩
        (repeat' (with_reducible (first | exact Below.refl _ _ | apply Below.setCell | apply Below.alloc | apply below_drewN | apply Below.drew))) <;> (first | exact Nat.le_refl _ | (simp; done) | (simp; omega))
      · go_enter Try.func87, Try.ntmps87
        go_wp2
        go_ret
        refine ⟨by simp [noM], ?_⟩
        (repeat' (with_reducible (first | exact Below.refl _ _ | apply Below.setCell | apply Below.alloc | apply below_drewN | apply Below.drew))) <;> (first | exact Nat.le_refl _ | (simp; done) | (simp; omega))
    · have hf' : (mf == 0) = false := by simpa using hf
      go_enter Try.func87, Try.ntmps87
      go_wp2
      all_goals
        go_ret
        refine ⟨by simp [noM, hf], ?_⟩
        (repeat' (with_reducible (first | exact Below.refl _ _ | apply Below.setCell | apply Below.alloc | apply below_drewN | apply Below.drew))) <;> (first | exact Nat.le_refl _ | (simp; done) | (simp; omega))
  · have hF := implFrameOk mf
    have e1 : okMapI ln (true, mf, mw) [z0, z1, z2, z3] = ((decide (0 ≤ mf) && decide (mf ≤ 7)) && (blankP [z0, z1, z2, z3] && (!mw || (ln == 1)))) := by simp [okMapI]
    rw [e1]
    have hlk1 : lookRun Try.prog 105 (.map (some r)) (.int .i64 mf) ((w.alloc (.cells cs 86)).alloc (.cells #[.bool true, .int .i64 mf, .bool mw] 64)) = .ok (.slice a ln c) ((w.alloc (.cells cs 86)).alloc (.cells #[.bool true, .int .i64 mf, .bool mw] 64)) := hlk _ ((((Below.refl w.heap.size w).alloc (Nat.le_refl _) _).alloc (by simp) _).block r hrl)
    clear hlk
    have d0 := cellk_alloc d0 (.cells #[.bool true, .int .i64 mf, .bool mw] 64)
    have d1 := cellk_alloc d1 (.cells #[.bool true, .int .i64 mf, .bool mw] 64)
    have d2 := cellk_alloc d2 (.cells #[.bool true, .int .i64 mf, .bool mw] 64)
    have d3 := cellk_alloc d3 (.cells #[.bool true, .int .i64 mf, .bool mw] 64)
    have hlq : ((ln : Int) == 1) = (ln == 1) := by
      by_cases hu : ln = 1
      · subst hu; rfl
      · have h1 : ((ln : Int) == 1) = false := by simp; omega
        have h2 : (ln == 1) = false := by simpa using hu
        rw [h1, h2]
    have HL : Hid (((ln : Int) == 1) = (ln == 1)) := hlq
    clear hlq
    cases hin : (decide (0 ≤ mf) && decide (mf ≤ 7))
    · rw [hin] at hF
      go_enter Try.func87, Try.ntmps87
      go_wp2_with (fail)
      refine (hF _).mono ?_
      rintro e w1 ⟨rfl, rfl⟩
      go_wp2
      go_ret
      refine ⟨rfl, ?_⟩
      (repeat' (with_reducible (first | exact Below.refl _ _ | apply Below.setCell | apply Below.alloc | apply below_drewN | apply Below.drew))) <;> (first | exact Nat.le_refl _ | (simp; done) | (simp; omega))
    · rw [hin] at hF
      have hEq := fun w => eq_sheet z0 z1 z2 z3 0 0 0 0 w
      have hbl : blankP [z0, z1, z2, z3] = (z0 == 0 && (z1 == 0 && (z2 == 0 && z3 == 0))) := by simp [blankP]
      rw [hbl]
      clear hbl
      cases hz : (z0 == 0 && (z1 == 0 && (z2 == 0 && z3 == 0)))
      · rw [hz] at hEq
        clear hz
        go_enter Try.func87, Try.ntmps87
        go_wp2_with (fail)
        refine (hF _).mono ?_
        rintro e w1 ⟨rfl, rfl⟩
        go_wp2
        go_ret
        refine ⟨rfl, ?_⟩
        (repeat' (with_reducible (first | exact Below.refl _ _ | apply Below.setCell | apply Below.alloc | apply below_drewN | apply Below.drew))) <;> (first | exact Nat.le_refl _ | (simp; done) | (simp; omega))
      · rw [hz] at hEq
        clear hz
        cases mw
        · go_enter Try.func87, Try.ntmps87
          go_wp2_with (fail)
          refine (hF _).mono ?_
          rintro e w1 ⟨rfl, rfl⟩
          go_wp2
          go_ret
          refine ⟨rfl, ?_⟩
          (repeat' (with_reducible (first | exact Below.refl _ _ | apply Below.setCell | apply Below.alloc | apply below_drewN | apply Below.drew))) <;> (first | exact Nat.le_refl _ | (simp; done) | (simp; omega))
        · go_enter Try.func87, Try.ntmps87
          go_wp2_with (fail)
          refine (hF _).mono ?_
          rintro e w1 ⟨rfl, rfl⟩
          go_wp2
          go_ret
          refine ⟨by rw [← HL.out]; simp, ?_⟩
          (repeat' (with_reducible (first | exact Below.refl _ _ | apply Below.setCell | apply Below.alloc | apply below_drewN | apply Below.drew))) <;> (first | exact Nat.le_refl _ | (simp; done) | (simp; omega))

set_option maxRecDepth 100000 in
set_option maxHeartbeats 4000000 in
theorem implShadeOk (g : Gst) (hm : g.maps.length = 6) (sh : Bool) (sp sf : Int) (sw : Bool) (w : World) :
    Calls Try.prog 88 #[.agg (flat g.maps).toArray, .agg #[.bool sh, .int .i64 sp, .int .i64 sf, .bool sw]] w fun e w' => e = .returned (.bool (okShade g (sh, sp, sf, sw))) ∧ Below w.heap.size w w' := by
  have hR := range_new w (flat g.maps) 82
  have hE := range_ents hR
  cases sh
  · have e1 : okShade g (false, sp, sf, sw) = decide ((false, sp, sf, sw) = noS) := by simp [okShade]
    rw [e1]
    generalize hcs : (flat g.maps).toArray = cs at *
    clear hcs hR hE
    by_cases hp : sp = 0
    · by_cases hf : sf = 0
      · subst hp hf
        cases sw
        · go_enter Try.func88, Try.ntmps88
          go_wp2
          go_ret
          refine ⟨by simp [noS], ?_⟩
          (repeat' (with_reducible (first | exact Below.refl _ _ | apply Below.setCell | apply Below.alloc | apply below_drewN | apply Below.drew))) <;> (first | exact Nat.le_refl _ | (simp; done) | (simp; omega))
        · go_enter Try.func88, Try.ntmps88
          go_wp2
          go_ret
          refine ⟨by simp [noS], ?_⟩
          (repeat' (with_reducible (first | exact Below.refl _ _ | apply Below.setCell | apply Below.alloc | apply below_drewN | apply Below.drew))) <;> (first | exact Nat.le_refl _ | (simp; done) | (simp; omega))
      · have hf' : (sf == 0) = false := by simpa using hf
        subst hp
        go_enter Try.func88, Try.ntmps88
        go_wp2
        all_goals
          go_ret
          refine ⟨by simp [noS, hf], ?_⟩
          (repeat' (with_reducible (first | exact Below.refl _ _ | apply Below.setCell | apply Below.alloc | apply below_drewN | apply Below.drew))) <;> (first | exact Nat.le_refl _ | (simp; done) | (simp; omega))
    · have hp' : (sp == 0) = false := by simpa using hp
      go_enter Try.func88, Try.ntmps88
      go_wp2
      all_goals
        go_ret
        refine ⟨by simp [noS, hp], ?_⟩
        (repeat' (with_reducible (first | exact Below.refl _ _ | apply Below.setCell | apply Below.alloc | apply below_drewN | apply Below.drew))) <;> (first | exact Nat.le_refl _ | (simp; done) | (simp; omega))
  · have hI := implPageOk sp
    by_cases h2 : sp < 2
    · rw [show okShade g (true, sp, sf, sw) = false by simp only [okShade, cond_true]; rw [show decide (2 ≤ sp) = false by simp; omega]; simp]
      generalize hcs : (flat g.maps).toArray = cs at *
      clear hcs hR hE
      go_enter Try.func88, Try.ntmps88
      go_wp2
      go_ret
      refine ⟨rfl, ?_⟩
      (repeat' (with_reducible (first | exact Below.refl _ _ | apply Below.setCell | apply Below.alloc | apply below_drewN | apply Below.drew))) <;> (first | exact Nat.le_refl _ | (simp; done) | (simp; omega))
    · by_cases h5 : sp ≤ 5
      · rw [show (decide (0 ≤ sp) && decide (sp ≤ 5)) = true by simp; omega] at hI
        obtain ⟨P, rfl⟩ := Int.eq_ofNat_of_zero_le (show 0 ≤ sp by omega)
        have hP : P < 6 := by omega
        have hPi : (P : Int) < 6 := by omega
        have e1 : okShade g (true, (P : Int), sf, sw) = ((g.maps.getD P noM).1 && (((g.maps.getD P noM).2.1 == sf) && (!sw || (g.maps.getD P noM).2.2))) := by
          simp only [okShade, cond_true, Int.toNat_natCast]
          rw [show (decide (2 ≤ (P : Int)) && decide ((P : Int) ≤ 5)) = true by simp; omega]
          simp
        rw [e1]
        obtain ⟨q0, q1, q2⟩ := hE P (by omega)
        rw [show g.maps.getD P (false, 0, false) = g.maps.getD P noM from rfl, Nat.zero_add] at q0 q1 q2
        generalize g.maps.getD P noM = mm at *
        obtain ⟨mi, mf, mw⟩ := mm
        simp only at q0 q1 q2
        generalize hcs : (flat g.maps).toArray = cs at *
        clear hcs hR hE
        have q0 := cellk_alloc q0 (.cells #[.bool true, .int .i64 (P : Int), .int .i64 sf, .bool sw] 67)
        have q1 := cellk_alloc q1 (.cells #[.bool true, .int .i64 (P : Int), .int .i64 sf, .bool sw] 67)
        have q2 := cellk_alloc q2 (.cells #[.bool true, .int .i64 (P : Int), .int .i64 sf, .bool sw] 67)
        have h2' : ¬ (P : Int) < 2 := h2
        cases mi
        · go_enter Try.func88, Try.ntmps88
          go_wp2_with (fail)
          refine (hI _).mono ?_
          rintro e w1 ⟨rfl, rfl⟩
          go_wp2
          go_ret
          refine ⟨rfl, ?_⟩
          (repeat' (with_reducible (first | exact Below.refl _ _ | apply Below.setCell | apply Below.alloc | apply below_drewN | apply Below.drew))) <;> (first | exact Nat.le_refl _ | (simp; done) | (simp; omega))
        · by_cases hf : sf = mf
          · subst hf
            cases mw
            · go_enter Try.func88, Try.ntmps88
              go_wp2_with (fail)
              refine (hI _).mono ?_
              rintro e w1 ⟨rfl, rfl⟩
              go_wp2
              go_ret
              refine ⟨by simp, ?_⟩
              (repeat' (with_reducible (first | exact Below.refl _ _ | apply Below.setCell | apply Below.alloc | apply below_drewN | apply Below.drew))) <;> (first | exact Nat.le_refl _ | (simp; done) | (simp; omega))
            · go_enter Try.func88, Try.ntmps88
              go_wp2_with (fail)
              refine (hI _).mono ?_
              rintro e w1 ⟨rfl, rfl⟩
              go_wp2
              go_ret
              refine ⟨by simp, ?_⟩
              (repeat' (with_reducible (first | exact Below.refl _ _ | apply Below.setCell | apply Below.alloc | apply below_drewN | apply Below.drew))) <;> (first | exact Nat.le_refl _ | (simp; done) | (simp; omega))
          · have hf' : (sf == mf) = false := by simpa using hf
            have hf2 : (mf == sf) = false := by simpa using fun e => hf e.symm
            go_enter Try.func88, Try.ntmps88
            go_wp2_with (fail)
            refine (hI _).mono ?_
            rintro e w1 ⟨rfl, rfl⟩
            go_wp2
            go_ret
            refine ⟨by simp [hf2], ?_⟩
            (repeat' (with_reducible (first | exact Below.refl _ _ | apply Below.setCell | apply Below.alloc | apply below_drewN | apply Below.drew))) <;> (first | exact Nat.le_refl _ | (simp; done) | (simp; omega))
      · rw [show okShade g (true, sp, sf, sw) = false by simp only [okShade, cond_true]; rw [show decide (sp ≤ 5) = false by simp; omega]; simp]
        rw [show (decide (0 ≤ sp) && decide (sp ≤ 5)) = false by simp [h5]] at hI
        generalize hcs : (flat g.maps).toArray = cs at *
        clear hcs hR hE
        go_enter Try.func88, Try.ntmps88
        go_wp2_with (fail)
        refine (hI _).mono ?_
        rintro e w1 ⟨rfl, rfl⟩
        go_wp2
        go_ret
        refine ⟨rfl, ?_⟩
        (repeat' (with_reducible (first | exact Below.refl _ _ | apply Below.setCell | apply Below.alloc | apply below_drewN | apply Below.drew))) <;> (first | exact Nat.le_refl _ | (simp; done) | (simp; omega))
end Go.Proofs.Ytpaeigmdhmmjmaa
