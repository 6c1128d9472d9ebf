/-
  What the program's own asking of a lodger does.
-/
import Derived.Test.YtjegndgdpmlbaaaKOHM
set_option linter.unusedSimpArgs false
namespace Go.Proofs.Ytjegndgdpmlbaaa
open Go.RowKit
attribute [local go_sem ↓] Go.wp_at_zero Go.wp_at_succ exec_app exec_lod exec_house exec_mapsA exec_allocL exec_storeL exec_idxM exec_look exec_upd
attribute [local go_sem] bigNext_ok bigSkip_ok

theorem implFrameOk (n : Int) (w : World) : Calls Try.prog 77 #[.int .i64 n] w fun e w' => e = .returned (.bool (decide (0 ≤ n) && decide (n ≤ 7))) ∧ w' = w := by
  by_cases h1 : 0 ≤ n
  · by_cases h2 : n < 8
    · rw [show (decide (0 ≤ n) && decide (n ≤ 7)) = true by simp; omega]
      go_enter Try.func77, Try.ntmps77
      go_wp2
      go_ret
      exact ⟨rfl, rfl⟩
    · rw [show (decide (0 ≤ n) && decide (n ≤ 7)) = false by simp; omega]
      go_enter Try.func77, Try.ntmps77
      go_wp2
      go_ret
      exact ⟨rfl, rfl⟩
  · rw [show (decide (0 ≤ n) && decide (n ≤ 7)) = false by simp [h1]]
    go_enter Try.func77, Try.ntmps77
    go_wp2
    go_ret
    exact ⟨rfl, rfl⟩
theorem implPageOk (n : Int) (w : World) : Calls Try.prog 86 #[.int .i64 n] w fun e w' => e = .returned (.bool (decide (0 ≤ n) && decide (n ≤ 5))) ∧ w' = w := by
  by_cases h1 : 0 ≤ n
  · by_cases h2 : n < 6
    · rw [show (decide (0 ≤ n) && decide (n ≤ 5)) = true by simp; omega]
      go_enter Try.func86, Try.ntmps86
      go_wp2
      go_ret
      exact ⟨rfl, rfl⟩
    · rw [show (decide (0 ≤ n) && decide (n ≤ 5)) = false by simp; omega]
      go_enter Try.func86, Try.ntmps86
      go_wp2
      go_ret
      exact ⟨rfl, rfl⟩
  · rw [show (decide (0 ≤ n) && decide (n ≤ 5)) = false by simp [h1]]
    go_enter Try.func86, Try.ntmps86
    go_wp2
    go_ret
    exact ⟨rfl, rfl⟩

/-- What a map must be, by how many pages are in its frame. -/
def okMapI (n : Nat) (m : E3) (disk : List Int) : Bool := bif m.1 then (decide (0 ≤ m.2.1) && decide (m.2.1 ≤ 7)) && (blankP disk && (!m.2.2 || (n == 1))) else decide (m = noM)

set_option maxRecDepth 100000 in
set_option maxHeartbeats 4000000 in
theorem implMapOk (g : Gst) (hg : Sized g) (p : Nat) (hp : p < 6) (lo r : Nat) (S : Int → List (Nat × Nat)) (w : World) (hW : Who w lo r S) (hwf : (Lit.int .i64 (g.maps.getD p noM).2.1).wf = true) :
    Calls Try.prog 114 #[.agg (lodC g).toArray, .int .i64 p, .map (some r)] w fun e w' => e = .returned (.bool (okMapI (S (g.maps.getD p noM).2.1).length (g.maps.getD p noM) (g.disk.getD p []))) ∧ Below w.heap.size w w' := by
  have hR := range_new w (lodC g) 91
  obtain ⟨q0, q1, q2⟩ := lod_maps hR p (by rw [hg.1]; exact hp)
  obtain ⟨d0, d1, d2, d3⟩ := lod_disk hg hR p (by rw [hg.2.1]; exact hp)
  have h4 := four (hg.2.2.1 p hp)
  obtain ⟨a, c, hlk, _, _, _⟩ := hW.look _ hwf
  rw [show g.maps.getD p (false, 0, false) = g.maps.getD p noM from rfl] at q0 q1 q2
  have hrl := hW.lt
  generalize g.maps.getD p noM = mm at *
  generalize g.disk.getD p [] = zs at *
  obtain ⟨mi, mf, mw⟩ := mm
  generalize hcs : (lodC g).toArray = cs at *
  clear hcs hR hW
  simp only [Nat.zero_add] at q0 q1 q2 d0 d1 d2 d3 hlk hwf
  generalize (S mf).length = ln at *
  generalize zs.getD 0 0 = z0 at *
  generalize zs.getD 1 0 = z1 at *
  generalize zs.getD 2 0 = z2 at *
  generalize zs.getD 3 0 = z3 at *
  subst h4
  have hpi : (p : Int) < 6 := by omega
  cases mi
  · have e1 : okMapI ln (false, mf, mw) [z0, z1, z2, z3] = decide ((false, mf, mw) = noM) := by simp [okMapI]
    rw [e1]
    by_cases hf : mf = 0
    · subst hf
      cases mw
      · go_enter Try.func114, Try.ntmps114
        go_wp2
        go_ret
        refine ⟨by simp [noM], ?_⟩
        (repeat' (with_reducible (first | exact Below.refl _ _ | apply Below.setCell | apply Below.alloc | apply below_drewN | apply Below.drew))) <;> (first | exact Nat.le_refl _ | (simp; done) | (simp; omega))
      · go_enter Try.func114, Try.ntmps114
        go_wp2
        go_ret
        refine ⟨by simp [noM], ?_⟩
        (repeat' (with_reducible (first | exact Below.refl _ _ | apply Below.setCell | apply Below.alloc | apply below_drewN | apply Below.drew))) <;> (first | exact Nat.le_refl _ | (simp; done) | (simp; omega))
    · have hf' : (mf == 0) = false := by simpa using hf
      go_enter Try.func114, Try.ntmps114
      go_wp2
      all_goals
        go_ret
        refine ⟨by simp [noM, hf], ?_⟩
        (repeat' (with_reducible (first | exact Below.refl _ _ | apply Below.setCell | apply Below.alloc | apply below_drewN | apply Below.drew))) <;> (first | exact Nat.le_refl _ | (simp; done) | (simp; omega))
  · have hF := implFrameOk mf
    have e1 : okMapI ln (true, mf, mw) [z0, z1, z2, z3] = ((decide (0 ≤ mf) && decide (mf ≤ 7)) && (blankP [z0, z1, z2, z3] && (!mw || (ln == 1)))) := by simp [okMapI]
    rw [e1]
    have hlk1 : lookRun Try.prog 106 (.map (some r)) (.int .i64 mf) ((w.alloc (.cells cs 91)).alloc (.cells #[.bool true, .int .i64 mf, .bool mw] 35)) = .ok (.slice a ln c) ((w.alloc (.cells cs 91)).alloc (.cells #[.bool true, .int .i64 mf, .bool mw] 35)) := hlk _ ((((Below.refl w.heap.size w).alloc (Nat.le_refl _) _).alloc (by simp) _).block r hrl)
    clear hlk
    have d0 := cellk_alloc d0 (.cells #[.bool true, .int .i64 mf, .bool mw] 35)
    have d1 := cellk_alloc d1 (.cells #[.bool true, .int .i64 mf, .bool mw] 35)
    have d2 := cellk_alloc d2 (.cells #[.bool true, .int .i64 mf, .bool mw] 35)
    have d3 := cellk_alloc d3 (.cells #[.bool true, .int .i64 mf, .bool mw] 35)
    have hlq : ((ln : Int) == 1) = (ln == 1) := by
      by_cases hu : ln = 1
      · subst hu; rfl
      · have h1 : ((ln : Int) == 1) = false := by simp; omega
        have h2 : (ln == 1) = false := by simpa using hu
        rw [h1, h2]
    have HL : Hid (((ln : Int) == 1) = (ln == 1)) := hlq
    clear hlq
    cases hin : (decide (0 ≤ mf) && decide (mf ≤ 7))
    · rw [hin] at hF
      go_enter Try.func114, Try.ntmps114
      go_wp2_with (fail)
      refine (hF _).mono ?_
      rintro e w1 ⟨rfl, rfl⟩
      go_wp2
      go_ret
      refine ⟨rfl, ?_⟩
      (repeat' (with_reducible (first | exact Below.refl _ _ | apply Below.setCell | apply Below.alloc | apply below_drewN | apply Below.drew))) <;> (first | exact Nat.le_refl _ | (simp; done) | (simp; omega))
    · rw [hin] at hF
      have hEq := fun w => eq_sheet z0 z1 z2 z3 0 0 0 0 w
      have hbl : blankP [z0, z1, z2, z3] = (z0 == 0 && (z1 == 0 && (z2 == 0 && z3 == 0))) := by simp [blankP]
      rw [hbl]
      clear hbl
      cases hz : (z0 == 0 && (z1 == 0 && (z2 == 0 && z3 == 0)))
      · rw [hz] at hEq
        clear hz
        go_enter Try.func114, Try.ntmps114
        go_wp2_with (fail)
        refine (hF _).mono ?_
        rintro e w1 ⟨rfl, rfl⟩
        go_wp2
        go_ret
        refine ⟨rfl, ?_⟩
        (repeat' (with_reducible (first | exact Below.refl _ _ | apply Below.setCell | apply Below.alloc | apply below_drewN | apply Below.drew))) <;> (first | exact Nat.le_refl _ | (simp; done) | (simp; omega))
      · rw [hz] at hEq
        clear hz
        cases mw
        · go_enter Try.func114, Try.ntmps114
          go_wp2_with (fail)
          refine (hF _).mono ?_
          rintro e w1 ⟨rfl, rfl⟩
          go_wp2
          go_ret
          refine ⟨rfl, ?_⟩
          (repeat' (with_reducible (first | exact Below.refl _ _ | apply Below.setCell | apply Below.alloc | apply below_drewN | apply Below.drew))) <;> (first | exact Nat.le_refl _ | (simp; done) | (simp; omega))
        · go_enter Try.func114, Try.ntmps114
          go_wp2_with (fail)
          refine (hF _).mono ?_
          rintro e w1 ⟨rfl, rfl⟩
          go_wp2
          go_ret
          refine ⟨by rw [← HL.out]; simp, ?_⟩
          (repeat' (with_reducible (first | exact Below.refl _ _ | apply Below.setCell | apply Below.alloc | apply below_drewN | apply Below.drew))) <;> (first | exact Nat.le_refl _ | (simp; done) | (simp; omega))

set_option maxRecDepth 100000 in
set_option maxHeartbeats 4000000 in
theorem implShadeOk (g : Gst) (hm : g.maps.length = 6) (sh : Bool) (sp sf : Int) (sw : Bool) (w : World) :
    Calls Try.prog 115 #[.agg (flat g.maps).toArray, .agg #[.bool sh, .int .i64 sp, .int .i64 sf, .bool sw]] w fun e w' => e = .returned (.bool (okShade g (sh, sp, sf, sw))) ∧ Below w.heap.size w w' := by
  have hR := range_new w (flat g.maps) 88
  have hE := range_ents hR
  cases sh
  · have e1 : okShade g (false, sp, sf, sw) = decide ((false, sp, sf, sw) = noS) := by simp [okShade]
    rw [e1]
    generalize hcs : (flat g.maps).toArray = cs at *
    clear hcs hR hE
    by_cases hp : sp = 0
    · by_cases hf : sf = 0
      · subst hp hf
        cases sw
        · go_enter Try.func115, Try.ntmps115
          go_wp2
          go_ret
          refine ⟨by simp [noS], ?_⟩
          (repeat' (with_reducible (first | exact Below.refl _ _ | apply Below.setCell | apply Below.alloc | apply below_drewN | apply Below.drew))) <;> (first | exact Nat.le_refl _ | (simp; done) | (simp; omega))
        · go_enter Try.func115, Try.ntmps115
          go_wp2
          go_ret
          refine ⟨by simp [noS], ?_⟩
          (repeat' (with_reducible (first | exact Below.refl _ _ | apply Below.setCell | apply Below.alloc | apply below_drewN | apply Below.drew))) <;> (first | exact Nat.le_refl _ | (simp; done) | (simp; omega))
      · have hf' : (sf == 0) = false := by simpa using hf
        subst hp
        go_enter Try.func115, Try.ntmps115
        go_wp2
        all_goals
          go_ret
          refine ⟨by simp [noS, hf], ?_⟩
          (repeat' (with_reducible (first | exact Below.refl _ _ | apply Below.setCell | apply Below.alloc | apply below_drewN | apply Below.drew))) <;> (first | exact Nat.le_refl _ | (simp; done) | (simp; omega))
    · have hp' : (sp == 0) = false := by simpa using hp
      go_enter Try.func115, Try.ntmps115
      go_wp2
      all_goals
        go_ret
        refine ⟨by simp [noS, hp], ?_⟩
        (repeat' (with_reducible (first | exact Below.refl _ _ | apply Below.setCell | apply Below.alloc | apply below_drewN | apply Below.drew))) <;> (first | exact Nat.le_refl _ | (simp; done) | (simp; omega))
  · have hI := implPageOk sp
    by_cases h2 : sp < 2
    · rw [show okShade g (true, sp, sf, sw) = false by simp only [okShade, cond_true]; rw [show decide (2 ≤ sp) = false by simp; omega]; simp]
      generalize hcs : (flat g.maps).toArray = cs at *
      clear hcs hR hE
      go_enter Try.func115, Try.ntmps115
      go_wp2
      go_ret
      refine ⟨rfl, ?_⟩
      (repeat' (with_reducible (first | exact Below.refl _ _ | apply Below.setCell | apply Below.alloc | apply below_drewN | apply Below.drew))) <;> (first | exact Nat.le_refl _ | (simp; done) | (simp; omega))
    · by_cases h5 : sp ≤ 5
      · rw [show (decide (0 ≤ sp) && decide (sp ≤ 5)) = true by simp; omega] at hI
        obtain ⟨P, rfl⟩ := Int.eq_ofNat_of_zero_le (show 0 ≤ sp by omega)
        have hP : P < 6 := by omega
        have hPi : (P : Int) < 6 := by omega
        have e1 : okShade g (true, (P : Int), sf, sw) = ((g.maps.getD P noM).1 && (((g.maps.getD P noM).2.1 == sf) && (!sw || (g.maps.getD P noM).2.2))) := by
          simp only [okShade, cond_true, Int.toNat_natCast]
          rw [show (decide (2 ≤ (P : Int)) && decide ((P : Int) ≤ 5)) = true by simp; omega]
          simp
        rw [e1]
        obtain ⟨q0, q1, q2⟩ := hE P (by omega)
        rw [show g.maps.getD P (false, 0, false) = g.maps.getD P noM from rfl, Nat.zero_add] at q0 q1 q2
        generalize g.maps.getD P noM = mm at *
        obtain ⟨mi, mf, mw⟩ := mm
        simp only at q0 q1 q2
        generalize hcs : (flat g.maps).toArray = cs at *
        clear hcs hR hE
        have q0 := cellk_alloc q0 (.cells #[.bool true, .int .i64 (P : Int), .int .i64 sf, .bool sw] 49)
        have q1 := cellk_alloc q1 (.cells #[.bool true, .int .i64 (P : Int), .int .i64 sf, .bool sw] 49)
        have q2 := cellk_alloc q2 (.cells #[.bool true, .int .i64 (P : Int), .int .i64 sf, .bool sw] 49)
        have h2' : ¬ (P : Int) < 2 := h2
        cases mi
        · go_enter Try.func115, Try.ntmps115
          go_wp2_with (fail)
          refine (hI _).mono ?_
          rintro e w1 ⟨rfl, rfl⟩
          go_wp2
          go_ret
          refine ⟨rfl, ?_⟩
          (repeat' (with_reducible (first | exact Below.refl _ _ | apply Below.setCell | apply Below.alloc | apply below_drewN | apply Below.drew))) <;> (first | exact Nat.le_refl _ | (simp; done) | (simp; omega))
        · by_cases hf : sf = mf
          · subst hf
            cases mw
            · go_enter Try.func115, Try.ntmps115
              go_wp2_with (fail)
              refine (hI _).mono ?_
              rintro e w1 ⟨rfl, rfl⟩
              go_wp2
              go_ret
              refine ⟨by simp, ?_⟩
              (repeat' (with_reducible (first | exact Below.refl _ _ | apply Below.setCell | apply Below.alloc | apply below_drewN | apply Below.drew))) <;> (first | exact Nat.le_refl _ | (simp; done) | (simp; omega))
            · go_enter Try.func115, Try.ntmps115
              go_wp2_with (fail)
              refine (hI _).mono ?_
              rintro e w1 ⟨rfl, rfl⟩
              go_wp2
              go_ret
              refine ⟨by simp, ?_⟩
              (repeat' (with_reducible (first | exact Below.refl _ _ | apply Below.setCell | apply Below.alloc | apply below_drewN | apply Below.drew))) <;> (first | exact Nat.le_refl _ | (simp; done) | (simp; omega))
          · have hf' : (sf == mf) = false := by simpa using hf
            have hf2 : (mf == sf) = false := by simpa using fun e => hf e.symm
            go_enter Try.func115, Try.ntmps115
            go_wp2_with (fail)
            refine (hI _).mono ?_
            rintro e w1 ⟨rfl, rfl⟩
            go_wp2
            go_ret
            refine ⟨by simp [hf2], ?_⟩
            (repeat' (with_reducible (first | exact Below.refl _ _ | apply Below.setCell | apply Below.alloc | apply below_drewN | apply Below.drew))) <;> (first | exact Nat.le_refl _ | (simp; done) | (simp; omega))
      · rw [show okShade g (true, sp, sf, sw) = false by simp only [okShade, cond_true]; rw [show decide (sp ≤ 5) = false by simp; omega]; simp]
        rw [show (decide (0 ≤ sp) && decide (sp ≤ 5)) = false by simp [h5]] at hI
        generalize hcs : (flat g.maps).toArray = cs at *
        clear hcs hR hE
        go_enter Try.func115, Try.ntmps115
        go_wp2_with (fail)
        refine (hI _).mono ?_
        rintro e w1 ⟨rfl, rfl⟩
        go_wp2
        go_ret
        refine ⟨rfl, ?_⟩
        (repeat' (with_reducible (first | exact Below.refl _ _ | apply Below.setCell | apply Below.alloc | apply below_drewN | apply Below.drew))) <;> (first | exact Nat.le_refl _ | (simp; done) | (simp; omega))
end Go.Proofs.Ytjegndgdpmlbaaa

/-
  What the program's own asking of a lodger, and of a house, does.
-/
set_option linter.unusedSimpArgs false
namespace Go.Proofs.Ytjegndgdpmlbaaa
open Go.RowKit
attribute [local go_sem ↓] Go.wp_at_zero Go.wp_at_succ exec_app exec_lod exec_house exec_mapsA exec_allocL exec_storeL exec_idxM exec_look exec_upd
attribute [local go_sem] bigNext_ok bigSkip_ok

def okPage (S : Int → List (Nat × Nat)) (g : Gst) (p : Nat) : Bool := okMapI (S (g.maps.getD p noM).2.1).length (g.maps.getD p noM) (g.disk.getD p []) && okShade g (g.shades.getD p noS)
def okLod (S : Int → List (Nat × Nat)) (g : Gst) : Bool := (List.range 6).all (okPage S g)

set_option maxRecDepth 100000 in
set_option maxHeartbeats 8000000 in
theorem implLodOk (g : Gst) (hg : Sized g) (lo r : Nat) (S : Int → List (Nat × Nat)) (w : World) (hW : Who w lo r S) (hwf : ∀ p, p < 6 → (Lit.int .i64 (g.maps.getD p noM).2.1).wf = true) :
    Calls Try.prog 101 #[.agg (lodC g).toArray, .map (some r)] w fun e w' => e = .returned (.bool (okLod S g)) ∧ Below w.heap.size w w' := by
  have hR0 := range_new w (lodC g) 91
  have hlc := lodC_len hg
  have hiL : (Try.prog.info? 91).map (·.size) = some (lodC g).length := by rw [hlc]; kernel_rfl
  have hiM : (Try.prog.info? 88).map (·.size) = some (flat g.maps).length := by rw [flat_len, hg.1]; kernel_rfl
  have hloads : ∀ W : World, W.rangeAt w.heap.size 0 (lodC g) → bigRun Try.prog 91 (.pointer (some ⟨w.heap.size, 0, none⟩)) W = .ok (.agg (lodC g).toArray) W ∧ bigRun Try.prog 88 (.pointer (some ⟨w.heap.size, 0, none⟩)) W = .ok (.agg (flat g.maps).toArray) W := fun W h =>
    ⟨big_load Try.underlying91 rfl hiL _ _ W h, big_load Try.underlying88 rfl hiM _ _ W (range_left h)⟩
  have hmap := fun (p : Nat) (hp : p < 6) (W : World) (h : Who W lo r S) => implMapOk g hg p hp lo r S W h (hwf p hp)
  have hsh := fun sh sp sf sw W => implShadeOk g hg.1 sh sp sf sw W
  have hquad : ∀ (W : World) (j : Nat), W.rangeAt w.heap.size 0 (lodC g) → j < 6 → W.cell? ⟨w.heap.size, 42 + j * 4, none⟩ = some (.bool (g.shades.getD j noS).1) ∧ W.cell? ⟨w.heap.size, 42 + j * 4 + 1, none⟩ = some (.int .i64 (g.shades.getD j noS).2.1) ∧ W.cell? ⟨w.heap.size, 42 + j * 4 + 2, none⟩ = some (.int .i64 (g.shades.getD j noS).2.2.1) ∧ W.cell? ⟨w.heap.size, 42 + j * 4 + 3, none⟩ = some (.bool (g.shades.getD j noS).2.2.2) := fun W j h hj => by
    have := lod_shades hg h j (by rw [hg.2.2.2]; exact hj)
    rwa [Nat.zero_add] at this
  have hall : ∀ j, j < 6 → okPage S g j = false → okLod S g = false := fun j hj h => all_no (k := j) (by simpa using hj) (by simpa using h)
  obtain ⟨W0, hW0⟩ : ∃ W0, W0 = w.alloc (.cells (lodC g).toArray 91) := ⟨_, rfl⟩
  have hWW : Who W0 lo r S := by rw [hW0]; exact hW.below ((Below.refl _ _).alloc (Nat.le_refl _) _)
  have hsz : W0.heap.size = w.heap.size + 1 := by rw [hW0]; simp
  have hB0 : Below w.heap.size w W0 := by rw [hW0]; exact (Below.refl _ _).alloc (Nat.le_refl _) _
  rw [← hW0] at hR0
  have hrange : ∀ W, Below W0.heap.size W0 W → W.rangeAt w.heap.size 0 (lodC g) := fun W hB => range_below hR0 hB (by omega)
  generalize (lodC g).toArray = cs at *
  generalize (flat g.maps).toArray = fm at *
  go_enter Try.func101, Try.ntmps101
  go_wp2_with (fail)
  rw [← hW0]
  clear hW0
  go_loopw [6] (fun i wr => ∃ j : Nat, j ≤ 6 ∧ i = .int .i64 j ∧ Hid (∀ q, q < j → okPage S g q = true) ∧ Hid (Below W0.heap.size W0 wr)) (fun i _ => 6 - (intOf i).toNat)
  case atStart => exact ⟨0, Nat.zero_le _, rfl, fun q hq => by omega, Below.refl _ _⟩
  case round =>
    obtain ⟨j, hj, rfl, hUp, hB⟩ := hrel
    by_cases hjl : j < 6
    · have hji : (j : Int) < 6 := by omega
      have hWr : Who wr lo r S := hWW.below hB.out
      have hB' := hB0.trans (hB.out.mono hB0.size)
      obtain ⟨hl1, _⟩ := hloads wr.drew (hrange wr hB.out)
      have hno := hall j hjl
      have hnx : okPage S g j = true → ∀ q, q < j + 1 → okPage S g q = true := fun e q hq => by
        by_cases h : q = j
        · subst h; exact e
        · exact hUp.out q (by omega)
      have hC1 : Calls Try.prog 114 #[.agg cs, .int .i64 j, .map (some r)] wr.drew fun e w' => e = .returned (.bool (okMapI (S (g.maps.getD j noM).2.1).length (g.maps.getD j noM) (g.disk.getD j []))) ∧ Hid (Below W0.heap.size W0 w') ∧ bigRun Try.prog 88 (.pointer (some ⟨w.heap.size, 0, none⟩)) w' = .ok (.agg fm) w' ∧ w'.cell? ⟨w.heap.size, 42 + j * 4, none⟩ = some (.bool (g.shades.getD j noS).1) ∧ w'.cell? ⟨w.heap.size, 42 + j * 4 + 1, none⟩ = some (.int .i64 (g.shades.getD j noS).2.1) ∧ w'.cell? ⟨w.heap.size, 42 + j * 4 + 2, none⟩ = some (.int .i64 (g.shades.getD j noS).2.2.1) ∧ w'.cell? ⟨w.heap.size, 42 + j * 4 + 3, none⟩ = some (.bool (g.shades.getD j noS).2.2.2) := by
        refine (hmap j hjl wr.drew hWr).mono ?_
        rintro e w' ⟨rfl, B1⟩
        have B2 : Below W0.heap.size W0 w' := hB.out.drew.trans (B1.mono hB.out.size)
        exact ⟨rfl, B2, (hloads w' (hrange w' B2)).2, hquad w' j (hrange w' B2) hjl⟩
      have hop : okPage S g j = (okMapI (S (g.maps.getD j noM).2.1).length (g.maps.getD j noM) (g.disk.getD j []) && okShade g (g.shades.getD j noS)) := rfl
      generalize g.shades.getD j noS = ss at *
      obtain ⟨sh, sp, sf, sw⟩ := ss
      have hC2 := hsh sh sp sf sw
      simp only at hC1
      generalize okMapI (S (g.maps.getD j noM).2.1).length (g.maps.getD j noM) (g.disk.getD j []) = b1 at *
      generalize okShade g (sh, sp, sf, sw) = b2 at *
      clear hmap hsh hquad hall hloads hwf hUp hWr
      cases b1
      · have HF : Hid (okLod S g = false) := hno (by rw [hop]; rfl)
        clear hno hnx hop hC2
        go_wp2_with (fail)
        first | (go_region_with (go_at_call 114; refine hC1.mono ?_; rintro e w1 ⟨rfl, HB1, m1, k0, k1, k2, k3⟩)) | fail
        all_goals
          go_wp2
          go_ret
          exact ⟨by rw [HF.out]; rfl, hB0.trans (HB1.out.mono hB0.size)⟩
      · cases b2
        · have HF : Hid (okLod S g = false) := hno (by rw [hop]; rfl)
          clear hno hnx hop
          go_wp2_with (fail)
          first | (go_region_with (first | (go_at_call 114; refine hC1.mono ?_; rintro e w1 ⟨rfl, HB1, m1, k0, k1, k2, k3⟩) | (go_at_call 115; refine (hC2 _).mono ?_; rintro e w2 ⟨rfl, B2⟩))) | fail
          all_goals
            have HB2 : Hid (Below W0.heap.size W0 w2) := HB1.out.trans (B2.mono HB1.out.size)
            clear B2 m1 k0 k1 k2 k3
            go_wp2
            go_ret
            exact ⟨by rw [HF.out]; rfl, hB0.trans (HB2.out.mono hB0.size)⟩
        · have HX : Hid (∀ q, q < j + 1 → okPage S g q = true) := hnx (by rw [hop]; rfl)
          clear hno hnx hop
          go_wp2_with (fail)
          first | (go_region_with (first | (go_at_call 114; refine hC1.mono ?_; rintro e w1 ⟨rfl, HB1, m1, k0, k1, k2, k3⟩) | (go_at_call 115; refine (hC2 _).mono ?_; rintro e w2 ⟨rfl, B2⟩))) | fail
          all_goals
            have HB2 : Hid (Below W0.heap.size W0 w2) := HB1.out.trans (B2.mono HB1.out.size)
            clear B2 m1 k0 k1 k2 k3
            go_wp2
            go_roundw
            case rel => exact ⟨j + 1, by omega, by go_num, HX, HB2⟩
            case measure => simp [intOf]; omega
    · have hT : okLod S g = true := by
        rw [okLod, List.all_eq_true]
        intro q hq
        exact hUp.out q (by have := List.mem_range.1 hq; omega)
      have HT : Hid (okLod S g = true) := hT
      clear hT hmap hsh hquad hall hloads
      go_wp2
      go_ret
      exact ⟨by rw [HT.out]; rfl, hB0.trans (hB.out.mono hB0.size)⟩
end Go.Proofs.Ytjegndgdpmlbaaa
