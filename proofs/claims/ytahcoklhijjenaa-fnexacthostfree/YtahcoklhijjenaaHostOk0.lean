/-
  What the given HostOk does.
-/
import Derived.Test.YtahcoklhijjenaaHostSpec0
namespace Go.Proofs.Ytahcoklhijjenaa
open Go.RowKit

set_option maxHeartbeats 2000000 in
theorem specMapOk (lo hi : Nat) (af ag ad : Option Addr) (lf cf n cg ld cd : Nat) (h : Hst) (mi : Bool) (mf : Int) (mw : Bool) (zs : List Int) (w : World) (hn : h.guests.length = n) (hG : IsGuests w lo hi ag n h.guests) (hD : IsInts w lo hi ad ld zs) (hh : hi ≤ w.heap.size) (hg : n ≤ 1000) (hm : ∀ i, i < n → (h.guests.getD i noG).maps.length ≤ 1000) (hl : ld ≤ 1048576) :
    Calls Try.prog 64 #[.agg #[.slice af lf cf, .slice ag n cg, .int .i64 h.hand], .agg #[.bool mi, .int .i64 mf, .bool mw], .slice ad ld cd] w fun e w' => e = .returned (.bool (okMap h (mi, mf, mw) zs)) ∧ Below w.heap.size w w' := by
  have hU := usersUp_all mf h
  rw [hn] at hU
  cases mi
  · have e1 : okMap h (false, mf, mw) zs = decide ((false, mf, mw) = noM) := by simp [okMap]
    rw [e1]
    by_cases hf : mf = 0
    · subst hf
      cases mw
      · go_enter Try.func64, Try.ntmps64
        go_wp2
        go_ret
        refine ⟨by simp [noM], ?_⟩
        (repeat' (with_reducible (first | exact Below.refl _ _ | apply Below.setCell | apply Below.alloc | apply below_drewN | apply Below.drew))) <;> (first | exact Nat.le_refl _ | (simp; done) | (simp; omega))
      · go_enter Try.func64, Try.ntmps64
        go_wp2
        go_ret
        refine ⟨by simp [noM], ?_⟩
        (repeat' (with_reducible (first | exact Below.refl _ _ | apply Below.setCell | apply Below.alloc | apply below_drewN | apply Below.drew))) <;> (first | exact Nat.le_refl _ | (simp; done) | (simp; omega))
    · have hf' : (mf == 0) = false := by simpa using hf
      go_enter Try.func64, Try.ntmps64
      go_wp2
      all_goals
        go_ret
        refine ⟨by simp [noM, hf], ?_⟩
        (repeat' (with_reducible (first | exact Below.refl _ _ | apply Below.setCell | apply Below.alloc | apply below_drewN | apply Below.drew))) <;> (first | exact Nat.le_refl _ | (simp; done) | (simp; omega))
  · have hI := specIn mf 0 7
    have e1 : okMap h (true, mf, mw) zs = ((decide (0 ≤ mf) && decide (mf ≤ 7)) && (blankP zs && (!mw || (usersH h mf == 1)))) := by simp [okMap]
    rw [e1]
    cases hin : (decide (0 ≤ mf) && decide (mf ≤ 7))
    · rw [hin] at hI
      go_enter Try.func64, Try.ntmps64
      go_wp2_with (fail)
      refine (hI _).mono ?_
      rintro e w1 ⟨rfl, rfl⟩
      go_wp2
      go_ret
      refine ⟨rfl, ?_⟩
      (repeat' (with_reducible (first | exact Below.refl _ _ | apply Below.setCell | apply Below.alloc | apply below_drewN | apply Below.drew))) <;> (first | exact Nat.le_refl _ | (simp; done) | (simp; omega))
    · rw [hin] at hI
      have B1 : Below w.heap.size w ((w.alloc (.cells #[.slice af lf cf, .slice ag n cg, .int .i64 h.hand] 27)).alloc (.cells #[.bool true, .int .i64 mf, .bool mw] 79)) := ((Below.refl w.heap.size w).alloc (Nat.le_refl _) _).alloc (by simp) _
      have hD1 := hD.same (below_sameIn B1 hh)
      have hG1 := hG.same (below_sameIn B1 hh)
      have hBl := fun W h => specBlank lo hi ad ld cd zs W h hl
      cases hb : blankP zs
      · rw [hb] at hBl
        go_enter Try.func64, Try.ntmps64
        go_wp2_with (fail)
        refine (hI _).mono ?_
        rintro e w1 ⟨rfl, rfl⟩
        go_wp2_with (fail)
        refine (hBl _ hD1).mono ?_
        rintro e w2 ⟨rfl, rfl⟩
        go_wp2
        go_ret
        refine ⟨rfl, ?_⟩
        (repeat' (with_reducible (first | exact Below.refl _ _ | apply Below.setCell | apply Below.alloc | apply below_drewN | apply Below.drew))) <;> (first | exact Nat.le_refl _ | (simp; done) | (simp; omega))
      · rw [hb] at hBl
        cases mw
        · go_enter Try.func64, Try.ntmps64
          go_wp2_with (fail)
          refine (hI _).mono ?_
          rintro e w1 ⟨rfl, rfl⟩
          go_wp2_with (fail)
          refine (hBl _ hD1).mono ?_
          rintro e w2 ⟨rfl, rfl⟩
          go_wp2
          go_ret
          refine ⟨rfl, ?_⟩
          (repeat' (with_reducible (first | exact Below.refl _ _ | apply Below.setCell | apply Below.alloc | apply below_drewN | apply Below.drew))) <;> (first | exact Nat.le_refl _ | (simp; done) | (simp; omega))
        · have hUs := users_core lo hi af ag lf cf n cg h.guests h.hand mf _ hG1 (Nat.le_trans hh B1.size) hg hm
          rw [hU] at hUs
          go_enter Try.func64, Try.ntmps64
          go_wp2_with (fail)
          refine (hI _).mono ?_
          rintro e w1 ⟨rfl, rfl⟩
          go_wp2_with (fail)
          refine (hBl _ hD1).mono ?_
          rintro e w2 ⟨rfl, rfl⟩
          go_wp2_with (fail)
          refine hUs.mono ?_
          rintro e w3 ⟨rfl, B3⟩
          have B03 := B1.trans (B3.mono B1.size)
          have hq : ((usersH h mf : Int) == 1) = (usersH h mf == 1) := by
            generalize usersH h mf = u
            by_cases hu : u = 1
            · subst hu
              rfl
            · have h1 : ((u : Int) == 1) = false := by simp; omega
              have h2 : (u == 1) = false := by simpa using hu
              rw [h1, h2]
          have HQ : Hid (((usersH h mf : Int) == 1) = (usersH h mf == 1)) := hq
          clear hq hUs hBl hI hU
          go_wp2
          go_ret
          refine ⟨?_, B03⟩
          rw [← HQ.out]
          rfl

set_option maxHeartbeats 2000000 in
theorem specShadeOk (lo hi : Nat) (am ad aS : Option Addr) (cm ld cd ls cs : Nat) (g : Gst) (sh : Bool) (sp sf : Int) (sw : Bool) (w : World) (hM : IsMaps w lo hi am 6 g.maps) (hh : hi ≤ w.heap.size) :
    Calls Try.prog 65 #[.agg #[.slice am 6 cm, .slice ad ld cd, .slice aS ls cs], .agg #[.bool sh, .int .i64 sp, .int .i64 sf, .bool sw]] w fun e w' => e = .returned (.bool (okShade g (sh, sp, sf, sw))) ∧ Below w.heap.size w w' := by
  cases sh
  · have e1 : okShade g (false, sp, sf, sw) = decide ((false, sp, sf, sw) = noS) := by simp [okShade]
    rw [e1]
    by_cases hp : sp = 0
    · by_cases hf : sf = 0
      · subst hp hf
        cases sw
        · go_enter Try.func65, Try.ntmps65
          go_wp2
          go_ret
          refine ⟨by simp [noS], ?_⟩
          (repeat' (with_reducible (first | exact Below.refl _ _ | apply Below.setCell | apply Below.alloc | apply below_drewN | apply Below.drew))) <;> (first | exact Nat.le_refl _ | (simp; done) | (simp; omega))
        · go_enter Try.func65, Try.ntmps65
          go_wp2
          go_ret
          refine ⟨by simp [noS], ?_⟩
          (repeat' (with_reducible (first | exact Below.refl _ _ | apply Below.setCell | apply Below.alloc | apply below_drewN | apply Below.drew))) <;> (first | exact Nat.le_refl _ | (simp; done) | (simp; omega))
      · have hf' : (sf == 0) = false := by simpa using hf
        subst hp
        go_enter Try.func65, Try.ntmps65
        go_wp2
        all_goals
          go_ret
          refine ⟨by simp [noS, hf], ?_⟩
          (repeat' (with_reducible (first | exact Below.refl _ _ | apply Below.setCell | apply Below.alloc | apply below_drewN | apply Below.drew))) <;> (first | exact Nat.le_refl _ | (simp; done) | (simp; omega))
    · have hp' : (sp == 0) = false := by simpa using hp
      go_enter Try.func65, Try.ntmps65
      go_wp2
      all_goals
        go_ret
        refine ⟨by simp [noS, hp], ?_⟩
        (repeat' (with_reducible (first | exact Below.refl _ _ | apply Below.setCell | apply Below.alloc | apply below_drewN | apply Below.drew))) <;> (first | exact Nat.le_refl _ | (simp; done) | (simp; omega))
  · have hI := specIn sp 2 5
    cases hin : (decide (2 ≤ sp) && decide (sp ≤ 5))
    · rw [show okShade g (true, sp, sf, sw) = false by simp only [okShade, cond_true, hin, Bool.false_and]]
      rw [hin] at hI
      go_enter Try.func65, Try.ntmps65
      go_wp2_with (fail)
      refine (hI _).mono ?_
      rintro e w1 ⟨rfl, rfl⟩
      go_wp2
      go_ret
      refine ⟨rfl, ?_⟩
      (repeat' (with_reducible (first | exact Below.refl _ _ | apply Below.setCell | apply Below.alloc | apply below_drewN | apply Below.drew))) <;> (first | exact Nat.le_refl _ | (simp; done) | (simp; omega))
    · rw [hin] at hI
      have hin' : 2 ≤ sp ∧ sp ≤ 5 := by simpa using hin
      obtain ⟨P, rfl⟩ := Int.eq_ofNat_of_zero_le (show 0 ≤ sp by omega)
      have hP : P < 6 := by omega
      have hPi : (P : Int) < 6 := by omega
      have e1 : okShade g (true, (P : Int), sf, sw) = ((g.maps.getD P noM).1 && (((g.maps.getD P noM).2.1 == sf) && (!sw || (g.maps.getD P noM).2.2))) := by simp only [okShade, cond_true, hin, Bool.true_and, Int.toNat_natCast]
      rw [e1]
      obtain ⟨b, o, rfl, hb1, hb2, q0, q1, q2⟩ := hM.get hP
      generalize g.maps.getD P noM = mm at q0 q1 q2
      obtain ⟨mi, mf, mw⟩ := mm
      simp only at q0 q1 q2
      have hbw : b < w.heap.size := by omega
      have hbw1 : b < w.heap.size + 1 := by omega
      cases mi
      · go_enter Try.func65, Try.ntmps65
        go_wp2_with (fail)
        refine (hI _).mono ?_
        rintro e w1 ⟨rfl, rfl⟩
        go_wp2
        go_ret
        refine ⟨rfl, ?_⟩
        (repeat' (with_reducible (first | exact Below.refl _ _ | apply Below.setCell | apply Below.alloc | apply below_drewN | apply Below.drew))) <;> (first | exact Nat.le_refl _ | (simp; done) | (simp; omega))
      · by_cases hf : mf = sf
        · subst hf
          cases sw
          · go_enter Try.func65, Try.ntmps65
            go_wp2_with (fail)
            refine (hI _).mono ?_
            rintro e w1 ⟨rfl, rfl⟩
            go_wp2
            go_ret
            refine ⟨by simp, ?_⟩
            (repeat' (with_reducible (first | exact Below.refl _ _ | apply Below.setCell | apply Below.alloc | apply below_drewN | apply Below.drew))) <;> (first | exact Nat.le_refl _ | (simp; done) | (simp; omega))
          · go_enter Try.func65, Try.ntmps65
            go_wp2_with (fail)
            refine (hI _).mono ?_
            rintro e w1 ⟨rfl, rfl⟩
            go_wp2
            go_ret
            refine ⟨by simp, ?_⟩
            (repeat' (with_reducible (first | exact Below.refl _ _ | apply Below.setCell | apply Below.alloc | apply below_drewN | apply Below.drew))) <;> (first | exact Nat.le_refl _ | (simp; done) | (simp; omega))
        · have hf' : (mf == sf) = false := by simpa using hf
          go_enter Try.func65, Try.ntmps65
          go_wp2_with (fail)
          refine (hI _).mono ?_
          rintro e w1 ⟨rfl, rfl⟩
          go_wp2
          go_ret
          refine ⟨by simp [hf'], ?_⟩
          (repeat' (with_reducible (first | exact Below.refl _ _ | apply Below.setCell | apply Below.alloc | apply below_drewN | apply Below.drew))) <;> (first | exact Nat.le_refl _ | (simp; done) | (simp; omega))
end Go.Proofs.Ytahcoklhijjenaa
