/-
  What the given functions that look at hosts do.
-/
import Derived.Test.YtjegndgdpmlbaaaKOA
import Derived.Test.YtjegndgdpmlbaaaKOB
namespace Go.Proofs.Ytjegndgdpmlbaaa
open Go.RowKit

def usersUp (f : Int) (gs : List Gst) (k : Nat) : Nat := ((gs.take k).map (usersG f)).sum
def mapsUp (f : Int) (ms : List E3) (k : Nat) : Nat := ((ms.take k).filter (inF f)).length
theorem mapsUp_step (f : Int) {ms : List E3} {k : Nat} (h : k < ms.length) : mapsUp f ms (k + 1) = mapsUp f ms k + (bif inF f (ms.getD k noM) then 1 else 0) := by
  unfold mapsUp
  rw [List.take_succ_eq_append_getElem h, List.filter_append, List.length_append, getD_lt h]
  cases hc : inF f ms[k] <;> simp [hc]
theorem mapsUp_le (f : Int) (ms : List E3) (k : Nat) : mapsUp f ms k ≤ ms.length := by
  unfold mapsUp
  exact Nat.le_trans (List.length_filter_le _ _) (by rw [List.length_take]; omega)
theorem mapsUp_all (f : Int) (g : Gst) : mapsUp f g.maps g.maps.length = usersG f g := by
  rw [mapsUp, List.take_of_length_le (Nat.le_refl _), usersG]
theorem usersUp_step (f : Int) {gs : List Gst} {k : Nat} (h : k < gs.length) : usersUp f gs (k + 1) = usersUp f gs k + usersG f (gs.getD k noG) := by
  unfold usersUp
  rw [List.take_succ_eq_append_getElem h, List.map_append, List.sum_append, getD_lt h]
  simp
theorem usersUp_le (f : Int) (gs : List Gst) (hm : ∀ i, i < gs.length → (gs.getD i noG).maps.length ≤ 1000) (k : Nat) (hk : k ≤ gs.length) : usersUp f gs k ≤ 1000 * k := by
  induction k with
  | zero => simp [usersUp]
  | succ k ih =>
    have h1 := usersUp_step f (gs := gs) (k := k) (by omega)
    have h2 := mapsUp_le f (gs.getD k noG).maps (gs.getD k noG).maps.length
    rw [mapsUp_all] at h2
    have := hm k (by omega)
    have := ih (by omega)
    omega
theorem usersUp_all (f : Int) (h : Hst) : usersUp f h.guests h.guests.length = usersH h f := by rw [usersUp, List.take_of_length_le (Nat.le_refl _), usersH]

set_option maxHeartbeats 2000000 in
theorem users_core (lo hi : Nat) (af ag : Option Addr) (lf cf n cg : Nat) (gs : List Gst) (hand f : Int) (w : World) (hG : IsGuests w lo hi ag n gs) (hh : hi ≤ w.heap.size) (hg : n ≤ 1000) (hm : ∀ i, i < n → (gs.getD i noG).maps.length ≤ 1000) :
    Calls Try.prog 60 #[.agg #[.slice af lf cf, .slice ag n cg, .int .i64 hand], .int .i64 f] w fun e w' => e = .returned (.int .i64 (usersUp f gs n)) ∧ Below w.heap.size w w' := by
  have B0 : Below w.heap.size w (w.alloc (.cells #[.slice af lf cf, .slice ag n cg, .int .i64 hand] 26)) := (Below.refl _ _).alloc (Nat.le_refl _) _
  have hgl := hG.1
  go_enter Try.func60, Try.ntmps60
  go_wp2
  go_loop [5, 6, 7] (fun c g _ => ∃ k : Nat, k ≤ n ∧ g = .int .i64 k ∧ c = .int .i64 (usersUp f gs k)) (fun _ g _ => n - (intOf g).toNat)
  case atStart => exact ⟨0, Nat.zero_le _, rfl, rfl⟩
  case round =>
    obtain ⟨k, hk, rfl, rfl⟩ := hrel
    by_cases hkl : k < n
    · obtain ⟨b, o, am, cm, ad, cd, aS, cs, rfl, hb1, hb2, q1, q2, q3, hM, _, _⟩ := hG.get hkl
      have hbw : b < w.heap.size := by omega
      have hki : (k : Int) < (n : Int) := by omega
      have hst := usersUp_step f (gs := gs) (k := k) (by omega)
      have hle := usersUp_le f gs (fun i hi => hm i (by omega)) k (by omega)
      have hml := hm k hkl
      have hal := mapsUp_all f (gs.getD k noG)
      have hmu := mapsUp_le f (gs.getD k noG).maps
      have hmt := fun j (h : j < (gs.getD k noG).maps.length) => mapsUp_step f h
      rw [← hal] at hst
      generalize (gs.getD k noG).maps = ms at q1 hM hst hml hmu hmt
      clear q2 q3 hal
      have hms := hM.1
      generalize ms.length = m at q1 hM hml hmu hmt hms hst
      have HST : Hid (usersUp f gs (k + 1) = usersUp f gs k + mapsUp f ms m) := hst
      have HMT : Hid (∀ j, j < m → mapsUp f ms (j + 1) = mapsUp f ms j + (bif inF f (ms.getD j noM) then 1 else 0)) := hmt
      clear hst hmt
      go_wp2
      go_loop [5, 7] (fun c p => ∃ j : Nat, j ≤ m ∧ p = .int .i64 j ∧ c = .int .i64 ((usersUp f gs k + mapsUp f ms j : Nat) : Int)) (fun _ p => m - (intOf p).toNat)
      case atStart => exact ⟨0, Nat.zero_le _, rfl, by simp [mapsUp]⟩
      case round =>
        obtain ⟨j, hj, rfl, rfl⟩ := hrel
        by_cases hjl : j < m
        · obtain ⟨b', o', rfl, hb1', hb2', r0, r1, _⟩ := hM.get hjl
          have hbw' : b' < w.heap.size := by omega
          have hji : (j : Int) < (m : Int) := by omega
          have hst := HMT.out j hjl
          have hmj := hmu j
          generalize ms.getD j noM = mm at r0 r1 hst
          obtain ⟨mi, mf, mw⟩ := mm
          simp only at r0 r1
          cases mi
          · have HS : Hid (mapsUp f ms (j + 1) = mapsUp f ms j) := by simpa [Hid, inF] using hst
            clear hst
            go_wp2
            go_round
            case rel => exact ⟨j + 1, by omega, by go_num, by rw [HS.out]⟩
            case measure => simp [intOf]; omega
          · by_cases hmf : mf = f
            · subst hmf
              have HS : Hid (mapsUp mf ms (j + 1) = mapsUp mf ms j + 1) := by simpa [Hid, inF] using hst
              clear hst
              go_wp2
              go_round
              case rel => exact ⟨j + 1, by omega, by go_num, by rw [HS.out]; go_num⟩
              case measure => simp [intOf]; omega
            · have hne : (mf == f) = false := by simpa using hmf
              have HS : Hid (mapsUp f ms (j + 1) = mapsUp f ms j) := by simpa [Hid, inF, hne] using hst
              clear hst
              go_wp2
              go_round
              case rel => exact ⟨j + 1, by omega, by go_num, by rw [HS.out]⟩
              case measure => simp [intOf]; omega
        · obtain rfl : j = m := by omega
          go_wp2
          go_round
          case rel => exact ⟨k + 1, by omega, by go_num, by rw [HST.out]⟩
          case measure => simp [intOf]; omega
    · obtain rfl : k = n := by omega
      go_wp2
      go_ret
      exact ⟨rfl, B0⟩
theorem specUsers (lo hi : Nat) (vf vg : Value) (h : Hst) (f : Int) (w : World) (hH : HostIn w lo hi vf vg h) (hh : hi ≤ w.heap.size) (hg : h.guests.length ≤ 1000) (hm : ∀ i, i < h.guests.length → (h.guests.getD i noG).maps.length ≤ 1000) :
    Calls Try.prog 60 #[.agg #[vf, vg, .int .i64 h.hand], .int .i64 f] w fun e w' => e = .returned (.int .i64 (usersH h f)) ∧ Below w.heap.size w w' := by
  obtain ⟨⟨af, cf, rfl, hF⟩, ag, cg, rfl, hG⟩ := hH
  rw [← usersUp_all f h]
  exact users_core lo hi af ag _ cf _ cg h.guests h.hand f w hG hh hg hm

set_option maxHeartbeats 1000000 in
theorem specBlank (lo hi : Nat) (a : Option Addr) (len cap : Nat) (zs : List Int) (w : World) (h : IsInts w lo hi a len zs) (hn : len ≤ 1048576) :
    Calls Try.prog 81 #[.slice a len cap] w fun e w' => e = .returned (.bool (blankP zs)) ∧ w' = w := by
  obtain ⟨hl, hd⟩ := h
  go_enter Try.func81, Try.ntmps81
  go_wp2
  go_loop [3] (fun i => ∃ k : Nat, k ≤ len ∧ i = .int .i64 k ∧ Hid ((zs.take k).all (fun z => z == 0) = true)) (fun i => len - (intOf i).toNat)
  case atStart => exact ⟨0, Nat.zero_le _, rfl, rfl⟩
  case round =>
    obtain ⟨k, hk, rfl, hA⟩ := hrel
    by_cases hkl : k < len
    · rcases hd with h0 | ⟨b, o, rfl, _, _, hc⟩
      · omega
      have c := hc k (by omega)
      have hki : (k : Int) < (len : Int) := by omega
      have hlt : k < zs.length := by omega
      have hgd : zs.getD k 0 = zs[k] := getD_lt hlt
      clear hc
      by_cases hz : zs.getD k 0 = 0
      · have HA : Hid ((zs.take (k + 1)).all (fun z => z == 0) = true) := all_more hlt hA.out (by rw [← hgd, hz]; rfl)
        rw [hz] at c
        clear hA hgd hz
        go_wp2
        go_round
        case rel => exact ⟨k + 1, by omega, by go_num, HA⟩
        case measure => simp [intOf]; omega
      · have HF : Hid (blankP zs = false) := all_no hlt (by rw [← hgd]; simpa using hz)
        have hne : (zs.getD k 0 == 0) = false := by simpa using hz
        generalize zs.getD k 0 = z at c hne
        clear hA hgd hz
        go_wp2
        go_ret
        exact ⟨by rw [HF.out]; rfl, rfl⟩
    · have HT : Hid (blankP zs = true) := by
        have := hA.out
        rwa [List.take_of_length_le (by omega)] at this
      clear hA
      go_wp2
      go_ret
      exact ⟨by rw [HT.out]; rfl, rfl⟩
end Go.Proofs.Ytjegndgdpmlbaaa

/-
  What the given HostOk does.
-/
namespace Go.Proofs.Ytjegndgdpmlbaaa
open Go.RowKit

set_option maxHeartbeats 2000000 in
theorem specMapOk (lo hi : Nat) (af ag ad : Option Addr) (lf cf n cg ld cd : Nat) (h : Hst) (mi : Bool) (mf : Int) (mw : Bool) (zs : List Int) (w : World) (hn : h.guests.length = n) (hG : IsGuests w lo hi ag n h.guests) (hD : IsInts w lo hi ad ld zs) (hh : hi ≤ w.heap.size) (hg : n ≤ 1000) (hm : ∀ i, i < n → (h.guests.getD i noG).maps.length ≤ 1000) (hl : ld ≤ 1048576) :
    Calls Try.prog 51 #[.agg #[.slice af lf cf, .slice ag n cg, .int .i64 h.hand], .agg #[.bool mi, .int .i64 mf, .bool mw], .slice ad ld cd] w fun e w' => e = .returned (.bool (okMap h (mi, mf, mw) zs)) ∧ Below w.heap.size w w' := by
  have hU := usersUp_all mf h
  rw [hn] at hU
  cases mi
  · have e1 : okMap h (false, mf, mw) zs = decide ((false, mf, mw) = noM) := by simp [okMap]
    rw [e1]
    by_cases hf : mf = 0
    · subst hf
      cases mw
      · go_enter Try.func51, Try.ntmps51
        go_wp2
        go_ret
        refine ⟨by simp [noM], ?_⟩
        (repeat' (with_reducible (first | exact Below.refl _ _ | apply Below.setCell | apply Below.alloc | apply below_drewN | apply Below.drew))) <;> (first | exact Nat.le_refl _ | (simp; done) | (simp; omega))
      · go_enter Try.func51, Try.ntmps51
        go_wp2
        go_ret
        refine ⟨by simp [noM], ?_⟩
        (repeat' (with_reducible (first | exact Below.refl _ _ | apply Below.setCell | apply Below.alloc | apply below_drewN | apply Below.drew))) <;> (first | exact Nat.le_refl _ | (simp; done) | (simp; omega))
    · have hf' : (mf == 0) = false := by simpa using hf
      go_enter Try.func51, Try.ntmps51
      go_wp2
      all_goals
        go_ret
        refine ⟨by simp [noM, hf], ?_⟩
        (repeat' (with_reducible (first | exact Below.refl _ _ | apply Below.setCell | apply Below.alloc | apply below_drewN | apply Below.drew))) <;> (first | exact Nat.le_refl _ | (simp; done) | (simp; omega))
  · have hI := specIn mf 0 7
    have e1 : okMap h (true, mf, mw) zs = ((decide (0 ≤ mf) && decide (mf ≤ 7)) && (blankP zs && (!mw || (usersH h mf == 1)))) := by simp [okMap]
    rw [e1]
    cases hin : (decide (0 ≤ mf) && decide (mf ≤ 7))
    · rw [hin] at hI
      go_enter Try.func51, Try.ntmps51
      go_wp2_with (fail)
      refine (hI _).mono ?_
      rintro e w1 ⟨rfl, rfl⟩
      go_wp2
      go_ret
      refine ⟨rfl, ?_⟩
      (repeat' (with_reducible (first | exact Below.refl _ _ | apply Below.setCell | apply Below.alloc | apply below_drewN | apply Below.drew))) <;> (first | exact Nat.le_refl _ | (simp; done) | (simp; omega))
    · rw [hin] at hI
      have B1 : Below w.heap.size w ((w.alloc (.cells #[.slice af lf cf, .slice ag n cg, .int .i64 h.hand] 26)).alloc (.cells #[.bool true, .int .i64 mf, .bool mw] 35)) := ((Below.refl w.heap.size w).alloc (Nat.le_refl _) _).alloc (by simp) _
      have hD1 := hD.same (below_sameIn B1 hh)
      have hG1 := hG.same (below_sameIn B1 hh)
      have hBl := fun W h => specBlank lo hi ad ld cd zs W h hl
      cases hb : blankP zs
      · rw [hb] at hBl
        go_enter Try.func51, Try.ntmps51
        go_wp2_with (fail)
        refine (hI _).mono ?_
        rintro e w1 ⟨rfl, rfl⟩
        go_wp2_with (fail)
        refine (hBl _ hD1).mono ?_
        rintro e w2 ⟨rfl, rfl⟩
        go_wp2
        go_ret
        refine ⟨rfl, ?_⟩
        (repeat' (with_reducible (first | exact Below.refl _ _ | apply Below.setCell | apply Below.alloc | apply below_drewN | apply Below.drew))) <;> (first | exact Nat.le_refl _ | (simp; done) | (simp; omega))
      · rw [hb] at hBl
        cases mw
        · go_enter Try.func51, Try.ntmps51
          go_wp2_with (fail)
          refine (hI _).mono ?_
          rintro e w1 ⟨rfl, rfl⟩
          go_wp2_with (fail)
          refine (hBl _ hD1).mono ?_
          rintro e w2 ⟨rfl, rfl⟩
          go_wp2
          go_ret
          refine ⟨rfl, ?_⟩
          (repeat' (with_reducible (first | exact Below.refl _ _ | apply Below.setCell | apply Below.alloc | apply below_drewN | apply Below.drew))) <;> (first | exact Nat.le_refl _ | (simp; done) | (simp; omega))
        · have hUs := users_core lo hi af ag lf cf n cg h.guests h.hand mf _ hG1 (Nat.le_trans hh B1.size) hg hm
          rw [hU] at hUs
          go_enter Try.func51, Try.ntmps51
          go_wp2_with (fail)
          refine (hI _).mono ?_
          rintro e w1 ⟨rfl, rfl⟩
          go_wp2_with (fail)
          refine (hBl _ hD1).mono ?_
          rintro e w2 ⟨rfl, rfl⟩
          go_wp2_with (fail)
          refine hUs.mono ?_
          rintro e w3 ⟨rfl, B3⟩
          have B03 := B1.trans (B3.mono B1.size)
          have hq : ((usersH h mf : Int) == 1) = (usersH h mf == 1) := by
            generalize usersH h mf = u
            by_cases hu : u = 1
            · subst hu
              rfl
            · have h1 : ((u : Int) == 1) = false := by simp; omega
              have h2 : (u == 1) = false := by simpa using hu
              rw [h1, h2]
          have HQ : Hid (((usersH h mf : Int) == 1) = (usersH h mf == 1)) := hq
          clear hq hUs hBl hI hU
          go_wp2
          go_ret
          refine ⟨?_, B03⟩
          rw [← HQ.out]
          rfl

set_option maxHeartbeats 2000000 in
theorem specShadeOk (lo hi : Nat) (am ad aS : Option Addr) (cm ld cd ls cs : Nat) (g : Gst) (sh : Bool) (sp sf : Int) (sw : Bool) (w : World) (hM : IsMaps w lo hi am 6 g.maps) (hh : hi ≤ w.heap.size) :
    Calls Try.prog 52 #[.agg #[.slice am 6 cm, .slice ad ld cd, .slice aS ls cs], .agg #[.bool sh, .int .i64 sp, .int .i64 sf, .bool sw]] w fun e w' => e = .returned (.bool (okShade g (sh, sp, sf, sw))) ∧ Below w.heap.size w w' := by
  cases sh
  · have e1 : okShade g (false, sp, sf, sw) = decide ((false, sp, sf, sw) = noS) := by simp [okShade]
    rw [e1]
    by_cases hp : sp = 0
    · by_cases hf : sf = 0
      · subst hp hf
        cases sw
        · go_enter Try.func52, Try.ntmps52
          go_wp2
          go_ret
          refine ⟨by simp [noS], ?_⟩
          (repeat' (with_reducible (first | exact Below.refl _ _ | apply Below.setCell | apply Below.alloc | apply below_drewN | apply Below.drew))) <;> (first | exact Nat.le_refl _ | (simp; done) | (simp; omega))
        · go_enter Try.func52, Try.ntmps52
          go_wp2
          go_ret
          refine ⟨by simp [noS], ?_⟩
          (repeat' (with_reducible (first | exact Below.refl _ _ | apply Below.setCell | apply Below.alloc | apply below_drewN | apply Below.drew))) <;> (first | exact Nat.le_refl _ | (simp; done) | (simp; omega))
      · have hf' : (sf == 0) = false := by simpa using hf
        subst hp
        go_enter Try.func52, Try.ntmps52
        go_wp2
        all_goals
          go_ret
          refine ⟨by simp [noS, hf], ?_⟩
          (repeat' (with_reducible (first | exact Below.refl _ _ | apply Below.setCell | apply Below.alloc | apply below_drewN | apply Below.drew))) <;> (first | exact Nat.le_refl _ | (simp; done) | (simp; omega))
    · have hp' : (sp == 0) = false := by simpa using hp
      go_enter Try.func52, Try.ntmps52
      go_wp2
      all_goals
        go_ret
        refine ⟨by simp [noS, hp], ?_⟩
        (repeat' (with_reducible (first | exact Below.refl _ _ | apply Below.setCell | apply Below.alloc | apply below_drewN | apply Below.drew))) <;> (first | exact Nat.le_refl _ | (simp; done) | (simp; omega))
  · have hI := specIn sp 2 5
    cases hin : (decide (2 ≤ sp) && decide (sp ≤ 5))
    · rw [show okShade g (true, sp, sf, sw) = false by simp only [okShade, cond_true, hin, Bool.false_and]]
      rw [hin] at hI
      go_enter Try.func52, Try.ntmps52
      go_wp2_with (fail)
      refine (hI _).mono ?_
      rintro e w1 ⟨rfl, rfl⟩
      go_wp2
      go_ret
      refine ⟨rfl, ?_⟩
      (repeat' (with_reducible (first | exact Below.refl _ _ | apply Below.setCell | apply Below.alloc | apply below_drewN | apply Below.drew))) <;> (first | exact Nat.le_refl _ | (simp; done) | (simp; omega))
    · rw [hin] at hI
      have hin' : 2 ≤ sp ∧ sp ≤ 5 := by simpa using hin
      obtain ⟨P, rfl⟩ := Int.eq_ofNat_of_zero_le (show 0 ≤ sp by omega)
      have hP : P < 6 := by omega
      have hPi : (P : Int) < 6 := by omega
      have e1 : okShade g (true, (P : Int), sf, sw) = ((g.maps.getD P noM).1 && (((g.maps.getD P noM).2.1 == sf) && (!sw || (g.maps.getD P noM).2.2))) := by simp only [okShade, cond_true, hin, Bool.true_and, Int.toNat_natCast]
      rw [e1]
      obtain ⟨b, o, rfl, hb1, hb2, q0, q1, q2⟩ := hM.get hP
      generalize g.maps.getD P noM = mm at q0 q1 q2
      obtain ⟨mi, mf, mw⟩ := mm
      simp only at q0 q1 q2
      have hbw : b < w.heap.size := by omega
      have hbw1 : b < w.heap.size + 1 := by omega
      cases mi
      · go_enter Try.func52, Try.ntmps52
        go_wp2_with (fail)
        refine (hI _).mono ?_
        rintro e w1 ⟨rfl, rfl⟩
        go_wp2
        go_ret
        refine ⟨rfl, ?_⟩
        (repeat' (with_reducible (first | exact Below.refl _ _ | apply Below.setCell | apply Below.alloc | apply below_drewN | apply Below.drew))) <;> (first | exact Nat.le_refl _ | (simp; done) | (simp; omega))
      · by_cases hf : mf = sf
        · subst hf
          cases sw
          · go_enter Try.func52, Try.ntmps52
            go_wp2_with (fail)
            refine (hI _).mono ?_
            rintro e w1 ⟨rfl, rfl⟩
            go_wp2
            go_ret
            refine ⟨by simp, ?_⟩
            (repeat' (with_reducible (first | exact Below.refl _ _ | apply Below.setCell | apply Below.alloc | apply below_drewN | apply Below.drew))) <;> (first | exact Nat.le_refl _ | (simp; done) | (simp; omega))
          · go_enter Try.func52, Try.ntmps52
            go_wp2_with (fail)
            refine (hI _).mono ?_
            rintro e w1 ⟨rfl, rfl⟩
            go_wp2
            go_ret
            refine ⟨by simp, ?_⟩
            (repeat' (with_reducible (first | exact Below.refl _ _ | apply Below.setCell | apply Below.alloc | apply below_drewN | apply Below.drew))) <;> (first | exact Nat.le_refl _ | (simp; done) | (simp; omega))
        · have hf' : (mf == sf) = false := by simpa using hf
          go_enter Try.func52, Try.ntmps52
          go_wp2_with (fail)
          refine (hI _).mono ?_
          rintro e w1 ⟨rfl, rfl⟩
          go_wp2
          go_ret
          refine ⟨by simp [hf'], ?_⟩
          (repeat' (with_reducible (first | exact Below.refl _ _ | apply Below.setCell | apply Below.alloc | apply below_drewN | apply Below.drew))) <;> (first | exact Nat.le_refl _ | (simp; done) | (simp; omega))
end Go.Proofs.Ytjegndgdpmlbaaa

/-
  Whether memory is a guest's: the given function.
-/
namespace Go.Proofs.Ytjegndgdpmlbaaa
open Go.RowKit

def guestB (ms : List (List Int)) : Bool := okM ms && (ms.length == 6)
set_option maxHeartbeats 1000000 in
theorem specGuestB (lo hi : Nat) (a : Option Addr) (len cap : Nat) (ms : List (List Int)) (w : World) (h : IsMem w lo hi a len ms) (hn : len ≤ 1048576) (hL : ∀ i, i < len → (ms.getD i []).length ≤ 1048576) :
    Calls Try.prog 50 #[.slice a len cap] w fun e w' => e = .returned (.bool (guestB ms)) ∧ w' = w := by
  have hl := h.1
  cases ho : okM ms
  · rw [show guestB ms = false by simp [guestB, ho]]
    go_enter Try.func50, Try.ntmps50
    go_wp2_with (fail)
    refine (specMemOk lo hi a len cap ms _ h hn hL).mono ?_
    rintro e w1 ⟨rfl, rfl⟩
    rw [ho]
    go_wp2
    go_ret
    exact ⟨rfl, rfl⟩
  · by_cases h6 : len = 6
    · subst h6
      rw [show guestB ms = true by simp [guestB, ho, hl]]
      go_enter Try.func50, Try.ntmps50
      go_wp2_with (fail)
      refine (specMemOk lo hi a 6 cap ms _ h hn hL).mono ?_
      rintro e w1 ⟨rfl, rfl⟩
      rw [ho]
      go_wp2
      go_ret
      exact ⟨rfl, rfl⟩
    · rw [show guestB ms = false by simp [guestB, hl, h6]]
      have h6' : ((len : Int) == 6) = false := by simp; omega
      go_enter Try.func50, Try.ntmps50
      go_wp2_with (fail)
      refine (specMemOk lo hi a len cap ms _ h hn hL).mono ?_
      rintro e w1 ⟨rfl, rfl⟩
      rw [ho]
      go_wp2
      go_ret
      exact ⟨rfl, rfl⟩
end Go.Proofs.Ytjegndgdpmlbaaa
