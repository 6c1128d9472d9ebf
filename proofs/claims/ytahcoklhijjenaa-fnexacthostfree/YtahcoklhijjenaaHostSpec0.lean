/-
  What the given functions that look at hosts do.
-/
import Derived.Test.YtahcoklhijjenaaHost0
import Derived.Test.YtahcoklhijjenaaMemSpec0
namespace Go.Proofs.Ytahcoklhijjenaa
open Go.RowKit

def usersUp (f : Int) (gs : List Gst) (k : Nat) : Nat := ((gs.take k).map (usersG f)).sum
def mapsUp (f : Int) (ms : List E3) (k : Nat) : Nat := ((ms.take k).filter (inF f)).length
theorem mapsUp_step (f : Int) {ms : List E3} {k : Nat} (h : k < ms.length) : mapsUp f ms (k + 1) = mapsUp f ms k + (bif inF f (ms.getD k noM) then 1 else 0) := by
  unfold mapsUp
  rw [List.take_succ_eq_append_getElem h, List.filter_append, List.length_append, getD_lt h]
  cases hc : inF f ms[k] <;> simp [hc]
theorem mapsUp_le (f : Int) (ms : List E3) (k : Nat) : mapsUp f ms k ≤ ms.length := by
  unfold mapsUp
  exact Nat.le_trans (List.length_filter_le _ _) (by rw [List.length_take]; omega)
theorem mapsUp_all (f : Int) (g : Gst) : mapsUp f g.maps g.maps.length = usersG f g := by
  rw [mapsUp, List.take_of_length_le (Nat.le_refl _), usersG]
theorem usersUp_step (f : Int) {gs : List Gst} {k : Nat} (h : k < gs.length) : usersUp f gs (k + 1) = usersUp f gs k + usersG f (gs.getD k noG) := by
  unfold usersUp
  rw [List.take_succ_eq_append_getElem h, List.map_append, List.sum_append, getD_lt h]
  simp
theorem usersUp_le (f : Int) (gs : List Gst) (hm : ∀ i, i < gs.length → (gs.getD i noG).maps.length ≤ 1000) (k : Nat) (hk : k ≤ gs.length) : usersUp f gs k ≤ 1000 * k := by
  induction k with
  | zero => simp [usersUp]
  | succ k ih =>
    have h1 := usersUp_step f (gs := gs) (k := k) (by omega)
    have h2 := mapsUp_le f (gs.getD k noG).maps (gs.getD k noG).maps.length
    rw [mapsUp_all] at h2
    have := hm k (by omega)
    have := ih (by omega)
    omega
theorem usersUp_all (f : Int) (h : Hst) : usersUp f h.guests h.guests.length = usersH h f := by rw [usersUp, List.take_of_length_le (Nat.le_refl _), usersH]

set_option maxHeartbeats 2000000 in
theorem users_core (lo hi : Nat) (af ag : Option Addr) (lf cf n cg : Nat) (gs : List Gst) (hand f : Int) (w : World) (hG : IsGuests w lo hi ag n gs) (hh : hi ≤ w.heap.size) (hg : n ≤ 1000) (hm : ∀ i, i < n → (gs.getD i noG).maps.length ≤ 1000) :
    Calls Try.prog 70 #[.agg #[.slice af lf cf, .slice ag n cg, .int .i64 hand], .int .i64 f] w fun e w' => e = .returned (.int .i64 (usersUp f gs n)) ∧ Below w.heap.size w w' := by
  have B0 : Below w.heap.size w (w.alloc (.cells #[.slice af lf cf, .slice ag n cg, .int .i64 hand] 27)) := (Below.refl _ _).alloc (Nat.le_refl _) _
  have hgl := hG.1
  go_enter Try.func70, Try.ntmps70
  go_wp2
  go_loop [5, 6, 7] (fun c g _ => ∃ k : Nat, k ≤ n ∧ g = .int .i64 k ∧ c = .int .i64 (usersUp f gs k)) (fun _ g _ => n - (intOf g).toNat)
  case atStart => exact ⟨0, Nat.zero_le _, rfl, rfl⟩
  case round =>
    obtain ⟨k, hk, rfl, rfl⟩ := hrel
    by_cases hkl : k < n
    · obtain ⟨b, o, am, cm, ad, cd, aS, cs, rfl, hb1, hb2, q1, q2, q3, hM, _, _⟩ := hG.get hkl
      have hbw : b < w.heap.size := by omega
      have hki : (k : Int) < (n : Int) := by omega
      have hst := usersUp_step f (gs := gs) (k := k) (by omega)
      have hle := usersUp_le f gs (fun i hi => hm i (by omega)) k (by omega)
      have hml := hm k hkl
      have hal := mapsUp_all f (gs.getD k noG)
      have hmu := mapsUp_le f (gs.getD k noG).maps
      have hmt := fun j (h : j < (gs.getD k noG).maps.length) => mapsUp_step f h
      rw [← hal] at hst
      generalize (gs.getD k noG).maps = ms at q1 hM hst hml hmu hmt
      clear q2 q3 hal
      have hms := hM.1
      generalize ms.length = m at q1 hM hml hmu hmt hms hst
      have HST : Hid (usersUp f gs (k + 1) = usersUp f gs k + mapsUp f ms m) := hst
      have HMT : Hid (∀ j, j < m → mapsUp f ms (j + 1) = mapsUp f ms j + (bif inF f (ms.getD j noM) then 1 else 0)) := hmt
      clear hst hmt
      go_wp2
      go_loop [5, 7] (fun c p => ∃ j : Nat, j ≤ m ∧ p = .int .i64 j ∧ c = .int .i64 ((usersUp f gs k + mapsUp f ms j : Nat) : Int)) (fun _ p => m - (intOf p).toNat)
      case atStart => exact ⟨0, Nat.zero_le _, rfl, by simp [mapsUp]⟩
      case round =>
        obtain ⟨j, hj, rfl, rfl⟩ := hrel
        by_cases hjl : j < m
        · obtain ⟨b', o', rfl, hb1', hb2', r0, r1, _⟩ := hM.get hjl
          have hbw' : b' < w.heap.size := by omega
          have hji : (j : Int) < (m : Int) := by omega
          have hst := HMT.out j hjl
          have hmj := hmu j
          generalize ms.getD j noM = mm at r0 r1 hst
          obtain ⟨mi, mf, mw⟩ := mm
          simp only at r0 r1
          cases mi
          · have HS : Hid (mapsUp f ms (j + 1) = mapsUp f ms j) := by simpa [Hid, inF] using hst
            clear hst
            go_wp2
            go_round
            case rel => exact ⟨j + 1, by omega, by go_num, by rw [HS.out]⟩
            case measure => simp [intOf]; omega
          · by_cases hmf : mf = f
            · subst hmf
              have HS : Hid (mapsUp mf ms (j + 1) = mapsUp mf ms j + 1) := by simpa [Hid, inF] using hst
              clear hst
              go_wp2
              go_round
              case rel => exact ⟨j + 1, by omega, by go_num, by rw [HS.out]; go_num⟩
              case measure => simp [intOf]; omega
            · have hne : (mf == f) = false := by simpa using hmf
              have HS : Hid (mapsUp f ms (j + 1) = mapsUp f ms j) := by simpa [Hid, inF, hne] using hst
              clear hst
              go_wp2
              go_round
              case rel => exact ⟨j + 1, by omega, by go_num, by rw [HS.out]⟩
              case measure => simp [intOf]; omega
        · obtain rfl : j = m := by omega
          go_wp2
          go_round
          case rel => exact ⟨k + 1, by omega, by go_num, by rw [HST.out]⟩
          case measure => simp [intOf]; omega
    · obtain rfl : k = n := by omega
      go_wp2
      go_ret
      exact ⟨rfl, B0⟩
theorem specUsers (lo hi : Nat) (vf vg : Value) (h : Hst) (f : Int) (w : World) (hH : HostIn w lo hi vf vg h) (hh : hi ≤ w.heap.size) (hg : h.guests.length ≤ 1000) (hm : ∀ i, i < h.guests.length → (h.guests.getD i noG).maps.length ≤ 1000) :
    Calls Try.prog 70 #[.agg #[vf, vg, .int .i64 h.hand], .int .i64 f] w fun e w' => e = .returned (.int .i64 (usersH h f)) ∧ Below w.heap.size w w' := by
  obtain ⟨⟨af, cf, rfl, hF⟩, ag, cg, rfl, hG⟩ := hH
  rw [← usersUp_all f h]
  exact users_core lo hi af ag _ cf _ cg h.guests h.hand f w hG hh hg hm

set_option maxHeartbeats 1000000 in
theorem specBlank (lo hi : Nat) (a : Option Addr) (len cap : Nat) (zs : List Int) (w : World) (h : IsInts w lo hi a len zs) (hn : len ≤ 1048576) :
    Calls Try.prog 87 #[.slice a len cap] w fun e w' => e = .returned (.bool (blankP zs)) ∧ w' = w := by
  obtain ⟨hl, hd⟩ := h
  go_enter Try.func87, Try.ntmps87
  go_wp2
  go_loop [3] (fun i => ∃ k : Nat, k ≤ len ∧ i = .int .i64 k ∧ Hid ((zs.take k).all (fun z => z == 0) = true)) (fun i => len - (intOf i).toNat)
  case atStart => exact ⟨0, Nat.zero_le _, rfl, rfl⟩
  case round =>
    obtain ⟨k, hk, rfl, hA⟩ := hrel
    by_cases hkl : k < len
    · rcases hd with h0 | ⟨b, o, rfl, _, _, hc⟩
      · omega
      have c := hc k (by omega)
      have hki : (k : Int) < (len : Int) := by omega
      have hlt : k < zs.length := by omega
      have hgd : zs.getD k 0 = zs[k] := getD_lt hlt
      clear hc
      by_cases hz : zs.getD k 0 = 0
      · have HA : Hid ((zs.take (k + 1)).all (fun z => z == 0) = true) := all_more hlt hA.out (by rw [← hgd, hz]; rfl)
        rw [hz] at c
        clear hA hgd hz
        go_wp2
        go_round
        case rel => exact ⟨k + 1, by omega, by go_num, HA⟩
        case measure => simp [intOf]; omega
      · have HF : Hid (blankP zs = false) := all_no hlt (by rw [← hgd]; simpa using hz)
        have hne : (zs.getD k 0 == 0) = false := by simpa using hz
        generalize zs.getD k 0 = z at c hne
        clear hA hgd hz
        go_wp2
        go_ret
        exact ⟨by rw [HF.out]; rfl, rfl⟩
    · have HT : Hid (blankP zs = true) := by
        have := hA.out
        rwa [List.take_of_length_le (by omega)] at this
      clear hA
      go_wp2
      go_ret
      exact ⟨by rw [HT.out]; rfl, rfl⟩
end Go.Proofs.Ytahcoklhijjenaa
