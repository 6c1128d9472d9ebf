/-
  The walk of the law FnOverThree.
-/
import Derived.Test.YtfiailnlkhonnabLkTab
import Derived.Test.YtfiailnlkhonnabOverPlain
namespace Go.Proofs.Ytfiailnlkhonnab
open Go.RowKit

theorem okT_six {es : List E3} {l : Nat} (hl : es.length = l) (h : (es.all okE && ((l : Int) == 6)) = true) : l = 6 ∧ es.length = 6 ∧ es.all okE = true := by
  rw [Bool.and_eq_true] at h
  obtain ⟨h1, h2⟩ := h
  simp at h2
  exact ⟨by omega, by omega, h1⟩

set_option maxHeartbeats 2000000 in
theorem walk_FnOverThree (a0 : Option Addr) (len0 cap0 : Nat) (z0 : List Int) (a1 : Option Addr) (len1 cap1 : Nat) (z1 : List Int) (w : World) (w0 : IsRow .u8 w a0 len0 cap0 z0) (w1 : IsRow .u8 w a1 len1 cap1 z1) :
    Calls Try.prog 4 #[.slice a0 len0 cap0, .slice a1 len1 cap1] w fun e w' => e = .returned (.bool true) ∧ Below w.heap.size w w' := by
  by_cases hbig : (1048576 : Int) < (len0 : Int)
  · go_enter Try.func4, Try.ntmps4
    go_wp2
    go_ret
    exact ⟨rfl, Below.refl _ _⟩
  by_cases hbig' : (1048576 : Int) < (len1 : Int)
  · go_enter Try.func4, Try.ntmps4
    go_wp2
    go_ret
    exact ⟨rfl, Below.refl _ _⟩
  go_enter Try.func4, Try.ntmps4
  go_wp2_with (fail)
  refine (drawTabOver a0 len0 cap0 z0 _ w0).mono ?_
  rintro e v1 ⟨ba, oa, la, ca, ea, bb, ob, lb, cb, eb, rfl, hla, hlb, ma, mb, ta, tb, Ea, Eb, B1⟩
  go_wp2_with (fail)
  refine (drawTabOver a1 len1 cap1 z1 _ (w1.below B1)).mono ?_
  rintro e v2 ⟨bc, oc, lc, cc, ec, bd, od, ld, cd, ed, rfl, hlc, hld, mc, md, tc, td, Ec, Ed, B2⟩
  have Ea := Ea.below B2 ta
  have Eb := Eb.below B2 tb
  have ta := Nat.lt_of_lt_of_le ta B2.size
  have tb := Nat.lt_of_lt_of_le tb B2.size
  have B2' := B1.trans (B2.mono B1.size)
  clear B1 B2 Ed td w0 w1
  cases hT : ((ea.all okE && ((la : Int) == 6)) && (eb.all okE && ((lb : Int) == 6)))
  · go_wp2_with (fail)
    refine (implTabOver_not ba oa la ca ea bb ob lb cb eb _ hla hlb ta tb Ea Eb hT).mono ?_
    rintro e v3 ⟨rfl, B3⟩
    go_wp2_with (fail)
    refine (specTabOver_not ba oa la ca ea bb ob lb cb eb _ hla hlb ma mb (Nat.lt_of_lt_of_le ta B3.size) (Nat.lt_of_lt_of_le tb B3.size) (Ea.below B3 ta) (Eb.below B3 tb) hT).mono ?_
    rintro e v4 ⟨rfl, B4⟩
    have B24 := B3.trans (B4.mono B3.size)
    go_wp2_with (fail)
    refine (lkTab_nil _ _ _ _ _).mono ?_
    rintro e v5 ⟨rfl, rfl⟩
    go_wp2_with (fail)
    refine (specTabOver_not ba oa la ca ea bb ob lb cb eb _ hla hlb ma mb (Nat.lt_of_lt_of_le ta B24.size) (Nat.lt_of_lt_of_le tb B24.size) (Ea.below B24 ta) (Eb.below B24 tb) hT).mono ?_
    rintro e v6 ⟨rfl, B6⟩
    go_wp2_with (fail)
    refine (lkTab_nil _ _ _ _ _).mono ?_
    rintro e v7 ⟨rfl, rfl⟩
    have B26 := B24.trans (B6.mono B24.size)
    go_wp2
    go_ret
    exact ⟨rfl, B2'.trans (B26.mono B2'.size)⟩
  · have hT' := hT
    rw [Bool.and_eq_true] at hT'
    obtain ⟨rfl, ha6, hA⟩ := okT_six hla hT'.1
    obtain ⟨rfl, hb6, hB⟩ := okT_six hlb hT'.2
    clear hT hT'
    go_wp2_with (fail)
    refine (implTabOver_ok ba oa ca ea bb ob cb eb _ ha6 hb6 ta tb Ea Eb hA hB).mono ?_
    rintro e v3 ⟨X, rfl, _, tx, Ex, _, B3⟩
    go_wp2_with (fail)
    refine (specTabOver_ok ba oa ca ea bb ob cb eb _ ha6 hb6 (Nat.lt_of_lt_of_le ta B3.size) (Nat.lt_of_lt_of_le tb B3.size) (Ea.below B3 ta) (Eb.below B3 tb) hA hB).mono ?_
    rintro e v4 ⟨Y, yc, rfl, _, ty, Ey, B4⟩
    have B24 := B3.trans (B4.mono B3.size)
    have hl6 : (overT ea eb).length = 6 := by rw [overT_len]; exact ha6
    go_wp2_with (fail)
    refine (lkTab_same X 0 Y 0 6 6 yc (overT ea eb) _ hl6 (by omega) (Ex.below B4 tx) Ey).mono ?_
    rintro e v5 ⟨rfl, m5, rfl⟩
    have B5 : Below v4.heap.size v4 (v4.drewN m5) := below_drewN (Below.refl _ _) m5
    have B25 := B24.trans (B5.mono B24.size)
    have Ex5 := (Ex.below B4 tx).below B5 (Nat.lt_of_lt_of_le tx B4.size)
    have tx5 := Nat.lt_of_lt_of_le (Nat.lt_of_lt_of_le tx B4.size) B5.size
    clear Ey ty B3 B4 B24 Ex tx B5
    go_wp2_with (fail)
    refine (specTabOk bc oc lc cc ec _ hlc (by omega) (Nat.lt_of_lt_of_le tc B25.size) (Ec.below B25 tc)).mono ?_
    rintro e v6 ⟨rfl, B6⟩
    have B26 := B25.trans (B6.mono B25.size)
    have Ex6 := Ex5.below B6 tx5
    have tx6 := Nat.lt_of_lt_of_le tx5 B6.size
    clear Ex5 tx5 B25 B6
    cases hC : (ec.all okE && ((lc : Int) == 6))
    · go_wp2_with (fail)
      refine (specTabOver_ok ba oa ca ea bb ob cb eb _ ha6 hb6 (Nat.lt_of_lt_of_le ta B26.size) (Nat.lt_of_lt_of_le tb B26.size) (Ea.below B26 ta) (Eb.below B26 tb) hA hB).mono ?_
      rintro e v7 ⟨Z, zc, rfl, _, tz, Ez, B7⟩
      go_wp2_with (fail)
      refine (lkTab_same X 0 Z 0 6 6 zc (overT ea eb) _ hl6 (by omega) (Ex6.below B7 tx6) Ez).mono ?_
      rintro e v8 ⟨rfl, m8, rfl⟩
      have B27 := B26.trans (B7.mono B26.size)
      go_wp2
      go_ret
      exact ⟨rfl, below_drewN (B2'.trans (B27.mono B2'.size)) m8⟩
    · obtain ⟨rfl, hc6, hCo⟩ := okT_six hlc hC
      clear hC
      go_wp2_with (fail)
      refine (implTabOver_ok X 0 6 (overT ea eb) bc oc cc ec _ hl6 hc6 tx6 (Nat.lt_of_lt_of_le tc B26.size) Ex6 (Ec.below B26 tc) (overT_ok ea eb hB) hCo).mono ?_
      rintro e v7 ⟨P, rfl, _, tp, Ep, _, B7⟩
      have B27 := B26.trans (B7.mono B26.size)
      go_wp2_with (fail)
      refine (implTabOver_ok bb ob cb eb bc oc cc ec _ hb6 hc6 (Nat.lt_of_lt_of_le tb B27.size) (Nat.lt_of_lt_of_le tc B27.size) (Eb.below B27 tb) (Ec.below B27 tc) hB hCo).mono ?_
      rintro e v8 ⟨Q, rfl, _, tq, Eq, _, B8⟩
      have B28 := B27.trans (B8.mono B27.size)
      go_wp2_with (fail)
      refine (implTabOver_ok ba oa ca ea Q 0 6 (overT eb ec) _ ha6 (by rw [overT_len]; exact hb6) (Nat.lt_of_lt_of_le ta B28.size) tq (Ea.below B28 ta) Eq hA (overT_ok eb ec hCo)).mono ?_
      rintro e v9 ⟨R, rfl, _, tr, Er, _, B9⟩
      have B29 := B28.trans (B9.mono B28.size)
      rw [← overT_three] at Er
      go_wp2_with (fail)
      refine (lkTab_same P 0 R 0 6 6 6 (overT (overT ea eb) ec) _ (by rw [overT_len]; exact hl6) (by omega) ((Ep.below B8 tp).below B9 (Nat.lt_of_lt_of_le tp B8.size)) Er).mono ?_
      rintro e v10 ⟨rfl, m10, rfl⟩
      go_wp2
      go_ret
      exact ⟨rfl, below_drewN (B2'.trans (B29.mono B2'.size)) m10⟩
end Go.Proofs.Ytfiailnlkhonnab
