/-
  The walk of the law FnOverStep.
-/
import Derived.Test.YtfiailnlkhonnabWalkFnOverThree
import Derived.Test.YtfiailnlkhonnabImplTabAt
namespace Go.Proofs.Ytfiailnlkhonnab
open Go.RowKit

theorem atE_page {es : List E3} (hl : es.length = 6) (h : es.all okE = true) {p : Int} (h0 : 0 ≤ p) (h5 : p ≤ 5) : atE es p = es.getD p.toNat (false, 0, false) := by
  unfold atE
  rw [h, hl]
  simp [h0, h5]
theorem atE_in {es : List E3} (hl : es.length = 6) (h : es.all okE = true) (k : Nat) (hk : k < 6) : atE es (k : Int) = es.getD k (false, 0, false) := by
  rw [atE_page hl h (by omega) (by omega)]; simp
theorem ok_none {es : List E3} (h : es.all okE = true) {k : Nat} (hk : k < es.length) {p : Int} {b : Bool} (he : es.getD k (false, 0, false) = (false, p, b)) : p = 0 ∧ b = false := by
  rw [List.all_eq_true] at h
  have hm : es.getD k (false, 0, false) ∈ es := by rw [List.getD_eq_getElem?_getD, List.getElem?_eq_getElem hk]; exact List.getElem_mem hk
  have := h _ hm
  rw [he] at this
  simpa [okE] using this

set_option maxHeartbeats 2000000 in
theorem walk_FnOverStep (a0 : Option Addr) (len0 cap0 : Nat) (z0 : List Int) (w : World) (w0 : IsRow .u8 w a0 len0 cap0 z0) :
    Calls Try.prog 3 #[.slice a0 len0 cap0] w fun e w' => e = .returned (.bool true) ∧ Below w.heap.size w w' := by
  by_cases hbig : (1048576 : Int) < (len0 : Int)
  · go_enter Try.func3, Try.ntmps3
    go_wp2
    go_ret
    exact ⟨rfl, Below.refl _ _⟩
  go_enter Try.func3, Try.ntmps3
  go_wp2_with (fail)
  refine (drawTabOver a0 len0 cap0 z0 _ w0).mono ?_
  rintro e v2 ⟨ba, oa, la, ca, ea, bb, ob, lb, cb, eb, rfl, hla, hlb, ma, mb, ta, tb, Ea, Eb, B2'⟩
  clear w0
  cases hT : ((ea.all okE && ((la : Int) == 6)) && (eb.all okE && ((lb : Int) == 6)))
  · go_wp2_with (fail)
    refine (implTabOver_not ba oa la ca ea bb ob lb cb eb _ hla hlb ta tb Ea Eb hT).mono ?_
    rintro e v3 ⟨rfl, B3⟩
    go_wp2_with (fail)
    refine (specTabOver_not ba oa la ca ea bb ob lb cb eb _ hla hlb ma mb (Nat.lt_of_lt_of_le ta B3.size) (Nat.lt_of_lt_of_le tb B3.size) (Ea.below B3 ta) (Eb.below B3 tb) hT).mono ?_
    rintro e v4 ⟨rfl, B4⟩
    have B24 := B3.trans (B4.mono B3.size)
    go_wp2_with (fail)
    refine (lkTab_nil _ _ _ _ _).mono ?_
    rintro e v5 ⟨rfl, rfl⟩
    go_wp2_with (fail)
    refine (specTabOver_not ba oa la ca ea bb ob lb cb eb _ hla hlb ma mb (Nat.lt_of_lt_of_le ta B24.size) (Nat.lt_of_lt_of_le tb B24.size) (Ea.below B24 ta) (Eb.below B24 tb) hT).mono ?_
    rintro e v7 ⟨rfl, B7⟩
    have B27 := B24.trans (B7.mono B24.size)
    go_wp2_with (fail)
    refine (lkTab_nil _ _ _ _ _).mono ?_
    rintro e v8 ⟨rfl, rfl⟩
    go_wp2
    go_ret
    exact ⟨rfl, B2'.trans (B27.mono B2'.size)⟩
  · have hT' := hT
    rw [Bool.and_eq_true] at hT'
    obtain ⟨rfl, ha6, hA⟩ := okT_six hla hT'.1
    obtain ⟨rfl, hb6, hB⟩ := okT_six hlb hT'.2
    clear hT hT'
    go_wp2_with (fail)
    refine (implTabOver_ok ba oa ca ea bb ob cb eb _ ha6 hb6 ta tb Ea Eb hA hB).mono ?_
    rintro e v3 ⟨X, rfl, _, tx, Ex, _, B3⟩
    go_wp2_with (fail)
    refine (specTabOver_ok ba oa ca ea bb ob cb eb _ ha6 hb6 (Nat.lt_of_lt_of_le ta B3.size) (Nat.lt_of_lt_of_le tb B3.size) (Ea.below B3 ta) (Eb.below B3 tb) hA hB).mono ?_
    rintro e v4 ⟨Y, yc, rfl, _, ty, Ey, B4⟩
    have B24 := B3.trans (B4.mono B3.size)
    have hl6 : (overT ea eb).length = 6 := by rw [overT_len]; exact ha6
    go_wp2_with (fail)
    refine (lkTab_same X 0 Y 0 6 6 yc (overT ea eb) _ hl6 (by omega) (Ex.below B4 tx) Ey).mono ?_
    rintro e v5 ⟨rfl, m5, rfl⟩
    have B5 : Below v4.heap.size v4 (v4.drewN m5) := below_drewN (Below.refl _ _) m5
    have B25 := B24.trans (B5.mono B24.size)
    have Ex := (Ex.below B4 tx).below B5 (Nat.lt_of_lt_of_le tx B4.size)
    have tx := Nat.lt_of_lt_of_le (Nat.lt_of_lt_of_le tx B4.size) B5.size
    have Ea := Ea.below B25 ta
    have Eb := Eb.below B25 tb
    have ta := Nat.lt_of_lt_of_le ta B25.size
    have tb := Nat.lt_of_lt_of_le tb B25.size
    have Bw := B2'.trans (B25.mono B2'.size)
    clear Ey ty B3 B4 B24 B5 B25 B2'
    generalize hv : v4.drewN m5 = u at Ex tx Ea Eb ta tb Bw
    clear hv
    go_wp2_with (fail)
    go_loopw [6, 7, 8, 9] (fun i _ _ _ wr => ∃ k : Nat, k ≤ 6 ∧ i = .int .i64 k ∧ Below u.heap.size u wr) (fun i _ _ _ _ => 6 - (intOf i).toNat)
    case atStart => exact ⟨0, Nat.zero_le _, rfl, Below.refl _ _⟩
    case round =>
      obtain ⟨k, hk, rfl, hW⟩ := hrel
      have sW := hW.size
      by_cases hlt : k < 6
      · have hki : (k : Int) < 6 := by omega
        have h1 : atE ea (k : Int) = ea.getD k (false, 0, false) := atE_in ha6 hA k hlt
        have hx : (overT ea eb).getD k (false, 0, false) = overE (ea.getD k (false, 0, false)) eb := getD_over ea eb k
        have hP := fun p b (h : ea.getD k (false, 0, false) = (true, p, b)) => ok_page hA (k := k) (by omega) h
        have hN := fun p b (h : ea.getD k (false, 0, false) = (false, p, b)) => ok_none hA (k := k) (by omega) h
        generalize ea.getD k (false, 0, false) = one at h1 hx hP hN
        obtain ⟨c0, c1, c2⟩ := Ex k (by rw [overT_len]; omega)
        rw [hx] at c0 c1 c2
        simp only [Nat.zero_add] at c0 c1 c2
        obtain ⟨oh, op, ow⟩ := one
        go_wp2_with (fail)
        refine (implTabAt ba oa 6 ca ea k _ ha6 (Nat.lt_of_lt_of_le ta hW.size) (Ea.below hW ta)).mono ?_
        rintro e w1 ⟨rfl, B1⟩
        have C1 := hW.trans (B1.mono hW.size)
        rw [h1]
        unfold entV
        have A1 : Below u.heap.size u (w1.alloc (.cells #[.bool oh, .int .i64 op, .bool ow] 29)) := C1.alloc C1.size _
        go_wp2_with (fail)
        refine (implTabAt bb ob 6 cb eb op _ hb6 (Nat.lt_of_lt_of_le tb A1.size) (Eb.below A1 tb)).mono ?_
        rintro e w2 ⟨rfl, B2⟩
        have C2 := A1.trans (B2.mono A1.size)
        obtain ⟨k0, k1, k2⟩ := keep3 B2 w1.heap.size (by simp)
        have sz : w1.heap.size < w2.heap.size := lt_size B2 (by simp)
        have x0 := (C2.cell (p := ⟨X, k * 3, none⟩) tx).trans c0
        have x1 := (C2.cell (p := ⟨X, k * 3 + 1, none⟩) tx).trans c1
        have x2 := (C2.cell (p := ⟨X, k * 3 + 2, none⟩) tx).trans c2
        have tX : X < w2.heap.size := Nat.lt_of_lt_of_le tx C2.size
        have sC := C2.size
        clear c0 c1 c2 hx h1 B1 B2 A1 C1 hW
        cases oh
        · obtain ⟨rfl, rfl⟩ := hN op ow rfl
          generalize atE eb 0 = two
          obtain ⟨th, tp, tw⟩ := two
          simp only [overE, cond_false] at x0 x1 x2
          clear hP hN
          unfold entV
          go_wp2_with (fail)
          go_quiet (fail)
          go_wp2
          go_roundw
          case rel =>
            refine ⟨k + 1, by omega, by go_num, ?_⟩
            (repeat' (with_reducible (first | exact Below.refl _ _ | apply Below.setCell | apply Below.alloc | apply below_drewN | apply Below.drew | refine Below.trans ?_ (Below.mono (by assumption) ?_)))) <;> (first | exact Nat.le_refl _ | (simp; done) | (simp; omega) | (simp at *; omega))
          case measure => simp [intOf]; omega
        · obtain ⟨p0, p5⟩ := hP op ow rfl
          have h2 : atE eb op = eb.getD op.toNat (false, 0, false) := atE_page hb6 hB p0 p5
          rw [h2]
          simp only [overE, cond_true] at x0 x1 x2
          generalize eb.getD op.toNat (false, 0, false) = two at x0 x1 x2
          obtain ⟨th, tp, tw⟩ := two
          clear hP hN h2
          unfold entV
          cases th
          · simp only [cond_false] at x0 x1 x2
            go_wp2_with (fail)
            go_quiet (fail)
            go_wp2
            go_roundw
            case rel =>
              refine ⟨k + 1, by omega, by go_num, ?_⟩
              (repeat' (with_reducible (first | exact Below.refl _ _ | apply Below.setCell | apply Below.alloc | apply below_drewN | apply Below.drew | refine Below.trans ?_ (Below.mono (by assumption) ?_)))) <;> (first | exact Nat.le_refl _ | (simp; done) | (simp; omega) | (simp at *; omega))
            case measure => simp [intOf]; omega
          · simp only [cond_true] at x0 x1 x2
            cases ow
            · simp only [Bool.and_false] at x2
              go_wp2_with (fail)
              go_quiet (fail)
              go_wp2
              go_roundw
              case rel =>
                refine ⟨k + 1, by omega, by go_num, ?_⟩
                (repeat' (with_reducible (first | exact Below.refl _ _ | apply Below.setCell | apply Below.alloc | apply below_drewN | apply Below.drew | refine Below.trans ?_ (Below.mono (by assumption) ?_)))) <;> (first | exact Nat.le_refl _ | (simp; done) | (simp; omega) | (simp at *; omega))
              case measure => simp [intOf]; omega
            · simp only [Bool.and_true] at x2
              go_wp2_with (fail)
              go_quiet (fail)
              go_wp2
              go_roundw
              case rel =>
                refine ⟨k + 1, by omega, by go_num, ?_⟩
                (repeat' (with_reducible (first | exact Below.refl _ _ | apply Below.setCell | apply Below.alloc | apply below_drewN | apply Below.drew | refine Below.trans ?_ (Below.mono (by assumption) ?_)))) <;> (first | exact Nat.le_refl _ | (simp; done) | (simp; omega) | (simp at *; omega))
              case measure => simp [intOf]; omega
      · go_wp2_with (fail)
        have hl6' : (overT ea eb).length = 6 := by rw [overT_len]; exact ha6
        refine (implTabOk_six X 0 6 (overT ea eb) _ hl6' (Nat.lt_of_lt_of_le tx hW.size) (Ex.below hW tx)).mono ?_
        rintro e w9 ⟨rfl, B9⟩
        rw [overT_ok ea eb hB]
        have C9 := hW.trans (B9.mono hW.size)
        go_wp2
        go_ret
        exact ⟨rfl, Bw.trans (C9.mono Bw.size)⟩
end Go.Proofs.Ytfiailnlkhonnab
