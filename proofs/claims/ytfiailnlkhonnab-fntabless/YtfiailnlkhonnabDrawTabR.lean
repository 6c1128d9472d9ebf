/-
  What the drawing of a table gives, and that it may be written; the walk of the drawing for TabOk.
-/
import Derived.Test.YtfiailnlkhonnabWalkFnOverLess
import Derived.Test.YtfiailnlkhonnabImplTabAt
namespace Go.Proofs.Ytfiailnlkhonnab
open Go.RowKit

/-- Cells from a place on, each of which may be written. -/
def RoomO (w : World) (b o n : Nat) : Prop := ∀ j, j < n → (∃ v, w.cell? ⟨b, o + j, none⟩ = some v) ∧ w.frozen? ⟨b, o + j, none⟩ = false
theorem Room.at0 {w : World} {b : Nat} (h : Room w b 18) : RoomO w b 0 (6 * 3) := fun j hj => by simpa using h j (by omega)
theorem Room.at3 {w : World} {b : Nat} (h : Room w b 18) : RoomO w b 3 (5 * 3) := fun j hj => by simpa using h (3 + j) (by omega)
theorem RoomO.adv {rb : Nat} {w w' : World} {b o n : Nat} (h : RoomO w b o n) (ha : Adv rb w w') (hb : b < w.heap.size) (hn : b ≠ rb) : RoomO w' b o n := fun j hj =>
  ⟨(h j hj).1.imp fun _ hv => (ha.cell (p := ⟨b, o + j, none⟩) hb hn).trans hv, (ha.frozen (p := ⟨b, o + j, none⟩) hb hn).trans (h j hj).2⟩

/-- One entry is written anew, wherever the row begins. -/
theorem ents_setO {w : World} {b o k : Nat} {es : List E3} (hE : Ents w b o es) (eh : Bool) (ep : Int) (eb : Bool) :
    Ents (((w.setCell ⟨b, o + k * 3, none⟩ (.bool eh)).setCell ⟨b, o + k * 3 + 1, none⟩ (.int .i64 ep)).setCell ⟨b, o + k * 3 + 2, none⟩ (.bool eb)) b o (es.set k (eh, ep, eb)) := by
  have key : ∀ x v, w.cell? ⟨b, x, none⟩ = some v → (((w.setCell ⟨b, o + k * 3, none⟩ (.bool eh)).setCell ⟨b, o + k * 3 + 1, none⟩ (.int .i64 ep)).setCell ⟨b, o + k * 3 + 2, none⟩ (.bool eb)).cell? ⟨b, x, none⟩ =
      some (if x = o + k * 3 + 2 then .bool eb else if x = o + k * 3 + 1 then .int .i64 ep else if x = o + k * 3 then .bool eh else v) := fun x v hv => cell_put (cell_put (cell_put hv))
  intro i hi
  simp only [List.length_set] at hi
  by_cases hik : i = k
  · subst hik
    have hg : (es.set i (eh, ep, eb)).getD i (false, 0, false) = (eh, ep, eb) := by simp [List.getD_eq_getElem?_getD, hi]
    rw [hg]
    obtain ⟨e0, e1, e2⟩ := hE i hi
    refine ⟨(key _ _ e0).trans ?_, (key _ _ e1).trans ?_, (key _ _ e2).trans ?_⟩
    · rw [if_neg (by omega), if_neg (by omega), if_pos rfl]
    · rw [if_neg (by omega), if_pos rfl]
    · rw [if_pos rfl]
  · have hg : (es.set k (eh, ep, eb)).getD i (false, 0, false) = es.getD i (false, 0, false) := by simp [List.getD_eq_getElem?_getD, List.getElem?_set_ne (Ne.symm hik)]
    rw [hg]
    obtain ⟨e0, e1, e2⟩ := hE i hi
    refine ⟨(key _ _ e0).trans ?_, (key _ _ e1).trans ?_, (key _ _ e2).trans ?_⟩
    all_goals rw [if_neg (by omega), if_neg (by omega), if_neg (by omega)]

set_option maxHeartbeats 2000000 in
theorem drawTabR (rb k0 : Nat) (w : World) (hr0 : Rd w rb k0) (hk0 : k0 ≤ 800000) :
    Calls Try.prog 19 #[.pointer (some ⟨rb, 0, none⟩)] w fun e w' => ∃ (T o len cap : Nat) (es : List E3) (k' : Nat), e = .returned (.slice (some ⟨T, o, none⟩) len cap) ∧ es.length = len ∧ 5 ≤ len ∧ len ≤ 6 ∧ RoomO w' T o (len * 3) ∧ w.heap.size ≤ T ∧ T < w'.heap.size ∧ Ents w' T o es ∧ Rd w' rb k' ∧ k' ≤ k0 + 30 ∧ Adv rb w w' := by
  have hlt := hr0.lt
  obtain ⟨i0, hi, hz0, hz1, hz2⟩ := info_parts infoE
  go_enter Try.func19, Try.ntmps19
  go_wp2
  go_loopw [3, 4] (fun v i wr => ∃ (k kr : Nat) (es : List E3), k ≤ 6 ∧ i = .int .i64 k ∧ es.length = k ∧ Hid (wr.ownsRow w.heap.size 29 3 v k (flat es)) ∧ Hid (Rd wr rb kr) ∧ kr ≤ k0 + 3 * k ∧ Hid (Adv rb w wr)) (fun _ i _ => 6 - (intOf i).toNat)
  case atStart => exact ⟨0, k0, [], Nat.zero_le _, rfl, rfl, World.ownsRow_made w #[] 0 (Nat.le_refl _) (by simp [maxLen]) rfl, hr0.alloc _, by omega, (Adv.refl _ _).alloc _⟩
  case round =>
    obtain ⟨k, kr, es, hk, rfl, hl, hownH, hrH, hkr, haH⟩ := hrel
    have sW := haH.out.size
    by_cases hkl : k < 6
    · have hki : (k : Int) < 6 := by omega
      go_wp2_with (fail)
      refine (drawFine rb kr _ hrH.out (by omega)).mono ?_
      rintro e w1 ⟨eh, ep, ew, k1, rfl, hr1, hk1, ha1⟩
      have hown := own_adv hownH.out ha1 hlt
      have s1 := ha1.size
      have HC1 := cell_three_new w1 (.bool eh) (.int .i64 ep) (.bool ew) 29
      have HC2 : ∀ u ∈ [Value.bool eh, .int .i64 ep, .bool ew], u.oneCell' = true := fun u hu => by simp at hu; rcases hu with rfl | rfl | rfl <;> rfl
      go_wp2_with (at_builtin; refine wpList_append_own _ rfl _ _ 23 rfl w.heap.size 29 i0 (.agg #[.bool false, .int .i64 0, .bool false]) 3 24 Try.underlying23 hi hz0 hz1 hz2 rfl (by decide) _ _ _ rfl (hown.alloc _) ⟨w1.heap.size, 0, none⟩ 1 1 [.bool eh, .int .i64 ep, .bool ew] rfl rfl HC1 HC2 (by unfold maxLen; omega) (by omega) (by simp; omega) ?_; intro v' w3 hown' hgrow hnil)
      have Bx : Below w.heap.size (w1.alloc (.cells #[.bool eh, .int .i64 ep, .bool ew] 29)) w3 := Below.grown (Below.refl _ _) hgrow (by simp; omega) (fun j hj => (hown.lt _ hj).1)
      have HR3 : Hid (Rd w3 rb k1) := (hr1.alloc _).below Bx hlt
      have HA3 : Hid (Adv rb w w3) := ((haH.out.trans ha1).alloc _).then_below Bx
      have HO3 : Hid (w3.ownsRow w.heap.size 29 3 v' (k + 1) (flat (es ++ [(eh, ep, ew)]))) := by
        have : flat (es ++ [(eh, ep, ew)]) = flat es ++ [.bool eh, .int .i64 ep, .bool ew] := by simp [flat]
        rw [this]; exact hown'
      clear hown' hgrow hown hnil HC1 HC2 Bx hr1 ha1 hownH hrH haH
      go_wp2
      go_roundw
      case rel => exact ⟨k + 1, k1, es ++ [(eh, ep, ew)], by omega, by go_num, by simp [hl], HO3, HR3, by omega, HA3⟩
      case measure => simp [intOf]; omega
    · obtain rfl : k = 6 := by omega
      obtain ⟨T, cap, hv, hT1, hT2, hE⟩ := ents_own hownH.out (by omega)
      subst hv
      have HE : Hid (Ents wr T 0 es) := hE
      have HR : Hid (Room wr T 18) := own_room hownH.out
      have hcap : 6 ≤ cap := own_cap hownH.out
      have hc1 : ¬ cap = 1 := by omega
      clear hE hownH
      have hTne : T ≠ rb := by omega
      have hr := hrH.out
      go_wp2_with (fail)
      refine (pick_any rb kr _ _ hr (by omega) (by omega) (by omega)).mono ?_
      rintro e w' ⟨v, m, rfl, hv0, hv1, rfl⟩
      go_wp2_with (fail)
      · refine (pick_any rb (kr + 1) _ _ ?hr (by omega) (by omega) (by omega)).mono ?_
        case hr => (repeat' (with_reducible (first | exact hr | exact hr.toA | apply Rd.drewN | apply Rd.drew | apply Rd.alloc | apply Rd.stepZ | apply Rd.other | apply RdA.drewN | apply RdA.drew | apply RdA.alloc | apply RdA.step1 | apply RdA.step2 | apply RdA.other))) <;> (first | omega | (simp; done) | (simp; omega))
        rintro e w' ⟨v1, m1, rfl, hv2, hv3, rfl⟩
        obtain ⟨j, rfl⟩ := Int.eq_ofNat_of_zero_le hv2
        go_wp2_with (fail)
        refine (drawEntry rb (kr + 2) _ ?hr (by omega)).mono ?_
        case hr => (repeat' (with_reducible (first | exact hr | exact hr.toA | apply Rd.drewN | apply Rd.drew | apply Rd.alloc | apply Rd.stepZ | apply Rd.other | apply RdA.drewN | apply RdA.drew | apply RdA.alloc | apply RdA.step1 | apply RdA.step2 | apply RdA.other))) <;> (first | omega | (simp; done) | (simp; omega))
        rintro e w4 ⟨eh, ep, ew, k4, rfl, _, _, hr4, hk4, ha4⟩
        have hA : Adv rb wr w4 := by
          refine Adv.trans ?_ ha4
          (repeat' (with_reducible (first | exact Adv.refl _ _ | apply Adv.drewN | apply Adv.drew | apply Adv.alloc | apply Adv.setCell))) <;> (first | exact Or.inl rfl | (refine Or.inr ?_; simp; done) | (refine Or.inr ?_; simp; omega))
        have HE4 : Hid (Ents w4 T 0 es) := HE.out.adv hA hT2 hTne
        have HR4 : Hid (Room w4 T 18) := HR.out.adv hA hT2 hTne
        have hT4 : T < w4.heap.size := Nat.lt_of_lt_of_le hT2 hA.size
        have HAw : Hid (Adv rb w w4) := haH.out.trans hA
        have HRd : Hid (Rd w4 rb k4) := hr4
        obtain ⟨⟨u0, d0⟩, f0⟩ := HR4.out (j * 3) (by omega)
        obtain ⟨⟨u1, d1⟩, f1⟩ := HR4.out (j * 3 + 1) (by omega)
        obtain ⟨⟨u2, d2⟩, f2⟩ := HR4.out (j * 3 + 2) (by omega)
        clear hA ha4 hr4 HE HR haH hrH hr
        have hji : (j : Int) < 6 := by omega
        go_wp2
        go_ret
        refine ⟨T, 0, 6, cap, es.set j (eh, ep, ew), k4, rfl, by simp [hl], by omega, by omega, (((HR4.out.put _).put _).put _).at0, hT1, by simpa using hT4, ents_set HR4.out HE4.out (by omega) (by omega) eh ep ew, ?_, by omega, ?_⟩
        · have hr := HRd.out
          (repeat' (with_reducible (first | exact hr | exact hr.toA | apply Rd.drewN | apply Rd.drew | apply Rd.alloc | apply Rd.stepZ | apply Rd.other | apply RdA.drewN | apply RdA.drew | apply RdA.alloc | apply RdA.step1 | apply RdA.step2 | apply RdA.other))) <;> (first | omega | (simp; done) | (simp; omega))
        · exact ((HAw.out.setCell (p := ⟨T, j * 3, none⟩) (Or.inr hT1) _).setCell (p := ⟨T, j * 3 + 1, none⟩) (Or.inr hT1) _).setCell (p := ⟨T, j * 3 + 2, none⟩) (Or.inr hT1) _
      · have hA : Adv rb wr ((wr.setCell ⟨rb, 1, none⟩ (.int .i64 ((kr : Int) + 1))).drewN m) := by
          (repeat' (with_reducible (first | exact Adv.refl _ _ | apply Adv.drewN | apply Adv.drew | apply Adv.alloc | apply Adv.setCell))) <;> (first | exact Or.inl rfl | (refine Or.inr ?_; simp; done) | (refine Or.inr ?_; simp; omega))
        go_ret
        refine ⟨T, 3, 5, cap - 1, es.drop 1, kr + 1, rfl, by simp [hl], by omega, by omega, (HR.out.adv hA hT2 hTne).at3, hT1, Nat.lt_of_lt_of_le hT2 hA.size, ents_tail (HE.out.adv hA hT2 hTne), ?_, by omega, haH.out.trans hA⟩
        (repeat' (with_reducible (first | exact hr | exact hr.toA | apply Rd.drewN | apply Rd.drew | apply Rd.alloc | apply Rd.stepZ | apply Rd.other | apply RdA.drewN | apply RdA.drew | apply RdA.alloc | apply RdA.step1 | apply RdA.step2 | apply RdA.other))) <;> (first | omega | (simp; done) | (simp; omega))
      · have hA : Adv rb wr ((wr.setCell ⟨rb, 1, none⟩ (.int .i64 ((kr : Int) + 1))).drewN m) := by
          (repeat' (with_reducible (first | exact Adv.refl _ _ | apply Adv.drewN | apply Adv.drew | apply Adv.alloc | apply Adv.setCell))) <;> (first | exact Or.inl rfl | (refine Or.inr ?_; simp; done) | (refine Or.inr ?_; simp; omega))
        go_ret
        refine ⟨T, 0, 6, cap, es, kr + 1, rfl, hl, by omega, by omega, (HR.out.adv hA hT2 hTne).at0, hT1, Nat.lt_of_lt_of_le hT2 hA.size, HE.out.adv hA hT2 hTne, ?_, by omega, haH.out.trans hA⟩
        (repeat' (with_reducible (first | exact hr | exact hr.toA | apply Rd.drewN | apply Rd.drew | apply Rd.alloc | apply Rd.stepZ | apply Rd.other | apply RdA.drewN | apply RdA.drew | apply RdA.alloc | apply RdA.step1 | apply RdA.step2 | apply RdA.other))) <;> (first | omega | (simp; done) | (simp; omega))

set_option maxHeartbeats 1000000 in
theorem drawTabOk (a : Option Addr) (len cap : Nat) (zs : List Int) (w : World) (h : IsRow .u8 w a len cap zs) :
    Calls Try.prog 17 #[.slice a len cap] w fun e w' => ∃ (ba oa la ca : Nat) (ea : List E3),
      e = .returned (.slice (some ⟨ba, oa, none⟩) la ca) ∧ ea.length = la ∧ la ≤ 6 ∧ ba < w'.heap.size ∧ Ents w' ba oa ea ∧ Below w.heap.size w w' := by
  go_enter Try.func17, Try.ntmps17
  go_wp2_with (fail)
  refine (open_any a len cap zs _ h).mono ?_
  rintro e w' ⟨rfl, len', hl, rfl⟩
  go_wp2_with (fail)
  have hr0 := rd_new h hl 0 49
  refine (drawTabR w.heap.size 0 _ hr0 (by omega)).mono ?_
  rintro e w1 ⟨ba, oa, la, ca, ea, k1, rfl, hla, ma5, ma, hRo, t1, t2, E1, hr, hk1, ha1⟩
  simp at t1
  clear hr0
  have hB1 : Below w.heap.size w w1 := ((Below.refl w.heap.size w).alloc (Nat.le_refl _) _).trans (ha1.below (Nat.le_refl _) (by simp))
  have s1 := hB1.size
  have hne : ba ≠ w.heap.size := by omega
  have hba : w.heap.size ≤ ba := by omega
  go_wp2_with (fail)
  refine (pick_any w.heap.size k1 _ _ hr (by omega) (by omega) (by omega)).mono ?_
  rintro e w' ⟨p1, m1, rfl, hp0, hp1, rfl⟩
  by_cases hz : p1 = 0
  · subst hz
    go_wp2_with (fail)
    refine (pick_any w.heap.size (k1 + 1) _ _ ?hr (by omega) (by omega) (by omega)).mono ?_
    case hr => (repeat' (with_reducible (first | exact hr | exact hr.toA | apply Rd.drewN | apply Rd.drew | apply Rd.alloc | apply Rd.stepZ | apply Rd.other | apply RdA.drewN | apply RdA.drew | apply RdA.alloc | apply RdA.step1 | apply RdA.step2 | apply RdA.other))) <;> (first | omega | (simp; done) | (simp; omega))
    rintro e w' ⟨v1, m2, rfl, hv2, hv3, rfl⟩
    obtain ⟨j, rfl⟩ := Int.eq_ofNat_of_zero_le hv2
    go_wp2_with (fail)
    refine (drawEntry w.heap.size (k1 + 2) _ ?hr (by omega)).mono ?_
    case hr => (repeat' (with_reducible (first | exact hr | exact hr.toA | apply Rd.drewN | apply Rd.drew | apply Rd.alloc | apply Rd.stepZ | apply Rd.other | apply RdA.drewN | apply RdA.drew | apply RdA.alloc | apply RdA.step1 | apply RdA.step2 | apply RdA.other))) <;> (first | omega | (simp; done) | (simp; omega))
    rintro e w4 ⟨eh, ep, ew, k4, rfl, _, _, hr4, hk4, ha4⟩
    have hA : Adv w.heap.size w1 w4 := by
      refine Adv.trans ?_ ha4
      (repeat' (with_reducible (first | exact Adv.refl _ _ | apply Adv.drewN | apply Adv.drew | apply Adv.alloc | apply Adv.setCell))) <;> (first | exact Or.inl rfl | (refine Or.inr ?_; simp; done) | (refine Or.inr ?_; simp; omega))
    have E4 := E1.adv hA t2 hne
    have R4 := hRo.adv hA t2 hne
    have t4 := Nat.lt_of_lt_of_le t2 hA.size
    have hB4 := hB1.trans (hA.below (Nat.le_refl _) s1)
    obtain ⟨⟨u0, d0⟩, f0⟩ := R4 (j * 3) (by omega)
    obtain ⟨⟨u1, d1⟩, f1⟩ := R4 (j * 3 + 1) (by omega)
    obtain ⟨⟨u2, d2⟩, f2⟩ := R4 (j * 3 + 2) (by omega)
    rw [← Nat.add_assoc] at d1 d2 f1 f2
    have hji : (j : Int) < (la : Int) := by omega
    have E5 := ents_setO (k := j) E4 eh ep ew
    clear hA ha4 hr4 hr E4 R4
    go_wp2
    go_ret
    exact ⟨ba, oa, la, ca, ea.set j (eh, ep, ew), rfl, by simp [hla], ma, by simpa using t4, E5, ((hB4.setCell (p := ⟨ba, oa + j * 3, none⟩) hba _).setCell (p := ⟨ba, oa + j * 3 + 1, none⟩) hba _).setCell (p := ⟨ba, oa + j * 3 + 2, none⟩) hba _⟩
  · have hz' : (p1 == 0) = false := by simpa using hz
    have hA : Adv w.heap.size w1 ((w1.setCell ⟨w.heap.size, 1, none⟩ (.int .i64 ((k1 : Int) + 1))).drewN m1) := by
      (repeat' (with_reducible (first | exact Adv.refl _ _ | apply Adv.drewN | apply Adv.drew | apply Adv.alloc | apply Adv.setCell))) <;> (first | exact Or.inl rfl | (refine Or.inr ?_; simp; done) | (refine Or.inr ?_; simp; omega))
    go_wp2
    go_ret
    exact ⟨ba, oa, la, ca, ea, rfl, hla, ma, Nat.lt_of_lt_of_le t2 hA.size, E1.adv hA t2 hne, hB1.trans (hA.below (Nat.le_refl _) s1)⟩
end Go.Proofs.Ytfiailnlkhonnab
