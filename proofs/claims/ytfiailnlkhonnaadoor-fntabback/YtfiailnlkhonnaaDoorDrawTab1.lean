/-
  What the drawing of a table gives, whatever the bytes are: some entries in new memory.
-/
import Derived.Test.YtfiailnlkhonnaaDoorAdv0
import Derived.Test.YtfiailnlkhonnaaDoorFlat0
namespace Go.Proofs.YtfiailnlkhonnaaDoor
open Go.RowKit

theorem adv_grown {rb : Nat} {W w' : World} (h : Adv rb W w') : W.grownBy w' (some rb) := ⟨h.os, h.tape, h.output, h.size, fun k hk hn => h.block k hk (fun e => hn (by rw [e]))⟩

set_option maxHeartbeats 1000000 in
theorem drawFine (rb k : Nat) (w : World) (hr : Rd w rb k) (hk : k ≤ 900000) :
    Calls Tryd.prog 25 #[.pointer (some ⟨rb, 0, none⟩)] w fun e w' => ∃ (h : Bool) (p : Int) (b : Bool) (k' : Nat), e = .returned (.agg #[.bool h, .int .i64 p, .bool b]) ∧ Rd w' rb k' ∧ k' ≤ k + 3 ∧ Adv rb w w' := by
  have hlt := hr.lt
  go_enter Tryd.func25, Tryd.ntmps25
  go_wp2_with (fail)
  refine (pick_any rb k _ _ (hr.alloc _) (by omega) (by omega) (by omega)).mono ?_
  rintro e w' ⟨v, m, rfl, hv0, hv1, rfl⟩
  have hn1 : ¬ w.heap.size = rb := by omega
  have hn2 : ¬ rb = w.heap.size := by omega
  go_wp2_with (fail)
  · refine bodyPost_ret (v := .agg #[.bool false, .int .i64 0, .bool false]) ?res rfl ⟨_, _, _, (k + 1), rfl, ?_, by omega, ?_⟩
    case res => simp [results, Tryd.results25, go_sem]
    · (repeat' (with_reducible (first | exact hr | exact hr.toA | apply Rd.drewN | apply Rd.drew | apply Rd.alloc | apply Rd.stepZ | apply Rd.other | apply RdA.drewN | apply RdA.drew | apply RdA.alloc | apply RdA.step1 | apply RdA.step2 | apply RdA.other))) <;> (first | omega | (simp; done) | (simp; omega))
    · (repeat' (with_reducible (first | exact Adv.refl _ _ | apply Adv.drewN | apply Adv.drew | apply Adv.alloc | apply Adv.setCell))) <;> (first | exact Or.inl rfl | (refine Or.inr ?_; simp; done) | (refine Or.inr ?_; simp; omega))
  · refine (pick_any rb (k + 1) _ _ ?hr (by omega) (by omega) (by omega)).mono ?_
    case hr => (repeat' (with_reducible (first | exact hr | exact hr.toA | apply Rd.drewN | apply Rd.drew | apply Rd.alloc | apply Rd.stepZ | apply Rd.other | apply RdA.drewN | apply RdA.drew | apply RdA.alloc | apply RdA.step1 | apply RdA.step2 | apply RdA.other))) <;> (first | omega | (simp; done) | (simp; omega))
    rintro e w' ⟨v1, m1, rfl, hv2, hv3, rfl⟩
    go_wp2_with (fail)
    refine (pick_any rb (k + 2) _ _ ?hr (by omega) (by omega) (by omega)).mono ?_
    case hr => (repeat' (with_reducible (first | exact hr | exact hr.toA | apply Rd.drewN | apply Rd.drew | apply Rd.alloc | apply Rd.stepZ | apply Rd.other | apply RdA.drewN | apply RdA.drew | apply RdA.alloc | apply RdA.step1 | apply RdA.step2 | apply RdA.other))) <;> (first | omega | (simp; done) | (simp; omega))
    rintro e w' ⟨v2, m2, rfl, hv4, hv5, rfl⟩
    go_wp2
    refine bodyPost_ret (v := .agg #[.bool true, .int .i64 v1, .bool (v2 == 0)]) ?res rfl ⟨_, _, _, (k + 3), rfl, ?_, by omega, ?_⟩
    case res => simp [results, Tryd.results25, go_sem]
    · (repeat' (with_reducible (first | exact hr | exact hr.toA | apply Rd.drewN | apply Rd.drew | apply Rd.alloc | apply Rd.stepZ | apply Rd.other | apply RdA.drewN | apply RdA.drew | apply RdA.alloc | apply RdA.step1 | apply RdA.step2 | apply RdA.other))) <;> (first | omega | (simp; done) | (simp; omega))
    · (repeat' (with_reducible (first | exact Adv.refl _ _ | apply Adv.drewN | apply Adv.drew | apply Adv.alloc | apply Adv.setCell))) <;> (first | exact Or.inl rfl | (refine Or.inr ?_; simp; done) | (refine Or.inr ?_; simp; omega))
theorem Adv.then_below {rb : Nat} {w X w' : World} (h : Adv rb w X) (hb : Below w.heap.size X w') : Adv rb w w' :=
  ⟨hb.os.trans h.os, hb.tape.trans h.tape, hb.output.trans h.output, Nat.le_trans h.size hb.size, fun k hk hn => (hb.block k hk).trans (h.block k hk hn)⟩

theorem own_adv {rb base : Nat} {W w' : World} {t : TypeId} {v : Value} {n : Nat} {xs : List Value} (h : W.ownsRow base t 3 v n xs) (ha : Adv rb W w') (hb : rb < base) : w'.ownsRow base t 3 v n xs := by
  refine h.kept (adv_grown ha) ?_
  cases hv : v.ownBlock with
  | none => exact Or.inl rfl
  | some g =>
    refine Or.inr fun e => ?_
    have := (h.lt g hv).1
    simp at e
    omega

/-- The cells of an owned row may be written. -/
theorem own_room {w : World} {base : Nat} {t : TypeId} {n cap T : Nat} {es : List E3} (h : w.ownsRow base t 3 (.slice (some ⟨T, 0, none⟩) n cap) n (flat es)) : Room w T (n * 3) := by
  have hc := h
  obtain ⟨hlen, hd⟩ := h
  rcases hd with ⟨h0, _⟩ | ⟨g, c, cur, hv, _, hh, hnc, _, hsz, htk⟩
  · simp at h0
  · simp at hv
    obtain ⟨rfl, rfl⟩ := hv
    intro j hj
    have ad : (⟨T, 0, none⟩ : Addr).add j = ⟨T, j, none⟩ := by by_cases h : j = 0 <;> simp [Addr.add, h]
    have hg := List.getElem?_eq_getElem (l := flat es) (i := j) (by omega)
    refine ⟨⟨(flat es)[j]'(by omega), ?_⟩, ?_⟩
    · rw [← ad]; exact hc.cells rfl j _ hg
    · simp [World.frozen?, hh]

theorem own_cap {w : World} {base : Nat} {t : TypeId} {n cap T : Nat} {xs : List Value} (h : w.ownsRow base t 3 (.slice (some ⟨T, 0, none⟩) n cap) n xs) : n ≤ cap := by
  obtain ⟨_, hd⟩ := h
  rcases hd with ⟨h0, _⟩ | ⟨g, c, cur, hv, _, _, hnc, _⟩
  · simp at h0
  · simp at hv
    omega

theorem Ents.adv {rb : Nat} {w w' : World} {b o : Nat} {es : List E3} (h : Ents w b o es) (ha : Adv rb w w') (hb : b < w.heap.size) (hn : b ≠ rb) : Ents w' b o es := fun i hi =>
  ⟨(ha.cell (p := ⟨b, o + i * 3, none⟩) hb hn).trans (h i hi).1, (ha.cell (p := ⟨b, o + i * 3 + 1, none⟩) hb hn).trans (h i hi).2.1, (ha.cell (p := ⟨b, o + i * 3 + 2, none⟩) hb hn).trans (h i hi).2.2⟩
theorem Room.adv {rb : Nat} {w w' : World} {b n : Nat} (h : Room w b n) (ha : Adv rb w w') (hb : b < w.heap.size) (hn : b ≠ rb) : Room w' b n := fun j hj =>
  ⟨(h j hj).1.imp fun _ hv => (ha.cell (p := ⟨b, j, none⟩) hb hn).trans hv, (ha.frozen (p := ⟨b, j, none⟩) hb hn).trans (h j hj).2⟩

/-- One entry is written anew. -/
theorem ents_set {w : World} {b n k : Nat} {es : List E3} (hR : Room w b n) (hE : Ents w b 0 es) (hk : k < es.length) (hn : k * 3 + 2 < n) (eh : Bool) (ep : Int) (eb : Bool) :
    Ents (((w.setCell ⟨b, k * 3, none⟩ (.bool eh)).setCell ⟨b, k * 3 + 1, none⟩ (.int .i64 ep)).setCell ⟨b, k * 3 + 2, none⟩ (.bool eb)) b 0 (es.set k (eh, ep, eb)) := by
  have key : ∀ x v, w.cell? ⟨b, x, none⟩ = some v → (((w.setCell ⟨b, k * 3, none⟩ (.bool eh)).setCell ⟨b, k * 3 + 1, none⟩ (.int .i64 ep)).setCell ⟨b, k * 3 + 2, none⟩ (.bool eb)).cell? ⟨b, x, none⟩ =
      some (if x = k * 3 + 2 then .bool eb else if x = k * 3 + 1 then .int .i64 ep else if x = k * 3 then .bool eh else v) := fun x v hv => cell_put (cell_put (cell_put hv))
  intro i hi
  simp only [List.length_set] at hi
  simp only [Nat.zero_add]
  by_cases hik : i = k
  · subst hik
    have hg : (es.set i (eh, ep, eb)).getD i (false, 0, false) = (eh, ep, eb) := by simp [List.getD_eq_getElem?_getD, hi]
    rw [hg]
    obtain ⟨⟨u0, d0⟩, _⟩ := hR (i * 3) (by omega)
    obtain ⟨⟨u1, d1⟩, _⟩ := hR (i * 3 + 1) (by omega)
    obtain ⟨⟨u2, d2⟩, _⟩ := hR (i * 3 + 2) (by omega)
    refine ⟨(key _ _ d0).trans ?_, (key _ _ d1).trans ?_, (key _ _ d2).trans ?_⟩
    · rw [if_neg (by omega), if_neg (by omega), if_pos rfl]
    · rw [if_neg (by omega), if_pos rfl]
    · rw [if_pos rfl]
  · have hg : (es.set k (eh, ep, eb)).getD i (false, 0, false) = es.getD i (false, 0, false) := by simp [List.getD_eq_getElem?_getD, List.getElem?_set_ne (Ne.symm hik)]
    rw [hg]
    obtain ⟨e0, e1, e2⟩ := hE i hi
    simp only [Nat.zero_add] at e0 e1 e2
    refine ⟨(key _ _ e0).trans ?_, (key _ _ e1).trans ?_, (key _ _ e2).trans ?_⟩
    all_goals rw [if_neg (by omega), if_neg (by omega), if_neg (by omega)]

theorem ents_tail {w : World} {b : Nat} {es : List E3} (hE : Ents w b 0 es) : Ents w b 3 (es.drop 1) := by
  intro i hi
  simp only [List.length_drop] at hi
  have hg : (es.drop 1).getD i (false, 0, false) = es.getD (i + 1) (false, 0, false) := by simp [List.getD_eq_getElem?_getD]
  rw [hg]
  have := hE (i + 1) (by omega)
  rw [show 0 + (i + 1) * 3 = 3 + i * 3 by omega] at this
  exact this

set_option maxHeartbeats 2000000 in
theorem drawTab (rb k0 : Nat) (w : World) (hr0 : Rd w rb k0) (hk0 : k0 ≤ 800000) :
    Calls Tryd.prog 13 #[.pointer (some ⟨rb, 0, none⟩)] w fun e w' => ∃ (T o len cap : Nat) (es : List E3) (k' : Nat), e = .returned (.slice (some ⟨T, o, none⟩) len cap) ∧ es.length = len ∧ len ≤ 6 ∧ w.heap.size ≤ T ∧ T < w'.heap.size ∧ Ents w' T o es ∧ Rd w' rb k' ∧ k' ≤ k0 + 30 ∧ Adv rb w w' := by
  have hlt := hr0.lt
  obtain ⟨i0, hi, hz0, hz1, hz2⟩ := info_parts infoE
  go_enter Tryd.func13, Tryd.ntmps13
  go_wp2
  go_loopw [3, 4] (fun v i wr => ∃ (k kr : Nat) (es : List E3), k ≤ 6 ∧ i = .int .i64 k ∧ es.length = k ∧ Hid (wr.ownsRow w.heap.size 37 3 v k (flat es)) ∧ Hid (Rd wr rb kr) ∧ kr ≤ k0 + 3 * k ∧ Hid (Adv rb w wr)) (fun _ i _ => 6 - (intOf i).toNat)
  case atStart => exact ⟨0, k0, [], Nat.zero_le _, rfl, rfl, World.ownsRow_made w #[] 0 (Nat.le_refl _) (by simp [maxLen]) rfl, hr0.alloc _, by omega, (Adv.refl _ _).alloc _⟩
  case round =>
    obtain ⟨k, kr, es, hk, rfl, hl, hownH, hrH, hkr, haH⟩ := hrel
    have sW := haH.out.size
    by_cases hkl : k < 6
    · have hki : (k : Int) < 6 := by omega
      go_wp2_with (fail)
      refine (drawFine rb kr _ hrH.out (by omega)).mono ?_
      rintro e w1 ⟨eh, ep, ew, k1, rfl, hr1, hk1, ha1⟩
      have hown := own_adv hownH.out ha1 hlt
      have s1 := ha1.size
      have HC1 := cell_three_new w1 (.bool eh) (.int .i64 ep) (.bool ew) 37
      have HC2 : ∀ u ∈ [Value.bool eh, .int .i64 ep, .bool ew], u.oneCell' = true := fun u hu => by simp at hu; rcases hu with rfl | rfl | rfl <;> rfl
      go_wp2_with (at_builtin; refine wpList_append_own _ rfl _ _ 23 rfl w.heap.size 37 i0 (.agg #[.bool false, .int .i64 0, .bool false]) 3 24 Tryd.underlying23 hi hz0 hz1 hz2 rfl (by decide) _ _ _ rfl (hown.alloc _) ⟨w1.heap.size, 0, none⟩ 1 1 [.bool eh, .int .i64 ep, .bool ew] rfl rfl HC1 HC2 (by unfold maxLen; omega) (by omega) (by simp; omega) ?_; intro v' w3 hown' hgrow hnil)
      have Bx : Below w.heap.size (w1.alloc (.cells #[.bool eh, .int .i64 ep, .bool ew] 37)) w3 := Below.grown (Below.refl _ _) hgrow (by simp; omega) (fun j hj => (hown.lt _ hj).1)
      have HR3 : Hid (Rd w3 rb k1) := (hr1.alloc _).below Bx hlt
      have HA3 : Hid (Adv rb w w3) := ((haH.out.trans ha1).alloc _).then_below Bx
      have HO3 : Hid (w3.ownsRow w.heap.size 37 3 v' (k + 1) (flat (es ++ [(eh, ep, ew)]))) := by
        have : flat (es ++ [(eh, ep, ew)]) = flat es ++ [.bool eh, .int .i64 ep, .bool ew] := by simp [flat]
        rw [this]; exact hown'
      clear hown' hgrow hown hnil HC1 HC2 Bx hr1 ha1 hownH hrH haH
      go_wp2
      go_roundw
      case rel => exact ⟨k + 1, k1, es ++ [(eh, ep, ew)], by omega, by go_num, by simp [hl], HO3, HR3, by omega, HA3⟩
      case measure => simp [intOf]; omega
    · obtain rfl : k = 6 := by omega
      obtain ⟨T, cap, hv, hT1, hT2, hE⟩ := ents_own hownH.out (by omega)
      subst hv
      have HE : Hid (Ents wr T 0 es) := hE
      have HR : Hid (Room wr T 18) := own_room hownH.out
      have hcap : 6 ≤ cap := own_cap hownH.out
      have hc1 : ¬ cap = 1 := by omega
      clear hE hownH
      have hTne : T ≠ rb := by omega
      have hr := hrH.out
      go_wp2_with (fail)
      refine (pick_any rb kr _ _ hr (by omega) (by omega) (by omega)).mono ?_
      rintro e w' ⟨v, m, rfl, hv0, hv1, rfl⟩
      go_wp2_with (fail)
      · refine (pick_any rb (kr + 1) _ _ ?hr (by omega) (by omega) (by omega)).mono ?_
        case hr => (repeat' (with_reducible (first | exact hr | exact hr.toA | apply Rd.drewN | apply Rd.drew | apply Rd.alloc | apply Rd.stepZ | apply Rd.other | apply RdA.drewN | apply RdA.drew | apply RdA.alloc | apply RdA.step1 | apply RdA.step2 | apply RdA.other))) <;> (first | omega | (simp; done) | (simp; omega))
        rintro e w' ⟨v1, m1, rfl, hv2, hv3, rfl⟩
        obtain ⟨j, rfl⟩ := Int.eq_ofNat_of_zero_le hv2
        go_wp2_with (fail)
        refine (drawEntry rb (kr + 2) _ ?hr (by omega)).mono ?_
        case hr => (repeat' (with_reducible (first | exact hr | exact hr.toA | apply Rd.drewN | apply Rd.drew | apply Rd.alloc | apply Rd.stepZ | apply Rd.other | apply RdA.drewN | apply RdA.drew | apply RdA.alloc | apply RdA.step1 | apply RdA.step2 | apply RdA.other))) <;> (first | omega | (simp; done) | (simp; omega))
        rintro e w4 ⟨eh, ep, ew, k4, rfl, _, _, hr4, hk4, ha4⟩
        have hA : Adv rb wr w4 := by
          refine Adv.trans ?_ ha4
          (repeat' (with_reducible (first | exact Adv.refl _ _ | apply Adv.drewN | apply Adv.drew | apply Adv.alloc | apply Adv.setCell))) <;> (first | exact Or.inl rfl | (refine Or.inr ?_; simp; done) | (refine Or.inr ?_; simp; omega))
        have HE4 : Hid (Ents w4 T 0 es) := HE.out.adv hA hT2 hTne
        have HR4 : Hid (Room w4 T 18) := HR.out.adv hA hT2 hTne
        have hT4 : T < w4.heap.size := Nat.lt_of_lt_of_le hT2 hA.size
        have HAw : Hid (Adv rb w w4) := haH.out.trans hA
        have HRd : Hid (Rd w4 rb k4) := hr4
        obtain ⟨⟨u0, d0⟩, f0⟩ := HR4.out (j * 3) (by omega)
        obtain ⟨⟨u1, d1⟩, f1⟩ := HR4.out (j * 3 + 1) (by omega)
        obtain ⟨⟨u2, d2⟩, f2⟩ := HR4.out (j * 3 + 2) (by omega)
        clear hA ha4 hr4 HE HR haH hrH hr
        have hji : (j : Int) < 6 := by omega
        go_wp2
        go_ret
        refine ⟨T, 0, 6, cap, es.set j (eh, ep, ew), k4, rfl, by simp [hl], by omega, hT1, by simpa using hT4, ents_set HR4.out HE4.out (by omega) (by omega) eh ep ew, ?_, by omega, ?_⟩
        · have hr := HRd.out
          (repeat' (with_reducible (first | exact hr | exact hr.toA | apply Rd.drewN | apply Rd.drew | apply Rd.alloc | apply Rd.stepZ | apply Rd.other | apply RdA.drewN | apply RdA.drew | apply RdA.alloc | apply RdA.step1 | apply RdA.step2 | apply RdA.other))) <;> (first | omega | (simp; done) | (simp; omega))
        · exact ((HAw.out.setCell (p := ⟨T, j * 3, none⟩) (Or.inr hT1) _).setCell (p := ⟨T, j * 3 + 1, none⟩) (Or.inr hT1) _).setCell (p := ⟨T, j * 3 + 2, none⟩) (Or.inr hT1) _
      · have hA : Adv rb wr ((wr.setCell ⟨rb, 1, none⟩ (.int .i64 ((kr : Int) + 1))).drewN m) := by
          (repeat' (with_reducible (first | exact Adv.refl _ _ | apply Adv.drewN | apply Adv.drew | apply Adv.alloc | apply Adv.setCell))) <;> (first | exact Or.inl rfl | (refine Or.inr ?_; simp; done) | (refine Or.inr ?_; simp; omega))
        go_ret
        refine ⟨T, 3, 5, cap - 1, es.drop 1, kr + 1, rfl, by simp [hl], by omega, hT1, Nat.lt_of_lt_of_le hT2 hA.size, ents_tail (HE.out.adv hA hT2 hTne), ?_, by omega, haH.out.trans hA⟩
        (repeat' (with_reducible (first | exact hr | exact hr.toA | apply Rd.drewN | apply Rd.drew | apply Rd.alloc | apply Rd.stepZ | apply Rd.other | apply RdA.drewN | apply RdA.drew | apply RdA.alloc | apply RdA.step1 | apply RdA.step2 | apply RdA.other))) <;> (first | omega | (simp; done) | (simp; omega))
      · have hA : Adv rb wr ((wr.setCell ⟨rb, 1, none⟩ (.int .i64 ((kr : Int) + 1))).drewN m) := by
          (repeat' (with_reducible (first | exact Adv.refl _ _ | apply Adv.drewN | apply Adv.drew | apply Adv.alloc | apply Adv.setCell))) <;> (first | exact Or.inl rfl | (refine Or.inr ?_; simp; done) | (refine Or.inr ?_; simp; omega))
        go_ret
        refine ⟨T, 0, 6, cap, es, kr + 1, rfl, hl, by omega, hT1, Nat.lt_of_lt_of_le hT2 hA.size, HE.out.adv hA hT2 hTne, ?_, by omega, haH.out.trans hA⟩
        (repeat' (with_reducible (first | exact hr | exact hr.toA | apply Rd.drewN | apply Rd.drew | apply Rd.alloc | apply Rd.stepZ | apply Rd.other | apply RdA.drewN | apply RdA.drew | apply RdA.alloc | apply RdA.step1 | apply RdA.step2 | apply RdA.other))) <;> (first | omega | (simp; done) | (simp; omega))
end Go.Proofs.YtfiailnlkhonnaaDoor
