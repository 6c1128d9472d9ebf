/-
  What the given TabOver does.
-/
import Derived.Test.YtfiailnlkhonnabOverImpl0
namespace Go.Proofs.Ytfiailnlkhonnab
open Go.RowKit

/-- The cells of entries. -/
def flat (es : List E3) : List Value := es.flatMap fun x => [.bool x.1, .int .i64 x.2.1, .bool x.2.2]

theorem flat_snoc {es : List E3} {k : Nat} (hk : k < es.length) {a : Bool} {p : Int} {c : Bool} (h : es.getD k (false, 0, false) = (a, p, c)) : flat (es.take (k + 1)) = flat (es.take k) ++ [.bool a, .int .i64 p, .bool c] := by
  have hg : es[k] = (a, p, c) := by rw [← h, List.getD_eq_getElem?_getD, List.getElem?_eq_getElem hk]; rfl
  rw [List.take_succ_eq_append_getElem hk, hg]
  simp [flat]

theorem flat_len (es : List E3) : (flat es).length = es.length * 3 := by
  induction es with
  | nil => rfl
  | cons x es ih => simp only [flat, List.flatMap_cons, List.length_append, List.length_cons, List.length_nil] at ih ⊢; omega

theorem flat_get (es : List E3) (i : Nat) (hi : i < es.length) :
    (flat es)[i * 3]? = some (.bool (es.getD i (false, 0, false)).1) ∧ (flat es)[i * 3 + 1]? = some (.int .i64 (es.getD i (false, 0, false)).2.1) ∧ (flat es)[i * 3 + 2]? = some (.bool (es.getD i (false, 0, false)).2.2) := by
  induction es generalizing i with
  | nil => simp at hi
  | cons x es ih =>
    have hx : flat (x :: es) = .bool x.1 :: .int .i64 x.2.1 :: .bool x.2.2 :: flat es := rfl
    cases i with
    | zero => rw [hx]; simp
    | succ i =>
      have := ih i (by simpa using hi)
      rw [hx, show (i + 1) * 3 = i * 3 + 3 by omega]
      simpa using this

theorem cell_three_new (w : World) (a b c : Value) (t : TypeId) : ∀ j u, [a, b, c][j]? = some u → (w.alloc (.cells #[a, b, c] t)).cell? ((⟨w.heap.size, 0, none⟩ : Addr).add j) = some u := by
  intro j u hj
  match j, hj with
  | 0, hj => simp at hj; subst hj; simp [Addr.add]
  | 1, hj => simp at hj; subst hj; simp [Addr.add]
  | 2, hj => simp at hj; subst hj; simp [Addr.add]
  | j + 3, hj => simp at hj

/-- What a row that the call owns holds, as entries. -/
theorem ents_own {w : World} {base : Nat} {t : TypeId} {v : Value} {n : Nat} {es : List E3} (h : w.ownsRow base t 3 v n (flat es)) (hn : 0 < n) :
    ∃ T cap, v = .slice (some ⟨T, 0, none⟩) n cap ∧ base ≤ T ∧ T < w.heap.size ∧ Ents w T 0 es := by
  have hc := h
  obtain ⟨hlen, hd⟩ := h
  rcases hd with ⟨_, h0⟩ | ⟨g, cap, cur, rfl, hg, hh, _⟩
  · omega
  · have hlt := (hc.lt g rfl).2
    refine ⟨g, cap, rfl, hg, hlt, fun i hi => ?_⟩
    obtain ⟨e0, e1, e2⟩ := flat_get es i hi
    have ad : ∀ j, (⟨g, 0, none⟩ : Addr).add j = ⟨g, j, none⟩ := fun j => by by_cases h : j = 0 <;> simp [Addr.add, h]
    have k0 := hc.cells rfl _ _ e0
    have k1 := hc.cells rfl _ _ e1
    have k2 := hc.cells rfl _ _ e2
    rw [ad] at k0 k1 k2
    simp only [Nat.zero_add]
    exact ⟨k0, k1, k2⟩

theorem below_grown {W w' : World} (h : Below W.heap.size W w') : W.grownBy w' none := ⟨h.os, h.tape, h.output, h.size, fun k hk _ => h.block k hk⟩

set_option maxHeartbeats 2000000 in
theorem specTabOver_ok (ba oa ca : Nat) (ea : List E3) (bb ob cb : Nat) (eb : List E3) (w : World) (hla : ea.length = 6) (hlb : eb.length = 6) (ha : ba < w.heap.size) (hb : bb < w.heap.size) (hca : Ents w ba oa ea) (hcb : Ents w bb ob eb)
    (hA : ea.all okE = true) (hB : eb.all okE = true) :
    Calls Try.prog 12 #[.slice (some ⟨ba, oa, none⟩) 6 ca, .slice (some ⟨bb, ob, none⟩) 6 cb] w fun e w' =>
      ∃ T cap, e = .returned (.slice (some ⟨T, 0, none⟩) 6 cap) ∧ w.heap.size ≤ T ∧ T < w'.heap.size ∧ Ents w' T 0 (overT ea eb) ∧ Below w.heap.size w w' := by
  obtain ⟨i0, hi, hz0, hz1, hz2⟩ := info_parts infoE
  go_enter Try.func12, Try.ntmps12
  go_wp2_with (fail)
  have W0 : Below w.heap.size w (w.alloc (.cells #[] 29)) := (Below.refl _ _).alloc (Nat.le_refl _) _
  refine (specTabOk ba oa 6 ca ea _ hla (by omega) (Nat.lt_of_lt_of_le ha W0.size) (hca.below W0 ha)).mono ?_
  rintro e w1 ⟨rfl, B1⟩
  rw [show (ea.all okE && (((6 : Nat) : Int) == 6)) = true by rw [hA]; rfl]
  have B1' := W0.trans (B1.mono W0.size)
  go_wp2_with (fail)
  refine (specTabOk bb ob 6 cb eb _ hlb (by omega) (Nat.lt_of_lt_of_le hb B1'.size) (hcb.below B1' hb)).mono ?_
  rintro e w2 ⟨rfl, B2⟩
  rw [show (eb.all okE && (((6 : Nat) : Int) == 6)) = true by rw [hB]; rfl]
  have B2' := B1'.trans (B2.mono B1'.size)
  have hown0 : Hid (w2.ownsRow w.heap.size 29 3 (.slice (some ⟨w.heap.size, 0, none⟩) 0 0) 0 (flat ((overT ea eb).take 0))) :=
    ((World.ownsRow_made w #[] 0 (Nat.le_refl _) (by simp [maxLen]) rfl).kept (below_grown B1) (Or.inr (by simp [Value.ownBlock]))).kept (below_grown B2) (Or.inr (by simp [Value.ownBlock]))
  clear B1 B2 B1' W0
  go_wp2
  go_loopw [5, 6, 7] (fun v i _ wr => ∃ k : Nat, k ≤ 6 ∧ i = .int .i64 k ∧ Hid (wr.ownsRow w.heap.size 29 3 v k (flat ((overT ea eb).take k))) ∧ Below w.heap.size w wr) (fun _ i _ _ => 6 - (intOf i).toNat)
  case atStart => exact ⟨0, Nat.zero_le _, rfl, hown0, B2'⟩
  case round =>
    obtain ⟨k, hk, rfl, hownH, hW⟩ := hrel
    have hown := hownH.out
    have sW := hW.size
    by_cases hkl : k < 6
    · obtain ⟨q0, q1, q2⟩ := hca k (by omega)
      have hkT : k < (overT ea eb).length := by simp [overT]; omega
      have HO0 := overT_get ea eb k (by omega)
      generalize hG : ea.getD k (false, 0, false) = ek at q0 q1 q2 HO0
      have hP := fun p b (h : ek = (true, p, b)) => ok_page hA (k := k) (by omega) (p := p) (b := b) (hG.trans h)
      obtain ⟨eh, ep, ew⟩ := ek
      have c0 := (hW.cell (p := ⟨ba, oa + k * 3, none⟩) ha).trans q0
      have c1 := (hW.cell (p := ⟨ba, oa + k * 3 + 1, none⟩) ha).trans q1
      have c2 := (hW.cell (p := ⟨ba, oa + k * 3 + 2, none⟩) ha).trans q2
      have hki : (k : Int) < 6 := by omega
      have hba : ba < wr.heap.size := by omega
      have hbb : bb < wr.heap.size := by omega
      have BW : ∀ x y z, Below w.heap.size w ((wr.alloc (.cells #[.bool x, .int .i64 y, .bool z] 29)).alloc (.cells #[.bool x, .int .i64 y, .bool z] 29)) := fun x y z => by
        (repeat' (with_reducible (first | exact Below.refl _ _ | apply Below.setCell | apply Below.alloc | apply below_drewN | apply Below.drew | refine Below.trans ?_ (Below.mono (by assumption) ?_)))) <;> (first | exact Nat.le_refl _ | (simp; done) | (simp; omega) | (simp at *; omega))
      have HC1 : ∀ (x : Bool) (y : Int) (z : Bool), ∀ j u, [Value.bool x, .int .i64 y, .bool z][j]? = some u → ((wr.alloc (.cells #[.bool x, .int .i64 y, .bool z] 29)).alloc (.cells #[.bool x, .int .i64 y, .bool z] 29)).cell? ((⟨wr.heap.size + 1, 0, none⟩ : Addr).add j) = some u := fun x y z => by simpa using cell_three_new (wr.alloc (.cells #[.bool x, .int .i64 y, .bool z] 29)) (.bool x) (.int .i64 y) (.bool z) 29
      have HC2 : ∀ (x : Bool) (y : Int) (z : Bool), ∀ u ∈ [Value.bool x, .int .i64 y, .bool z], u.oneCell' = true := fun x y z u hu => by simp at hu; rcases hu with rfl | rfl | rfl <;> rfl
      clear hG q0 q1 q2
      cases eh
      · have HO : Hid ((overT ea eb).getD k (false, 0, false) = (false, 0, false)) := HO0
        clear HO0 hP
        go_wp2_with (at_builtin; refine wpList_append_own _ rfl _ _ 23 rfl w.heap.size 29 i0 (.agg #[.bool false, .int .i64 0, .bool false]) 3 24 Try.underlying23 hi hz0 hz1 hz2 rfl (by decide) _ _ _ rfl ((hown.alloc _).alloc _) ⟨wr.heap.size + 1, 0, none⟩ 1 1 [.bool false, .int .i64 0, .bool false] rfl rfl (HC1 _ _ _) (HC2 _ _ _) (by unfold maxLen; omega) (by omega) (by simp; omega) ?_; intro v' w3 hown' hgrow hnil)
        have hB3 : Below w.heap.size w w3 := Below.grown (BW false 0 false) hgrow (by simp; omega) (fun j hj => (hown.lt _ hj).1)
        have hown3 : Hid (w3.ownsRow w.heap.size 29 3 v' (k + 1) (flat ((overT ea eb).take (k + 1)))) := by
          rw [flat_snoc hkT HO.out]; exact hown'
        clear hown' hgrow hown hnil
        go_wp2
        go_roundw
        case rel => exact ⟨k + 1, by omega, by go_num, hown3, hB3⟩
        case measure => simp [intOf]; omega
      · obtain ⟨p0, p5⟩ := hP ep ew rfl
        obtain ⟨j, rfl⟩ := Int.eq_ofNat_of_zero_le p0
        obtain ⟨r0, r1, r2⟩ := hcb j (by omega)
        have HO1 : Hid ((overT ea eb).getD k (false, 0, false) = overE (true, (j : Int), ew) eb) := HO0
        simp only [overE, cond_true, Int.toNat_natCast] at HO0
        generalize hY : eb.getD j (false, 0, false) = yk at r0 r1 r2 HO0
        obtain ⟨yh, yp, yw⟩ := yk
        have d0 := (hW.cell (p := ⟨bb, ob + j * 3, none⟩) hb).trans r0
        have d1 := (hW.cell (p := ⟨bb, ob + j * 3 + 1, none⟩) hb).trans r1
        have d2 := (hW.cell (p := ⟨bb, ob + j * 3 + 2, none⟩) hb).trans r2
        have hji : (j : Int) < 6 := by omega
        clear hY r0 r1 r2 hP HO1
        cases yh
        · have HO : Hid ((overT ea eb).getD k (false, 0, false) = (false, 0, false)) := HO0
          clear HO0
          go_wp2_with (at_builtin; refine wpList_append_own _ rfl _ _ 23 rfl w.heap.size 29 i0 (.agg #[.bool false, .int .i64 0, .bool false]) 3 24 Try.underlying23 hi hz0 hz1 hz2 rfl (by decide) _ _ _ rfl ((hown.alloc _).alloc _) ⟨wr.heap.size + 1, 0, none⟩ 1 1 [.bool false, .int .i64 0, .bool false] rfl rfl (HC1 _ _ _) (HC2 _ _ _) (by unfold maxLen; omega) (by omega) (by simp; omega) ?_; intro v' w3 hown' hgrow hnil)
          have hB3 : Below w.heap.size w w3 := Below.grown (BW false 0 false) hgrow (by simp; omega) (fun j hj => (hown.lt _ hj).1)
          have hown3 : Hid (w3.ownsRow w.heap.size 29 3 v' (k + 1) (flat ((overT ea eb).take (k + 1)))) := by
            rw [flat_snoc hkT HO.out]; exact hown'
          clear hown' hgrow hown hnil
          go_wp2
          go_roundw
          case rel => exact ⟨k + 1, by omega, by go_num, hown3, hB3⟩
          case measure => simp [intOf]; omega
        · cases yw
          · have HO : Hid ((overT ea eb).getD k (false, 0, false) = (true, yp, false)) := HO0
            clear HO0
            go_wp2_with (at_builtin; refine wpList_append_own _ rfl _ _ 23 rfl w.heap.size 29 i0 (.agg #[.bool false, .int .i64 0, .bool false]) 3 24 Try.underlying23 hi hz0 hz1 hz2 rfl (by decide) _ _ _ rfl ((hown.alloc _).alloc _) ⟨wr.heap.size + 1, 0, none⟩ 1 1 [.bool true, .int .i64 yp, .bool false] rfl rfl (HC1 _ _ _) (HC2 _ _ _) (by unfold maxLen; omega) (by omega) (by simp; omega) ?_; intro v' w3 hown' hgrow hnil)
            have hB3 : Below w.heap.size w w3 := Below.grown (BW true yp false) hgrow (by simp; omega) (fun j hj => (hown.lt _ hj).1)
            have hown3 : Hid (w3.ownsRow w.heap.size 29 3 v' (k + 1) (flat ((overT ea eb).take (k + 1)))) := by
              rw [flat_snoc hkT HO.out]; exact hown'
            clear hown' hgrow hown hnil
            go_wp2
            go_roundw
            case rel => exact ⟨k + 1, by omega, by go_num, hown3, hB3⟩
            case measure => simp [intOf]; omega
          · have HO : Hid ((overT ea eb).getD k (false, 0, false) = (true, yp, ew)) := by simpa [Hid] using HO0
            clear HO0
            go_wp2_with (at_builtin; refine wpList_append_own _ rfl _ _ 23 rfl w.heap.size 29 i0 (.agg #[.bool false, .int .i64 0, .bool false]) 3 24 Try.underlying23 hi hz0 hz1 hz2 rfl (by decide) _ _ _ rfl ((hown.alloc _).alloc _) ⟨wr.heap.size + 1, 0, none⟩ 1 1 [.bool true, .int .i64 yp, .bool ew] rfl rfl (HC1 _ _ _) (HC2 _ _ _) (by unfold maxLen; omega) (by omega) (by simp; omega) ?_; intro v' w3 hown' hgrow hnil)
            have hB3 : Below w.heap.size w w3 := Below.grown (BW true yp ew) hgrow (by simp; omega) (fun j hj => (hown.lt _ hj).1)
            have hown3 : Hid (w3.ownsRow w.heap.size 29 3 v' (k + 1) (flat ((overT ea eb).take (k + 1)))) := by
              rw [flat_snoc hkT HO.out]; exact hown'
            clear hown' hgrow hown hnil
            go_wp2
            go_roundw
            case rel => exact ⟨k + 1, by omega, by go_num, hown3, hB3⟩
            case measure => simp [intOf]; omega
    · have hkk : k = 6 := by omega
      subst hkk
      rw [List.take_of_length_le (by simp [overT]; omega)] at hown
      obtain ⟨T, cap, hv, hT1, hT2, hE⟩ := ents_own hown (by omega)
      clear hown hownH
      subst hv
      go_wp2
      go_ret
      exact ⟨T, cap, rfl, hT1, hT2, hE, hW⟩
end Go.Proofs.Ytfiailnlkhonnab
