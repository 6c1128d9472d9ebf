/-
  What the given TabRead does.
-/
import Derived.Test.YtfiailnlkhonnaaDoorScan0
import Derived.RangeFuncBox
namespace Go.Proofs.YtfiailnlkhonnaaDoor
open Go.RowKit

/-- What the given TabRead answers. -/
def SpecRead (s : ByteArray) (w : World) (e : Ending) (w' : World) : Prop := ∃ v k, e = .returned (.tuple #[v, .bool k]) ∧
  ((k = true ∧ ∃ es : List E3, es.length = 6 ∧ es.all okE = true ∧ textL es = s.data.toList ∧ ∃ G cap, v = .slice (some ⟨G, 0, none⟩) 6 cap ∧ w.heap.size ≤ G ∧ G < w'.heap.size ∧ Ents w' G 0 es) ∨
   (k = false ∧ ∃ a cap, v = .slice a 0 cap ∧ ∀ es : List E3, es.length = 6 → es.all okE = true → textL es ≠ s.data.toList)) ∧ Below w.heap.size w w'

set_option maxRecDepth 100000 in
set_option maxHeartbeats 4000000 in
theorem specTabRead (s : ByteArray) (w : World) (hs : s.size ≤ 1048576) : Calls Tryd.prog 12 #[.string s] w fun e w' => SpecRead s w e w' := by
  obtain ⟨i0, hi, hz0, hz1, hz2⟩ := info_parts infoE
  go_enter Tryd.func12, Tryd.ntmps12
  go_wp2
  go_loopw [4, 5] (fun v i wr => ∃ (cur : List E3) (k g cap : Nat), v = .slice (some ⟨g, 0, none⟩) cur.length cap ∧ k ≤ s.size ∧ i = .int .i64 k ∧ wr.ownsRow w.heap.size 37 3 v cur.length (flat cur) ∧ Hid (scan (s.data.toList.drop k) cur = scan s.data.toList []) ∧ cur.length ≤ 7 ∧ Below w.heap.size w wr) (fun _ i _ => s.size - (intOf i).toNat)
  case atStart => exact ⟨[], 0, _, _, rfl, Nat.zero_le _, rfl, World.ownsRow_made w #[] 0 (Nat.le_refl _) (Nat.zero_le _) rfl, rfl, Nat.zero_le _, (Below.refl _ _).alloc (Nat.le_refl _) _⟩
  case round =>
    obtain ⟨cur, k, g, cap, rfl, hk, rfl, hown, hsc, hlen, hW⟩ := hrel
    have HO : Hid (wr.ownsRow w.heap.size 37 3 (.slice (some ⟨g, 0, none⟩) cur.length cap) cur.length (flat cur)) := hown
    clear hown
    by_cases hkl : k < s.size
    · have hki : (k : Int) < (s.size : Int) := by omega
      obtain ⟨b, hb⟩ : ∃ b : UInt8, s[k]'hkl = b := ⟨_, rfl⟩
      have HD : Hid (s.data.toList.drop k = b :: s.data.toList.drop (k + 1)) := by
        have := List.drop_eq_getElem_cons (l := s.data.toList) (i := k) (by rw [Array.length_toList]; exact hkl)
        refine this.trans ?_
        congr 1
      obtain ⟨nb, hnb⟩ : ∃ nb : Nat, b.toNat = nb := ⟨_, rfl⟩
      have hn8 : nb < 256 := by rw [← hnb]; exact b.toNat_lt
      have sW := hW.size
      have BW : ∀ x y z, Below w.heap.size w (wr.alloc (.cells #[.bool x, .int .i64 y, .bool z] 37)) := fun x y z => by
        (repeat' (with_reducible (first | exact Below.refl _ _ | apply Below.setCell | apply Below.alloc | apply below_drewN | apply Below.drew | refine Below.trans ?_ (Below.mono (by assumption) ?_)))) <;> (first | exact Nat.le_refl _ | (simp; done) | (simp; omega) | (simp at *; omega))
      have HC2 : ∀ (x : Bool) (y : Int) (z : Bool), ∀ u ∈ [Value.bool x, .int .i64 y, .bool z], u.oneCell' = true := fun x y z u hu => by simp at hu; rcases hu with rfl | rfl | rfl <;> rfl
      have hout : Hid (6 < cur.length → ∀ es : List E3, es.length = 6 → es.all okE = true → textL es ≠ s.data.toList) := by
        intro h6 es hl hA e
        have e2 := scan_text hl hA
        rw [e, ← hsc.out, HD.out, scan_out h6] at e2
        cases e2
      have hnext : Hid (¬ 6 < cur.length → scan (s.data.toList.drop (k + 1)) (scan1 cur b) = scan s.data.toList []) := by
        intro h6
        rw [← hsc.out, HD.out, scan_cons (by omega)]
      clear hsc HD
      by_cases c1 : nb = 45
      · have hb45 : b = 45 := UInt8.toNat_inj.1 (hnb.trans c1)
        subst c1
        have HN : Hid (scan1 cur b = cur ++ [(false, 0, false)]) := by show scan1 cur b = _; unfold scan1; rw [if_pos hb45]
        clear hb45
        by_cases h6 : 6 < cur.length
        · have h6i : 6 < (cur.length : Int) := by omega
          go_wp2_with (at_builtin; refine wpList_append_own _ rfl _ _ 23 rfl w.heap.size 37 i0 (.agg #[.bool false, .int .i64 0, .bool false]) 3 24 Tryd.underlying23 hi hz0 hz1 hz2 rfl (by decide) _ _ _ rfl (HO.out.alloc _) ⟨wr.heap.size, 0, none⟩ 1 1 [.bool false, .int .i64 0, .bool false] rfl rfl (cell_three_new _ _ _ _ _) (HC2 _ _ _) (by unfold maxLen; omega) (by omega) (by simp; omega) ?_; intro v' w3 hown' hgrow hnil; obtain ⟨g', cap', rfl⟩ := ownsRow_succ hown'; have hB3 : Below w.heap.size w w3 := Below.grown (BW false 0 false) hgrow (by simp; omega) (fun j hj => (HO.out.lt _ hj).1); clear hgrow hnil)
          go_ret2
          unfold SpecRead
          exact ⟨_, false, rfl, Or.inr ⟨rfl, _, _, rfl, hout.out h6⟩, hB3.alloc hB3.size _⟩
        · have h6i : ¬ 6 < (cur.length : Int) := by omega
          go_wp2_with (at_builtin; refine wpList_append_own _ rfl _ _ 23 rfl w.heap.size 37 i0 (.agg #[.bool false, .int .i64 0, .bool false]) 3 24 Tryd.underlying23 hi hz0 hz1 hz2 rfl (by decide) _ _ _ rfl (HO.out.alloc _) ⟨wr.heap.size, 0, none⟩ 1 1 [.bool false, .int .i64 0, .bool false] rfl rfl (cell_three_new _ _ _ _ _) (HC2 _ _ _) (by unfold maxLen; omega) (by omega) (by simp; omega) ?_; intro v' w3 hown' hgrow hnil; obtain ⟨g', cap', rfl⟩ := ownsRow_succ hown'; have hB3 : Below w.heap.size w w3 := Below.grown (BW false 0 false) hgrow (by simp; omega) (fun j hj => (HO.out.lt _ hj).1); clear hgrow hnil)
          go_roundw
          case rel => exact ⟨cur ++ [(false, 0, false)], k + 1, g', cap', by simp, by omega, by go_num, by rw [flat_app, List.length_append]; exact hown', by rw [← HN.out]; exact hnext.out h6, by simp; omega, hB3⟩
          case measure => simp [intOf]; omega
      · have hb45 : ¬ b = 45 := fun e => c1 (by rw [← hnb, e]; rfl)
        have c1i : ¬ (nb : Int) = 45 := by omega
        by_cases c2 : 48 ≤ nb ∧ nb ≤ 57
        · have HN : Hid (scan1 cur b = cur ++ [(true, (nb : Int) - 48, false)]) := by show scan1 cur b = _; unfold scan1; rw [if_neg hb45, hnb, if_pos c2]
          clear hb45
          obtain ⟨c2a, c2b⟩ := c2
          have c2i : (48 : Int) ≤ (nb : Int) := by omega
          have c2j : (nb : Int) ≤ 57 := by omega
          by_cases h6 : 6 < cur.length
          · have h6i : 6 < (cur.length : Int) := by omega
            go_wp2_with (at_builtin; refine wpList_append_own _ rfl _ _ 23 rfl w.heap.size 37 i0 (.agg #[.bool false, .int .i64 0, .bool false]) 3 24 Tryd.underlying23 hi hz0 hz1 hz2 rfl (by decide) _ _ _ rfl (HO.out.alloc _) ⟨wr.heap.size, 0, none⟩ 1 1 [.bool true, .int .i64 ((nb : Int) - 48), .bool false] rfl rfl (cell_three_new _ _ _ _ _) (HC2 _ _ _) (by unfold maxLen; omega) (by omega) (by simp; omega) ?_; intro v' w3 hown' hgrow hnil; obtain ⟨g', cap', rfl⟩ := ownsRow_succ hown'; have hB3 : Below w.heap.size w w3 := Below.grown (BW true ((nb : Int) - 48) false) hgrow (by simp; omega) (fun j hj => (HO.out.lt _ hj).1); clear hgrow hnil)
            go_ret2
            unfold SpecRead
            exact ⟨_, false, rfl, Or.inr ⟨rfl, _, _, rfl, hout.out h6⟩, hB3.alloc hB3.size _⟩
          · have h6i : ¬ 6 < (cur.length : Int) := by omega
            go_wp2_with (at_builtin; refine wpList_append_own _ rfl _ _ 23 rfl w.heap.size 37 i0 (.agg #[.bool false, .int .i64 0, .bool false]) 3 24 Tryd.underlying23 hi hz0 hz1 hz2 rfl (by decide) _ _ _ rfl (HO.out.alloc _) ⟨wr.heap.size, 0, none⟩ 1 1 [.bool true, .int .i64 ((nb : Int) - 48), .bool false] rfl rfl (cell_three_new _ _ _ _ _) (HC2 _ _ _) (by unfold maxLen; omega) (by omega) (by simp; omega) ?_; intro v' w3 hown' hgrow hnil; obtain ⟨g', cap', rfl⟩ := ownsRow_succ hown'; have hB3 : Below w.heap.size w w3 := Below.grown (BW true ((nb : Int) - 48) false) hgrow (by simp; omega) (fun j hj => (HO.out.lt _ hj).1); clear hgrow hnil)
            go_roundw
            case rel => exact ⟨cur ++ [(true, ((nb : Int) - 48), false)], k + 1, g', cap', by simp, by omega, by go_num, by rw [flat_app, List.length_append]; exact hown', by rw [← HN.out]; exact hnext.out h6, by simp; omega, hB3⟩
            case measure => simp [intOf]; omega
        · by_cases c3 : nb = 119
          · have hb119 : b = 119 := UInt8.toNat_inj.1 (hnb.trans c3)
            subst c3
            by_cases c4 : 0 < cur.length
            · have HN : Hid (scan1 cur b = setW cur) := by show scan1 cur b = _; unfold scan1; rw [if_neg hb45, hnb, if_neg c2, if_pos ⟨hb119, c4⟩]
              clear hb45 hb119 c2
              obtain ⟨m, hm⟩ : ∃ m, cur.length = m + 1 := ⟨cur.length - 1, by omega⟩
              have c4i : 0 < (cur.length : Int) := by omega
              have hst := HO.out.stored (m * 3 + 2) (.bool true)
              have hfl : flat (setW cur) = (flat cur).set (m * 3 + 2) (.bool true) := by rw [flat_setW c4, hm]; rfl
              have q2 := (flat_get cur m (by omega)).2.2
              have cq := (HO.out.cellAt (m * 3 + 2) (by omega)).trans q2
              have fq := HO.out.frozenAt (m * 3 + 2)
              have hgb : w.heap.size ≤ g := (HO.out.lt g rfl).1
              have HS : Hid ((wr.setCell ⟨g, m * 3 + 2, none⟩ (.bool true)).ownsRow w.heap.size 37 3 (.slice (some ⟨g, 0, none⟩) (m + 1) cap) (setW cur).length (flat (setW cur))) := by
                have := hst.1
                rw [setW_len, hfl, ← hm]; exact this
              have hB3 : Below w.heap.size w (wr.setCell ⟨g, m * 3 + 2, none⟩ (.bool true)) := hW.setCell (p := ⟨g, m * 3 + 2, none⟩) hgb _
              clear hst hfl q2
              rw [hm] at c4i
              by_cases h6 : 6 < cur.length
              · have h6i : 6 < ((m + 1 : Nat) : Int) := by omega
                have ho := hout.out h6
                have HOo : Hid (∀ es : List E3, es.length = 6 → es.all okE = true → textL es ≠ s.data.toList) := ho
                clear ho hout hnext
                rw [hm]
                go_wp2
                go_ret2
                unfold SpecRead
                exact ⟨_, false, rfl, Or.inr ⟨rfl, _, _, rfl, HOo.out⟩, hB3.alloc hB3.size _⟩
              · have h6i : ¬ 6 < ((m + 1 : Nat) : Int) := by omega
                rw [hm]
                go_wp2
                go_roundw
                case rel => exact ⟨setW cur, k + 1, g, cap, by rw [setW_len, hm], by omega, by go_num, HS.out, by rw [← HN.out]; exact hnext.out h6, by rw [setW_len]; omega, hB3⟩
                case measure => simp [intOf]; omega
            · have HN : Hid (scan1 cur b = cur) := by show scan1 cur b = _; unfold scan1; rw [if_neg hb45, hnb, if_neg c2, if_neg (fun e => c4 e.2)]
              clear hb45 hb119 c2
              have c4i : ¬ 0 < (cur.length : Int) := by omega
              have h6 : ¬ 6 < cur.length := by omega
              have h6i : ¬ 6 < (cur.length : Int) := by omega
              go_wp2
              go_roundw
              case rel => exact ⟨cur, k + 1, g, cap, rfl, by omega, by go_num, HO.out, (by have := hnext.out h6; rw [HN.out] at this; exact this), by omega, hW⟩
              case measure => simp [intOf]; omega
          · have hb119 : ¬ b = 119 := fun e => c3 (by rw [← hnb, e]; rfl)
            have HN : Hid (scan1 cur b = cur) := by show scan1 cur b = _; unfold scan1; rw [if_neg hb45, hnb, if_neg c2, if_neg (fun e => hb119 e.1)]
            clear hb45 hb119
            have c3i : ¬ (nb : Int) = 119 := by omega
            by_cases c5 : 48 ≤ nb
            · have c5i : (48 : Int) ≤ (nb : Int) := by omega
              have c6i : ¬ (nb : Int) ≤ 57 := by omega
              by_cases h6 : 6 < cur.length
              · have h6i : 6 < (cur.length : Int) := by omega
                go_wp2
                go_ret2
                unfold SpecRead
                exact ⟨_, false, rfl, Or.inr ⟨rfl, _, _, rfl, hout.out h6⟩, hW.alloc hW.size _⟩
              · have h6i : ¬ 6 < (cur.length : Int) := by omega
                go_wp2
                go_roundw
                case rel => exact ⟨cur, k + 1, g, cap, rfl, by omega, by go_num, HO.out, (by have := hnext.out h6; rw [HN.out] at this; exact this), by omega, hW⟩
                case measure => simp [intOf]; omega
            · have c5i : ¬ (48 : Int) ≤ (nb : Int) := by omega
              by_cases h6 : 6 < cur.length
              · have h6i : 6 < (cur.length : Int) := by omega
                go_wp2
                go_ret2
                unfold SpecRead
                exact ⟨_, false, rfl, Or.inr ⟨rfl, _, _, rfl, hout.out h6⟩, hW.alloc hW.size _⟩
              · have h6i : ¬ 6 < (cur.length : Int) := by omega
                go_wp2
                go_roundw
                case rel => exact ⟨cur, k + 1, g, cap, rfl, by omega, by go_num, HO.out, (by have := hnext.out h6; rw [HN.out] at this; exact this), by omega, hW⟩
                case measure => simp [intOf]; omega
    · have hkk : k = s.size := by omega
      have hsc' : scan s.data.toList [] = some cur := by
        rw [← hsc.out, List.drop_of_length_le (by rw [Array.length_toList, hkk]; exact Nat.le_refl _)]; rfl
      have HS : Hid (scan s.data.toList [] = some cur) := hsc'
      clear hsc hsc'
      have hgl := (HO.out.lt g rfl)
      have hE : Ents wr g 0 cur := by
        by_cases h0 : 0 < cur.length
        · obtain ⟨T, cap', e, _, _, hE⟩ := ents_own HO.out h0
          cases e
          exact hE
        · intro i hi
          omega
      go_wp2_with (fail)
      refine (specTabOk g 0 cur.length cap cur _ rfl (by omega) hgl.2 hE).mono ?_
      rintro e w1 ⟨rfl, B1⟩
      have B1' : Below w.heap.size w w1 := hW.trans (B1.mono hW.size)
      cases hT : (cur.all okE && ((cur.length : Int) == 6))
      · have hno : Hid (∀ es : List E3, es.length = 6 → es.all okE = true → textL es ≠ s.data.toList) := by
          intro es hl hA e
          have e2 := scan_text hl hA
          rw [e, HS.out] at e2
          cases e2
          rw [hA, hl] at hT
          cases hT
        clear hT
        go_wp2
        go_ret2
        unfold SpecRead
        exact ⟨_, false, rfl, Or.inr ⟨rfl, _, _, rfl, hno.out⟩, B1'.alloc B1'.size _⟩
      · have h6 : cur.all okE = true ∧ cur.length = 6 := by
          simp only [Bool.and_eq_true, beq_iff_eq] at hT
          exact ⟨hT.1, by omega⟩
        obtain ⟨hA, hl6⟩ := h6
        clear hT
        rw [hl6]
        have hcA : Hid (cur.all okE = true) := hA
        clear hA
        go_wp2_with (fail)
        refine (specTabText_ok g 0 cap cur _ hl6 (Nat.lt_of_lt_of_le hgl.2 B1.size) (hE.below B1 hgl.2) hcA.out).mono ?_
        rintro e w2 ⟨rfl, B2⟩
        have B2' : Below w.heap.size w w2 := B1'.trans (B2.mono B1'.size)
        have hE2 := (hE.below B1 hgl.2).below B2 (Nat.lt_of_lt_of_le hgl.2 B1.size)
        have hl2 := Nat.lt_of_lt_of_le (Nat.lt_of_lt_of_le hgl.2 B1.size) B2.size
        have HX : Hid ((preS cur 6 ++ ⟨#[10]⟩ : ByteArray).data.toList = textL cur) := textL_pre cur hl6 hcA.out
        generalize (preS cur 6 ++ ⟨#[10]⟩ : ByteArray) = X at HX
        cases hXs : (X.toList == s.toList)
        · have hno : Hid (∀ es : List E3, es.length = 6 → es.all okE = true → textL es ≠ s.data.toList) := by
            intro es hl hA e
            have e2 := scan_text hl hA
            rw [e, HS.out] at e2
            cases e2
            rw [ByteArray.toList_eq, ByteArray.toList_eq, beq_eq_false_iff_ne] at hXs
            exact hXs (HX.out.trans e)
          go_wp2
          go_ret2
          unfold SpecRead
          exact ⟨_, false, rfl, Or.inr ⟨rfl, _, _, rfl, hno.out⟩, B2'.alloc B2'.size _⟩
        · have hyes : Hid (textL cur = s.data.toList) := by
            rw [ByteArray.toList_eq, ByteArray.toList_eq, beq_iff_eq] at hXs
            exact HX.out.symm.trans hXs
          go_wp2
          go_ret2
          unfold SpecRead
          exact ⟨_, true, rfl, Or.inl ⟨rfl, cur, hl6, hcA.out, hyes.out, g, cap, rfl, hgl.1, hl2, hE2⟩, B2'⟩
end Go.Proofs.YtfiailnlkhonnaaDoor
