/-
  The walk of the law FnEntryOne.
-/
import Derived.Test.YtfiailnlkhonnaaWalkFnEntryBack
import Derived.Deep.DeepCutAuto
namespace Go.Proofs.Ytfiailnlkhonnaa
open Go.RowKit

theorem ok_shape {h : Bool} {p : Int} {b : Bool} (hO : okE (h, p, b) = true) : (h = false ∧ p = 0 ∧ b = false) ∨ (h = true ∧ 0 ≤ p) := by
  cases h
  · have hh : p = 0 ∧ b = false := by simpa [okE] using hO
    exact Or.inl ⟨rfl, hh.1, hh.2⟩
  · have hh : 0 ≤ p ∧ p ≤ 5 := by simpa [okE] using hO
    exact Or.inr ⟨rfl, hh.1⟩
theorem num_ne1 (p : Int) (b : Bool) (h : 0 ≤ p) : (numE true p b == numE false 0 false) = false := by
  cases b <;> simp only [numE, cond_true, cond_false, beq_eq_false_iff_ne] <;> omega
theorem num_ne2 (p : Int) (b : Bool) (h : 0 ≤ p) : (numE false 0 false == numE true p b) = false := by
  cases b <;> simp only [numE, cond_true, cond_false, beq_eq_false_iff_ne] <;> omega
theorem num_ne3 (p p' : Int) (b b' : Bool) (h : ¬ (p = p' ∧ b = b')) : (numE true p b == numE true p' b') = false := by
  cases b <;> cases b' <;> simp only [numE, cond_true, cond_false, beq_eq_false_iff_ne] <;> simp only [and_true, reduceCtorEq, and_false, not_false_iff] at h <;> omega

/-- A block that holds one entry. -/
def Holds3 (w : World) (A : Nat) (h : Bool) (p : Int) (b : Bool) : Prop := w.cell? ⟨A, 0, none⟩ = some (.bool h) ∧ w.cell? ⟨A, 1, none⟩ = some (.int .i64 p) ∧ w.cell? ⟨A, 2, none⟩ = some (.bool b)
theorem Holds3.lt {w : World} {A : Nat} {h : Bool} {p : Int} {b : Bool} (H : Holds3 w A h p b) : A < w.heap.size := World.block_lt_of_cell? _ _ H.1
theorem Holds3.below {N : Nat} {w w' : World} {A : Nat} {h : Bool} {p : Int} {b : Bool} (H : Holds3 w A h p b) (hb : Below N w w') (hN : w.heap.size ≤ N) : Holds3 w' A h p b :=
  have hA := Nat.lt_of_lt_of_le H.lt hN
  ⟨(hb.cell (p := ⟨A, 0, none⟩) hA).trans H.1, (hb.cell (p := ⟨A, 1, none⟩) hA).trans H.2.1, (hb.cell (p := ⟨A, 2, none⟩) hA).trans H.2.2⟩
theorem Holds3.new (w : World) (h : Bool) (p : Int) (b : Bool) (t : TypeId) : Holds3 (w.alloc (.cells #[.bool h, .int .i64 p, .bool b] t)) w.heap.size h p b := ⟨by simp, by simp, by simp⟩
theorem Holds3.alloc {w : World} {A : Nat} {h : Bool} {p : Int} {b : Bool} (H : Holds3 w A h p b) (o : Obj) : Holds3 (w.alloc o) A h p b := H.below ((Below.refl w.heap.size w).alloc (Nat.le_refl _) o) (Nat.le_refl _)
theorem Holds3.drew {w : World} {A : Nat} {h : Bool} {p : Int} {b : Bool} (H : Holds3 w A h p b) : Holds3 w.drew A h p b := H

set_option maxHeartbeats 16000000 in
theorem walk_FnEntryOne (a0 : Option Addr) (len0 cap0 : Nat) (z0 : List Int) (a1 : Option Addr) (len1 cap1 : Nat) (z1 : List Int) (w : World) (w0 : IsRow .u8 w a0 len0 cap0 z0) (w1 : IsRow .u8 w a1 len1 cap1 z1) :
    Calls Try.prog 5 #[.slice a0 len0 cap0, .slice a1 len1 cap1] w fun e w' => e = .returned (.bool true) ∧ Below w.heap.size w w' := by
  by_cases hbig : (1048576 : Int) < (len0 : Int)
  · go_enter Try.func5, Try.ntmps5
    go_wp2
    go_ret
    exact ⟨rfl, Below.refl _ _⟩
  by_cases hbig' : (1048576 : Int) < (len1 : Int)
  · go_enter Try.func5, Try.ntmps5
    go_wp2
    go_ret
    exact ⟨rfl, Below.refl _ _⟩
  · have hM : ∀ h p b w, -1 ≤ p → p ≤ 6 → Calls Try.prog 8 #[.agg #[.bool h, .int .i64 p, .bool b]] w fun e w' => e = .returned (.int .i64 (numE h p b)) ∧ Below w.heap.size w w' := fun h p b w _ _ => implEntryNum h p b w (by omega) (by omega)
    have hS : ∀ h p b w, -1 ≤ p → p ≤ 6 → Calls Try.prog 9 #[.agg #[.bool h, .int .i64 p, .bool b]] w fun e w' => e = .returned (.int .i64 (numE h p b)) ∧ Below w.heap.size w w' := fun h p b w _ _ => specEntryNum h p b w (by omega) (by omega)
    go_enter Try.func5, Try.ntmps5
    go_wp2_with (fail)
    refine (drawEntryNum a0 len0 cap0 z0 _ w0).mono ?_
    rintro e v1 ⟨h, p, b, rfl, hp0, hp1, hb1⟩
    go_wp2_with (fail)
    refine (drawEntryNum a1 len1 cap1 z1 _ ((w1.below hb1).alloc _)).mono ?_
    rintro e v2 ⟨h', p', b', rfl, hp0', hp1', hb2⟩
    have HA2 := (Holds3.new v1 h p b 24).below hb2 (Nat.le_refl _)
    have B2 : Below w.heap.size w v2 := ((hb1.alloc hb1.size _).trans (hb2.mono (by have := hb1.size; simp; omega)))
    have HA2' := HA2.alloc (.cells #[.bool h', .int .i64 p', .bool b'] 24)
    have HB2' := Holds3.new v2 h' p' b' 24
    obtain ⟨q0, q1, q2⟩ := HA2
    have sz : v1.heap.size < v2.heap.size := World.block_lt_of_cell? _ _ q0
    have s2 := B2.size
    go_wp2_with (fail)
    refine (hM h p b _ hp0 hp1).mono ?_
    rintro e v3 ⟨rfl, hb3⟩
    have HA := HA2'.below hb3 (Nat.le_refl _)
    have HB := HB2'.below hb3 (Nat.le_refl _)
    have B3 : Below w.heap.size w v3 := ((B2.alloc s2 _).trans (hb3.mono (by simp; omega)))
    clear HA2' HB2' hb3 hb2 hb1 B2 q0 q1 q2
    obtain ⟨g0, g1, g2⟩ := id HA
    obtain ⟨i0, i1, i2⟩ := id HB
    have s3 := B3.size
    go_upto_region 6 with fail
    go_cut [33] (fun s wx => s = .bool false ∧ Holds3 wx v1.heap.size h p b ∧ Holds3 wx v2.heap.size h' p' b' ∧ Below w.heap.size w wx)
    case first =>
      go_region_with ((first | (go_at_call 9; refine (hS _ _ _ _ (by assumption) (by assumption)).mono ?_) | (go_at_call 8; refine (hM _ _ _ _ (by assumption) (by assumption)).mono ?_)); rintro e v4 ⟨rfl, hb4⟩; have HA : Holds3 v4 v1.heap.size h p b := (by first | exact HA.below hb4 (Nat.le_refl _) | exact HA.drew.below hb4 (Nat.le_refl _)); have HB : Holds3 v4 v2.heap.size h' p' b' := (by first | exact HB.below hb4 (Nat.le_refl _) | exact HB.drew.below hb4 (Nat.le_refl _)); have s3 := Nat.le_trans s3 hb4.size; obtain ⟨j0, j1, j2⟩ := id HA; obtain ⟨k0, k1, k2⟩ := id HB)
      all_goals go_wp2_with fail
      all_goals go_meet
      all_goals
        refine ⟨rfl, by assumption, by assumption, ?_⟩
        (repeat' (with_reducible (first | exact Below.refl _ _ | apply Below.setCell | apply Below.alloc | apply below_drewN | apply Below.drew | refine Below.trans ?_ (Below.mono (by assumption) ?_)))) <;> (first | exact Nat.le_refl _ | (simp; done) | (simp; omega) | (simp at *; omega))
    case rest =>
      obtain ⟨rfl, HA, HB, B4⟩ := hcut
      have s4 := B4.size
      obtain ⟨j0, j1, j2⟩ := id HA
      obtain ⟨k0, k1, k2⟩ := id HB
      clear g0 g1 g2 i0 i1 i2 s3 B3
      go_wp2_with (fail)
      refine (specTab6 h p b h' p' b' _ wc).mono ?_
      rintro e v5 ⟨rfl, hb5⟩
      have HA := (HA.alloc _).below hb5 (by simp)
      have HB := (HB.alloc _).below hb5 (by simp)
      have B5 : Below w.heap.size w v5 := (B4.alloc s4 _).trans (hb5.mono (by omega))
      have s5 := B5.size
      clear hb5 j0 j1 j2 k0 k1 k2 B4
      obtain ⟨l0, l1, l2⟩ := id HA
      obtain ⟨m0, m1, m2⟩ := id HB
      cases hO : (okE (h, p, b) && okE (h', p', b'))
      · go_wp2_with (fail)
        go_quiet (fail)
        all_goals
          go_wp2
          go_ret
          refine ⟨rfl, ?_⟩
          (repeat' (with_reducible (first | exact Below.refl _ _ | apply Below.setCell | apply Below.alloc | apply below_drewN | apply Below.drew | refine Below.trans ?_ (Below.mono (by assumption) ?_)))) <;> (first | exact Nat.le_refl _ | (simp; done) | (simp; omega) | (simp at *; omega))
      · have hO1 : okE (h, p, b) = true := by cases hx : okE (h, p, b) <;> simp_all
        have hO2 : okE (h', p', b') = true := by cases hx : okE (h', p', b') <;> simp_all
        clear hO
        by_cases same : h = h' ∧ p = p' ∧ b = b'
        · obtain ⟨rfl, rfl, rfl⟩ := same
          clear hO1 hO2
          go_wp2_with (fail)
          go_region_with (go_at_call 8; refine (hM _ _ _ _ (by assumption) (by assumption)).mono ?_; rintro e v6 ⟨rfl, hb6⟩; have s6 := Nat.le_trans s5 hb6.size; have HA : Holds3 v6 v1.heap.size _ _ _ := (by first | exact HA.below hb6 (Nat.le_refl _) | exact HA.drew.below hb6 (Nat.le_refl _)); have HB : Holds3 v6 v2.heap.size _ _ _ := (by first | exact HB.below hb6 (Nat.le_refl _) | exact HB.drew.below hb6 (Nat.le_refl _)); obtain ⟨n0, n1, n2⟩ := id HA; obtain ⟨o0, o1, o2⟩ := id HB)
          all_goals
            go_wp2
            go_ret
            refine ⟨rfl, ?_⟩
            (repeat' (with_reducible (first | exact Below.refl _ _ | apply Below.setCell | apply Below.alloc | apply below_drewN | apply Below.drew | refine Below.trans ?_ (Below.mono (by assumption) ?_)))) <;> (first | exact Nat.le_refl _ | (simp; done) | (simp; omega) | (simp at *; omega))
        · rcases ok_shape hO1 with ⟨rfl, rfl, rfl⟩ | ⟨rfl, e1⟩
          · rcases ok_shape hO2 with ⟨rfl, rfl, rfl⟩ | ⟨rfl, e2⟩
            · exact absurd ⟨rfl, rfl, rfl⟩ same
            · have hne := num_ne2 p' b' e2
              clear hO1 hO2 same
              go_wp2_with (fail)
              go_region_with (go_at_call 8; refine (hM _ _ _ _ (by assumption) (by assumption)).mono ?_; rintro e v6 ⟨rfl, hb6⟩; have s6 := Nat.le_trans s5 hb6.size; have HA : Holds3 v6 v1.heap.size _ _ _ := (by first | exact HA.below hb6 (Nat.le_refl _) | exact HA.drew.below hb6 (Nat.le_refl _)); have HB : Holds3 v6 v2.heap.size _ _ _ := (by first | exact HB.below hb6 (Nat.le_refl _) | exact HB.drew.below hb6 (Nat.le_refl _)); obtain ⟨n0, n1, n2⟩ := id HA; obtain ⟨o0, o1, o2⟩ := id HB)
              all_goals
                go_wp2
                go_ret
                refine ⟨rfl, ?_⟩
                (repeat' (with_reducible (first | exact Below.refl _ _ | apply Below.setCell | apply Below.alloc | apply below_drewN | apply Below.drew | refine Below.trans ?_ (Below.mono (by assumption) ?_)))) <;> (first | exact Nat.le_refl _ | (simp; done) | (simp; omega) | (simp at *; omega))
          · rcases ok_shape hO2 with ⟨rfl, rfl, rfl⟩ | ⟨rfl, e2⟩
            · have hne := num_ne1 p b e1
              clear hO1 hO2 same
              go_wp2_with (fail)
              go_region_with (go_at_call 8; refine (hM _ _ _ _ (by assumption) (by assumption)).mono ?_; rintro e v6 ⟨rfl, hb6⟩; have s6 := Nat.le_trans s5 hb6.size; have HA : Holds3 v6 v1.heap.size _ _ _ := (by first | exact HA.below hb6 (Nat.le_refl _) | exact HA.drew.below hb6 (Nat.le_refl _)); have HB : Holds3 v6 v2.heap.size _ _ _ := (by first | exact HB.below hb6 (Nat.le_refl _) | exact HB.drew.below hb6 (Nat.le_refl _)); obtain ⟨n0, n1, n2⟩ := id HA; obtain ⟨o0, o1, o2⟩ := id HB)
              all_goals
                go_wp2
                go_ret
                refine ⟨rfl, ?_⟩
                (repeat' (with_reducible (first | exact Below.refl _ _ | apply Below.setCell | apply Below.alloc | apply below_drewN | apply Below.drew | refine Below.trans ?_ (Below.mono (by assumption) ?_)))) <;> (first | exact Nat.le_refl _ | (simp; done) | (simp; omega) | (simp at *; omega))
            · have hne := num_ne3 p p' b b' (fun hh => same ⟨rfl, hh⟩)
              by_cases hpp : p = p'
              · subst hpp
                have hbb : b ≠ b' := fun hh => same ⟨rfl, rfl, hh⟩
                clear hO1 hO2 same
                cases b <;> cases b' <;> first | exact absurd rfl hbb | skip
                all_goals
                  clear hbb
                  go_wp2_with (fail)
                  go_region_with (go_at_call 8; refine (hM _ _ _ _ (by assumption) (by assumption)).mono ?_; rintro e v6 ⟨rfl, hb6⟩; have s6 := Nat.le_trans s5 hb6.size; have HA : Holds3 v6 v1.heap.size _ _ _ := (by first | exact HA.below hb6 (Nat.le_refl _) | exact HA.drew.below hb6 (Nat.le_refl _)); have HB : Holds3 v6 v2.heap.size _ _ _ := (by first | exact HB.below hb6 (Nat.le_refl _) | exact HB.drew.below hb6 (Nat.le_refl _)); obtain ⟨n0, n1, n2⟩ := id HA; obtain ⟨o0, o1, o2⟩ := id HB)
                  all_goals
                    go_wp2
                    go_ret
                    refine ⟨rfl, ?_⟩
                    (repeat' (with_reducible (first | exact Below.refl _ _ | apply Below.setCell | apply Below.alloc | apply below_drewN | apply Below.drew | refine Below.trans ?_ (Below.mono (by assumption) ?_)))) <;> (first | exact Nat.le_refl _ | (simp; done) | (simp; omega) | (simp at *; omega))
              · have hp3 : (p == p') = false := by simpa using hpp
                clear hO1 hO2 same
                go_wp2_with (fail)
                go_region_with (go_at_call 8; refine (hM _ _ _ _ (by assumption) (by assumption)).mono ?_; rintro e v6 ⟨rfl, hb6⟩; have s6 := Nat.le_trans s5 hb6.size; have HA : Holds3 v6 v1.heap.size _ _ _ := (by first | exact HA.below hb6 (Nat.le_refl _) | exact HA.drew.below hb6 (Nat.le_refl _)); have HB : Holds3 v6 v2.heap.size _ _ _ := (by first | exact HB.below hb6 (Nat.le_refl _) | exact HB.drew.below hb6 (Nat.le_refl _)); obtain ⟨n0, n1, n2⟩ := id HA; obtain ⟨o0, o1, o2⟩ := id HB)
                all_goals
                  go_wp2
                  go_ret
                  refine ⟨rfl, ?_⟩
                  (repeat' (with_reducible (first | exact Below.refl _ _ | apply Below.setCell | apply Below.alloc | apply below_drewN | apply Below.drew | refine Below.trans ?_ (Below.mono (by assumption) ?_)))) <;> (first | exact Nat.le_refl _ | (simp; done) | (simp; omega) | (simp at *; omega))
end Go.Proofs.Ytfiailnlkhonnaa
