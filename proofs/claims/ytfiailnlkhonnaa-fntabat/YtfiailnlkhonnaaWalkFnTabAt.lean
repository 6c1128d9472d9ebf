/-
  The walk of the law FnTabAt.
-/
import Derived.Test.YtfiailnlkhonnaaDrawTab1
import Derived.Test.YtfiailnlkhonnaaTabAt0
import Derived.Deep.DeepCutAuto
namespace Go.Proofs.Ytfiailnlkhonnaa
open Go.RowKit

set_option maxHeartbeats 1000000 in
theorem drawTabAt (a : Option Addr) (len cap : Nat) (zs : List Int) (w : World) (h : IsRow .u8 w a len cap zs) :
    Calls Try.prog 14 #[.slice a len cap] w fun e w' => ∃ (ba oa la ca : Nat) (ea : List E3) (page : Int),
      e = .returned (.tuple #[.slice (some ⟨ba, oa, none⟩) la ca, .int .i64 page]) ∧ ea.length = la ∧ la ≤ 6 ∧ ba < w'.heap.size ∧ Ents w' ba oa ea ∧ -10 ≤ page ∧ page ≤ 10 ∧ Below w.heap.size w w' := by
  go_enter Try.func14, Try.ntmps14
  go_wp2_with (fail)
  refine (open_any a len cap zs _ h).mono ?_
  rintro e w' ⟨rfl, len', hl, rfl⟩
  go_wp2_with (fail)
  have hr := rd_new h hl 0 53
  refine (drawTab w.heap.size 0 _ hr (by omega)).mono ?_
  rintro e w1 ⟨ba, oa, la, ca, ea, k1, rfl, hla, ma, t1, t2, E1, hr1, hk1, ha1⟩
  simp at t1
  clear hr
  have hr := hr1
  have hB1 : Below w.heap.size w w1 := ((Below.refl w.heap.size w).alloc (Nat.le_refl _) _).trans (ha1.below (Nat.le_refl _) (by simp))
  go_wp2_with (fail)
  refine (pick_any w.heap.size k1 _ _ hr (by omega) (by omega) (by omega)).mono ?_
  rintro e w' ⟨p1, m1, rfl, _, _, rfl⟩
  go_wp2_with (fail)
  refine (pick_any w.heap.size (k1 + 1) _ _ ?hr (by omega) (by omega) (by omega)).mono ?_
  case hr => (repeat' (with_reducible (first | exact hr | exact hr.toA | apply Rd.drewN | apply Rd.drew | apply Rd.alloc | apply Rd.stepZ | apply Rd.other | apply RdA.drewN | apply RdA.drew | apply RdA.alloc | apply RdA.step1 | apply RdA.step2 | apply RdA.other))) <;> (first | omega | (simp; done) | (simp; omega))
  rintro e w' ⟨p2, m2, rfl, _, _, rfl⟩
  go_wp2_with (fail)
  refine (pick_any w.heap.size (k1 + 2) _ _ ?hr (by omega) (by omega) (by omega)).mono ?_
  case hr => (repeat' (with_reducible (first | exact hr | exact hr.toA | apply Rd.drewN | apply Rd.drew | apply Rd.alloc | apply Rd.stepZ | apply Rd.other | apply RdA.drewN | apply RdA.drew | apply RdA.alloc | apply RdA.step1 | apply RdA.step2 | apply RdA.other))) <;> (first | omega | (simp; done) | (simp; omega))
  rintro e w' ⟨p3, m3, rfl, _, _, rfl⟩
  go_wp2
  go_ret2
  refine ⟨ba, oa, la, ca, ea, _, rfl, hla, ma, ?_, ?_, by omega, by omega, ?_⟩
  · simpa using t2
  · refine E1.adv (rb := w.heap.size) ?_ t2 (by omega)
    (repeat' (with_reducible (first | exact Adv.refl _ _ | apply Adv.drewN | apply Adv.drew | apply Adv.alloc | apply Adv.setCell))) <;> (first | exact Or.inl rfl | (refine Or.inr ?_; simp; done) | (refine Or.inr ?_; simp; omega))
  · refine hB1.trans (Adv.below (rb := w.heap.size) ?_ (Nat.le_refl _) hB1.size)
    (repeat' (with_reducible (first | exact Adv.refl _ _ | apply Adv.drewN | apply Adv.drew | apply Adv.alloc | apply Adv.setCell))) <;> (first | exact Or.inl rfl | (refine Or.inr ?_; simp; done) | (refine Or.inr ?_; simp; omega))

theorem atE_out (ea : List E3) (page : Int) (h : page < 0 ∨ 6 ≤ page) : atE ea page = (false, 0, false) := by
  unfold atE
  rcases h with h | h
  · have : ¬ 0 ≤ page := by omega
    simp [this]
  · have : ¬ page ≤ 5 := by omega
    simp [this]
theorem atE_at (ea : List E3) (k : Nat) (hl : ea.length = 6) (h : ea.all okE = true) (hk : k < 6) : atE ea (k : Int) = ea.getD k (false, 0, false) := by
  unfold atE
  have : (k : Int) ≤ 5 := by omega
  rw [h, hl]
  simp [this]

/-- A block that holds one entry. -/
def HoldsE (w : World) (A : Nat) (h : Bool) (p : Int) (b : Bool) : Prop := w.cell? ⟨A, 0, none⟩ = some (.bool h) ∧ w.cell? ⟨A, 1, none⟩ = some (.int .i64 p) ∧ w.cell? ⟨A, 2, none⟩ = some (.bool b)
theorem HoldsE.below {N : Nat} {w w' : World} {A : Nat} {h : Bool} {p : Int} {b : Bool} (H : HoldsE w A h p b) (hb : Below N w w') (hN : w.heap.size ≤ N) : HoldsE w' A h p b :=
  have hA := Nat.lt_of_lt_of_le (World.block_lt_of_cell? _ _ H.1) hN
  ⟨(hb.cell (p := ⟨A, 0, none⟩) hA).trans H.1, (hb.cell (p := ⟨A, 1, none⟩) hA).trans H.2.1, (hb.cell (p := ⟨A, 2, none⟩) hA).trans H.2.2⟩
theorem HoldsE.drew {w : World} {A : Nat} {h : Bool} {p : Int} {b : Bool} (H : HoldsE w A h p b) : HoldsE w.drew A h p b := H

set_option maxHeartbeats 4000000 in
theorem walk_FnTabAt (a0 : Option Addr) (len0 cap0 : Nat) (z0 : List Int) (w : World) (w0 : IsRow .u8 w a0 len0 cap0 z0) :
    Calls Try.prog 6 #[.slice a0 len0 cap0] w fun e w' => e = .returned (.bool true) ∧ Below w.heap.size w w' := by
  by_cases hbig : (1048576 : Int) < (len0 : Int)
  · go_enter Try.func6, Try.ntmps6
    go_wp2
    go_ret
    exact ⟨rfl, Below.refl _ _⟩
  go_enter Try.func6, Try.ntmps6
  go_wp2_with (fail)
  refine (drawTabAt a0 len0 cap0 z0 _ w0).mono ?_
  rintro e v1 ⟨ba, oa, la, ca, ea, page, rfl, hla, ma, ta, Ea, pg0, pg1, B1⟩
  clear w0
  generalize hX : atE ea page = X
  have hS : ∀ W, Below v1.heap.size v1 W → Calls Try.prog 16 #[.slice (some ⟨ba, oa, none⟩) la ca, .int .i64 page] W fun e w' => e = .returned (entV X) ∧ Below W.heap.size W w' := fun W hW => by
    rw [← hX]; exact specTabAt ba oa la ca ea page W hla (by omega) (Nat.lt_of_lt_of_le ta hW.size) (Ea.below hW ta)
  have hO : ∀ W, Below v1.heap.size v1 W → Calls Try.prog 10 #[.slice (some ⟨ba, oa, none⟩) la ca] W fun e w' => e = .returned (.bool (ea.all okE && ((la : Int) == 6))) ∧ Below W.heap.size W w' := fun W hW =>
    specTabOk ba oa la ca ea W hla (by omega) (Nat.lt_of_lt_of_le ta hW.size) (Ea.below hW ta)
  have hI := implTabAt ba oa la ca ea page v1 hla ta Ea
  rw [hX] at hI
  obtain ⟨eh, ep, ew⟩ := X
  simp only [entV] at hS hI
  go_wp2_with (fail)
  refine hI.mono ?_
  rintro e v2 ⟨rfl, B2⟩
  have hB : Below v1.heap.size v1 (v2.alloc (.cells #[.bool eh, .int .i64 ep, .bool ew] 24)) := B2.alloc B2.size _
  have HE : HoldsE (v2.alloc (.cells #[.bool eh, .int .i64 ep, .bool ew] 24)) v2.heap.size eh ep ew := ⟨by simp, by simp, by simp⟩
  clear hI B2
  cases hT : (ea.all okE && ((la : Int) == 6))
  · rw [hT] at hO
    go_wp2_with (fail)
    go_cut [26] (fun s wx => s = .bool true ∧ Below v1.heap.size v1 wx ∧ HoldsE wx v2.heap.size eh ep ew)
    case first =>
      go_region_with ((first | (go_at_call 16; refine (hS _ (by first | exact hB | exact hB.drew)).mono ?_) | (go_at_call 10; refine (hO _ (by first | exact hB | exact hB.drew)).mono ?_)); rintro e v4 ⟨rfl, b4⟩; have HE : HoldsE v4 v2.heap.size eh ep ew := (by first | exact HE.below b4 (Nat.le_refl _) | exact HE.drew.below b4 (Nat.le_refl _)); have hB : Below v1.heap.size v1 v4 := (by first | exact hB.trans (b4.mono hB.size) | exact hB.drew.trans (b4.mono hB.drew.size)); obtain ⟨j0, j1, j2⟩ := id HE)
      all_goals go_wp2_with fail
      all_goals go_meet
      all_goals exact ⟨rfl, hB, HE⟩
    case rest =>
      clear hB HE
      obtain ⟨rfl, hB, HE⟩ := hcut
      obtain ⟨j0, j1, j2⟩ := id HE
      go_wp2_with (fail)
      go_region_with (go_at_call 16; refine (hS _ (by first | exact hB | exact hB.drew)).mono ?_; rintro e v5 ⟨rfl, b5⟩; have HE : HoldsE v5 v2.heap.size eh ep ew := (by first | exact HE.below b5 (Nat.le_refl _) | exact HE.drew.below b5 (Nat.le_refl _)); have hB : Below v1.heap.size v1 v5 := (by first | exact hB.trans (b5.mono hB.size) | exact hB.drew.trans (b5.mono hB.drew.size)); obtain ⟨k0, k1, k2⟩ := id HE)
      all_goals
        go_wp2
        go_ret
        exact ⟨rfl, B1.trans (hB.mono B1.size)⟩
  · rw [hT] at hO
    go_wp2_with (fail)
    go_cut [26] (fun s wx => s = .bool false ∧ Below v1.heap.size v1 wx ∧ HoldsE wx v2.heap.size eh ep ew)
    case first =>
      go_region_with ((first | (go_at_call 16; refine (hS _ (by first | exact hB | exact hB.drew)).mono ?_) | (go_at_call 10; refine (hO _ (by first | exact hB | exact hB.drew)).mono ?_)); rintro e v4 ⟨rfl, b4⟩; have HE : HoldsE v4 v2.heap.size eh ep ew := (by first | exact HE.below b4 (Nat.le_refl _) | exact HE.drew.below b4 (Nat.le_refl _)); have hB : Below v1.heap.size v1 v4 := (by first | exact hB.trans (b4.mono hB.size) | exact hB.drew.trans (b4.mono hB.drew.size)); obtain ⟨j0, j1, j2⟩ := id HE)
      all_goals go_wp2_with fail
      all_goals go_meet
      all_goals exact ⟨rfl, hB, HE⟩
    case rest =>
      clear hB HE
      obtain ⟨rfl, hB, HE⟩ := hcut
      obtain ⟨j0, j1, j2⟩ := id HE
      by_cases p0 : page < 0
      · have hXE : (eh, ep, ew) = (false, 0, false) := by rw [← hX]; exact atE_out ea page (Or.inl p0)
        simp only [Prod.mk.injEq] at hXE
        obtain ⟨rfl, rfl, rfl⟩ := hXE
        go_wp2
        go_ret
        exact ⟨rfl, B1.trans (hB.mono B1.size)⟩
      · by_cases p6 : 6 ≤ page
        · have hXE : (eh, ep, ew) = (false, 0, false) := by rw [← hX]; exact atE_out ea page (Or.inr p6)
          simp only [Prod.mk.injEq] at hXE
          obtain ⟨rfl, rfl, rfl⟩ := hXE
          go_wp2
          go_ret
          exact ⟨rfl, B1.trans (hB.mono B1.size)⟩
        · obtain ⟨k, rfl⟩ := Int.eq_ofNat_of_zero_le (show 0 ≤ page by omega)
          have hla6 : la = 6 := by have := (Bool.and_eq_true _ _).mp hT |>.2; simp at this; omega
          subst hla6
          obtain ⟨q0, q1, q2⟩ := Ea k (by omega)
          have hG : ea.getD k (false, 0, false) = (eh, ep, ew) := by rw [← hX, atE_at ea k hla (by simpa using ((Bool.and_eq_true _ _).mp hT).1) (by omega)]
          rw [hG] at q0 q1 q2
          have d0 := (hB.cell (p := ⟨ba, oa + k * 3, none⟩) ta).trans q0
          have d1 := (hB.cell (p := ⟨ba, oa + k * 3 + 1, none⟩) ta).trans q1
          have d2 := (hB.cell (p := ⟨ba, oa + k * 3 + 2, none⟩) ta).trans q2
          have hki : (k : Int) < 6 := by omega
          clear q0 q1 q2 hG hS hO hX
          go_wp2_with (fail)
          go_quiet (fail)
          go_wp2
          go_ret
          exact ⟨rfl, below_drewN (B1.trans (hB.mono B1.size)) _⟩
end Go.Proofs.Ytfiailnlkhonnaa
