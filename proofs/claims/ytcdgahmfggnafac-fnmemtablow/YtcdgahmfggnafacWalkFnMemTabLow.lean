/-
  The walk of the law FnMemTabLow.
-/
import Derived.Test.YtcdgahmfggnafacWalkFnMemTwice
import Derived.Test.YtcdgahmfggnafacMemTab0
import Derived.Deep.RegionHeld3
namespace Go.Proofs.Ytcdgahmfggnafac
open Go.RowKit

theorem tabM_put {ms : List (List Int)} {P O : Nat} (z : Int) (hP : P < ms.length) (h4 : (ms.getD P []).length = 4) (hO : O < 4) (k : Nat) (hk : k < 6) :
    (tabM (putM ms P O z)).getD k (false, 0, false) = if k = P * 4 + O then entE z else (tabM ms).getD k (false, 0, false) := by
  rw [tabM_get _ k hk, tabM_get _ k hk, atM_put z hP h4 hO]
  by_cases h : k = P * 4 + O
  · rw [if_pos h, if_pos (by omega)]
  · rw [if_neg h, if_neg (by omega)]

set_option maxHeartbeats 80000000 in
theorem walk_FnMemTabLow (a0 : Option Addr) (len0 cap0 : Nat) (z0 : List Int) (w : World) (w0 : IsRow .u8 w a0 len0 cap0 z0) :
    Calls Try.prog 8 #[.slice a0 len0 cap0] w fun e w' => e = .returned (.bool true) ∧ Below w.heap.size w w' := by
  by_cases hbig : (1048576 : Int) < (len0 : Int)
  · go_enter Try.func8, Try.ntmps8
    go_wp2
    go_ret
    exact ⟨rfl, Below.refl _ _⟩
  go_enter Try.func8, Try.ntmps8
  go_wp2_with (fail)
  refine (drawMemWith a0 len0 cap0 z0 _ w0).mono ?_
  rintro e v2 ⟨a, n, c, ms, P, O, z, rfl, ⟨hM2, hn6, h4⟩, _, _, _, B02⟩
  have hn : n ≤ 1048576 := by omega
  have hL : ∀ i, i < n → (ms.getD i []).length ≤ 1048576 := fun i hi => by have := h4 i hi; omega
  have hlm := hM2.1
  have hwl := withM_len ms P O z
  have hw4 := withM_four ms P O z
  go_wp2_with (fail)
  refine (specMemWith _ _ a n c ms P O z _ hM2 (Nat.le_refl _) hn hL).mono ?_
  rintro e v3 ⟨aw, cw, rfl, Mw, B3⟩
  have B03 := B02.trans (B3.mono B02.size)
  have s3 : v2.heap.size ≤ v3.heap.size := B3.size
  have hM3 := hM2.same (below_sameIn B3 (Nat.le_refl _))
  have Mw := Mw.mem
  go_wp2_with (fail)
  refine (implMemWith _ _ a n c ms P O z _ hM3 s3 hn).mono ?_
  rintro e v4 ⟨ax, cx, rfl, Mx, B4⟩
  have B04 := B03.trans (B4.mono B03.size)
  have hM4 := hM3.same (below_sameIn B4 s3)
  have Mw4 := Mw.same (below_sameIn B4 (Nat.le_refl _))
  have s4 : v2.heap.size ≤ v4.heap.size := Nat.le_trans s3 B4.size
  have Mx := Mx.mem
  have t4 : v3.heap.size ≤ v4.heap.size := B4.size
  go_wp2_with (fail)
  refine (lkMem_same _ _ _ _ _ _ (withM ms P O z).length _ _ (withM ms P O z) _ Mx Mw4 (Nat.le_refl _) t4 (by omega) (fun i hi => by rw [hw4 i hi]; omega)).mono ?_
  rintro e v5 ⟨rfl, B5⟩
  have B05 := B04.trans (B5.mono B04.size)
  have t5 : v4.heap.size ≤ v5.heap.size := B5.size
  have Mw5 := Mw4.same (below_sameIn B5 t4)
  have Mx5 := Mx.same (below_sameIn B5 (Nat.le_refl _))
  have hM5 := hM4.same (below_sameIn B5 s4)
  clear B3 B4 B5 B02 B03 B04 hM2 hM3 hM4 Mw Mw4 Mx
  cases hw : withB ms P O z
  · go_wp2_with (fail)
    refine (lkMem_same _ _ _ _ _ _ (withM ms P O z).length _ _ (withM ms P O z) _ Mx5 Mw5 (by omega) (by omega) (by omega) (fun i hi => by rw [hw4 i hi]; omega)).mono ?_
    rintro e v6 ⟨rfl, B6⟩
    go_wp2
    go_ret
    exact ⟨rfl, B05.trans (B6.mono B05.size)⟩
  · by_cases hn6' : n = 6
    · subst hn6'
      obtain ⟨P', O', e1, e2, hP, hO⟩ := withB_nat hw
      obtain rfl : P = P' := by omega
      obtain rfl : O = O' := by omega
      rw [show withM ms P O z = putM ms P O z by rw [withM, hw]; rfl] at Mx5
      rw [putM_len, hlm] at Mx5
      rw [show (withM ms P O z).length = 6 by rw [withM, hw]; exact (putM_len _ _ _ _).trans hlm]
      have hok := withB_ok hw
      have hokx : okM (putM ms P O z) = true := okM_put hok (by omega) (by simp only [withB, Bool.and_eq_true] at hw; exact hw.2)
      have hg := tabM_put (ms := ms) (P := P) (O := O) z (by omega) ((okM_get hok (by omega)).1) hO
      clear Mw5 hwl hw4 e1 e2
      go_wp2_with (fail)
      refine (implMemTab_yes _ _ a c ms _ hM5 (by omega) hok).mono ?_
      rintro e v6 ⟨Ta, rfl, hTa, lTa, Ea, _, B6⟩
      have B06 := B05.trans (B6.mono B05.size)
      have Mx6 := Mx5.same (below_sameIn B6 t5)
      have t6 : v5.heap.size ≤ v6.heap.size := B6.size
      clear B6 Mx5 hM5
      go_wp2_with (fail)
      refine (implMemTab_yes _ _ ax cx (putM ms P O z) _ Mx6 (by omega) hokx).mono ?_
      rintro e v7 ⟨Tb, rfl, hTb, lTb, Eb, _, B7⟩
      have B07 := B06.trans (B7.mono B06.size)
      have Ea := Ea.below B7 lTa
      have lTa : Ta < v7.heap.size := Nat.lt_of_lt_of_le lTa B7.size
      clear B7 Mx6
      have hEn : ∀ w, Calls Try.prog 25 #[.int .i64 z] w fun e w' => e = .returned (.agg #[.bool (inW z), .int .i64 (pgW z), .bool (wrW z)]) ∧ Below w.heap.size w w' := fun w => implEntryOf z w
      go_wp2
      go_loopw [13] (fun i wr => ∃ k : Nat, k ≤ 6 ∧ i = .int .i64 k ∧ Below v7.heap.size v7 wr) (fun i _ => 6 - (intOf i).toNat)
      case atStart => exact ⟨0, Nat.zero_le _, rfl, Below.refl _ _⟩
      case round =>
        obtain ⟨k, hk, rfl, hB⟩ := hrel
        by_cases hkl : k < 6
        · obtain ⟨q0, q1, q2⟩ := Ea k (by rw [tabM_len]; exact hkl)
          obtain ⟨r0, r1, r2⟩ := Eb k (by rw [tabM_len]; exact hkl)
          have hgk := hg k hkl
          simp only [Nat.zero_add] at q0 q1 q2 r0 r1 r2
          generalize (tabM ms).getD k (false, 0, false) = ea at q0 q1 q2 hgk
          generalize (tabM (putM ms P O z)).getD k (false, 0, false) = eb at r0 r1 r2 hgk
          have c0 := (hB.cell (p := ⟨Ta, k * 3, none⟩) lTa).trans q0
          have c1 := (hB.cell (p := ⟨Ta, k * 3 + 1, none⟩) lTa).trans q1
          have c2 := (hB.cell (p := ⟨Ta, k * 3 + 2, none⟩) lTa).trans q2
          have d0 := (hB.cell (p := ⟨Tb, k * 3, none⟩) lTb).trans r0
          have d1 := (hB.cell (p := ⟨Tb, k * 3 + 1, none⟩) lTb).trans r1
          have d2 := (hB.cell (p := ⟨Tb, k * 3 + 2, none⟩) lTb).trans r2
          have hki : (k : Int) < 6 := by omega
          clear q0 q1 q2 r0 r1 r2
          by_cases hE : ea = eb
          · subst hE
            clear hgk hEn
            obtain ⟨eh, ep, ew⟩ := ea
            go_wp2_with (fail)
            go_quiet (fail)
            go_wp2
            go_roundw
            case rel =>
              refine ⟨k + 1, by omega, by go_num, ?_⟩
              (repeat' (with_reducible (first | exact Below.refl _ _ | apply Below.setCell | apply Below.alloc | apply below_drewN | apply Below.drew | refine Below.trans ?_ (Below.mono (by assumption) ?_)))) <;> (first | exact Nat.le_refl _ | (simp; done) | (simp; omega) | (simp at *; omega))
            case measure => simp [intOf]; omega
          · have hkk : k = P * 4 + O := by
              by_cases h : k = P * 4 + O
              · exact h
              · rw [if_neg h] at hgk
                exact absurd hgk.symm hE
            rw [if_pos hkk] at hgk
            obtain ⟨eh, ep, ew⟩ := ea
            obtain ⟨fh, fp, fw⟩ := eb
            have hz' : inW z = fh ∧ pgW z = fp ∧ wrW z = fw := by simpa [entE] using hgk.symm
            obtain ⟨z1, z2, z3⟩ := hz'
            rw [z1, z2, z3] at hEn
            have e94 : IntKind.i64.wrap ((P : Int) * 4) = (P : Int) * 4 := wrap_small _ (by omega) (by omega)
            have e96 : IntKind.i64.wrap ((P : Int) * 4 + (O : Int)) = (k : Int) := by
              rw [show (P : Int) * 4 + (O : Int) = (k : Int) by omega]
              exact wrap_small _ (by omega) (by omega)
            have lTb' : Tb < wr.heap.size := Nat.lt_of_lt_of_le lTb hB.size
            have lTa' : Ta < wr.heap.size := Nat.lt_of_lt_of_le lTa hB.size
            clear hgk z1 z2 z3 hkk
            have hthree : ¬ eh = fh ∨ (eh = fh ∧ ¬ ep = fp) ∨ (eh = fh ∧ ep = fp ∧ ¬ ew = fw) := by
              by_cases h1 : eh = fh
              · by_cases h2 : ep = fp
                · by_cases h3 : ew = fw
                  · exact absurd (by rw [h1, h2, h3]) hE
                  · exact Or.inr (Or.inr ⟨h1, h2, h3⟩)
                · exact Or.inr (Or.inl ⟨h1, h2⟩)
              · exact Or.inl h1
            have hEn' : ∀ W : World, Ta < W.heap.size → Tb < W.heap.size → (fun w' : World => w'.cell? ⟨Ta, k * 3, none⟩ = some (.bool eh) ∧ w'.cell? ⟨Ta, k * 3 + 1, none⟩ = some (.int .i64 ep) ∧ w'.cell? ⟨Ta, k * 3 + 2, none⟩ = some (.bool ew) ∧ w'.cell? ⟨Tb, k * 3, none⟩ = some (.bool fh) ∧ w'.cell? ⟨Tb, k * 3 + 1, none⟩ = some (.int .i64 fp) ∧ w'.cell? ⟨Tb, k * 3 + 2, none⟩ = some (.bool fw)) W → Calls Try.prog 25 #[.int .i64 z] W fun e w' => e = .returned (.agg #[.bool fh, .int .i64 fp, .bool fw]) ∧ (w'.cell? ⟨Ta, k * 3, none⟩ = some (.bool eh) ∧ w'.cell? ⟨Ta, k * 3 + 1, none⟩ = some (.int .i64 ep) ∧ w'.cell? ⟨Ta, k * 3 + 2, none⟩ = some (.bool ew) ∧ w'.cell? ⟨Tb, k * 3, none⟩ = some (.bool fh) ∧ w'.cell? ⟨Tb, k * 3 + 1, none⟩ = some (.int .i64 fp) ∧ w'.cell? ⟨Tb, k * 3 + 2, none⟩ = some (.bool fw)) ∧ Below W.heap.size W w' := fun W hA hB hS => by
              refine (hEn W).mono ?_
              rintro e w' ⟨rfl, B⟩
              obtain ⟨s0, s1, s2, s3, s4, s5⟩ := hS
              exact ⟨rfl, ⟨(B.cell (p := ⟨Ta, k * 3, none⟩) hA).trans s0, (B.cell (p := ⟨Ta, k * 3 + 1, none⟩) hA).trans s1, (B.cell (p := ⟨Ta, k * 3 + 2, none⟩) hA).trans s2, (B.cell (p := ⟨Tb, k * 3, none⟩) hB).trans s3, (B.cell (p := ⟨Tb, k * 3 + 1, none⟩) hB).trans s4, (B.cell (p := ⟨Tb, k * 3 + 2, none⟩) hB).trans s5⟩, B⟩
            clear hEn hE
            rcases hthree with h1 | ⟨rfl, h2⟩ | ⟨rfl, rfl, h3⟩
            · go_wp2_with (fail)
              go_region_held3 (fun w' => w'.cell? ⟨Ta, k * 3, none⟩ = some (.bool eh) ∧ w'.cell? ⟨Ta, k * 3 + 1, none⟩ = some (.int .i64 ep) ∧ w'.cell? ⟨Ta, k * 3 + 2, none⟩ = some (.bool ew) ∧ w'.cell? ⟨Tb, k * 3, none⟩ = some (.bool fh) ∧ w'.cell? ⟨Tb, k * 3 + 1, none⟩ = some (.int .i64 fp) ∧ w'.cell? ⟨Tb, k * 3 + 2, none⟩ = some (.bool fw)) (go_keep) (first | (go_at_call 25; refine (hEn' _ ?_ ?_ ?_).mono ?_; (first | exact lTa' | (simp; omega)); (first | exact lTb' | (simp; omega)); (simp [*]); rintro e w9 ⟨rfl, ⟨s0, s1, s2, s3, s4, s5⟩, B9⟩))
              all_goals
                go_wp2
                go_roundw
                case rel =>
                  have hBs := hB.size
                  refine ⟨k + 1, by omega, by go_num, ?_⟩
                  (repeat' (with_reducible (first | exact Below.refl _ _ | apply Below.setCell | apply Below.alloc | apply below_drewN | apply Below.drew | refine Below.trans ?_ (Below.mono (by assumption) ?_)))) <;> (first | exact Nat.le_refl _ | (simp; done) | (simp; omega) | (simp at *; omega))
                case measure => simp [intOf]; omega
            · go_wp2_with (fail)
              go_region_held3 (fun w' => w'.cell? ⟨Ta, k * 3, none⟩ = some (.bool eh) ∧ w'.cell? ⟨Ta, k * 3 + 1, none⟩ = some (.int .i64 ep) ∧ w'.cell? ⟨Ta, k * 3 + 2, none⟩ = some (.bool ew) ∧ w'.cell? ⟨Tb, k * 3, none⟩ = some (.bool eh) ∧ w'.cell? ⟨Tb, k * 3 + 1, none⟩ = some (.int .i64 fp) ∧ w'.cell? ⟨Tb, k * 3 + 2, none⟩ = some (.bool fw)) (go_keep) (first | (go_at_call 25; refine (hEn' _ ?_ ?_ ?_).mono ?_; (first | exact lTa' | (simp; omega)); (first | exact lTb' | (simp; omega)); (simp [*]); rintro e w9 ⟨rfl, ⟨s0, s1, s2, s3, s4, s5⟩, B9⟩))
              all_goals
                go_wp2
                go_roundw
                case rel =>
                  have hBs := hB.size
                  refine ⟨k + 1, by omega, by go_num, ?_⟩
                  (repeat' (with_reducible (first | exact Below.refl _ _ | apply Below.setCell | apply Below.alloc | apply below_drewN | apply Below.drew | refine Below.trans ?_ (Below.mono (by assumption) ?_)))) <;> (first | exact Nat.le_refl _ | (simp; done) | (simp; omega) | (simp at *; omega))
                case measure => simp [intOf]; omega
            · go_wp2_with (fail)
              go_region_held3 (fun w' => w'.cell? ⟨Ta, k * 3, none⟩ = some (.bool eh) ∧ w'.cell? ⟨Ta, k * 3 + 1, none⟩ = some (.int .i64 ep) ∧ w'.cell? ⟨Ta, k * 3 + 2, none⟩ = some (.bool ew) ∧ w'.cell? ⟨Tb, k * 3, none⟩ = some (.bool eh) ∧ w'.cell? ⟨Tb, k * 3 + 1, none⟩ = some (.int .i64 ep) ∧ w'.cell? ⟨Tb, k * 3 + 2, none⟩ = some (.bool fw)) (go_keep) (first | (go_at_call 25; refine (hEn' _ ?_ ?_ ?_).mono ?_; (first | exact lTa' | (simp; omega)); (first | exact lTb' | (simp; omega)); (simp [*]); rintro e w9 ⟨rfl, ⟨s0, s1, s2, s3, s4, s5⟩, B9⟩))
              all_goals
                go_wp2
                go_roundw
                case rel =>
                  have hBs := hB.size
                  refine ⟨k + 1, by omega, by go_num, ?_⟩
                  (repeat' (with_reducible (first | exact Below.refl _ _ | apply Below.setCell | apply Below.alloc | apply below_drewN | apply Below.drew | refine Below.trans ?_ (Below.mono (by assumption) ?_)))) <;> (first | exact Nat.le_refl _ | (simp; done) | (simp; omega) | (simp at *; omega))
                case measure => simp [intOf]; omega
        · go_wp2
          go_ret
          exact ⟨rfl, B07.trans (hB.mono B07.size)⟩
    · have h6 : ((n : Int) == 6) = false := by simp; omega
      go_wp2_with (fail)
      refine (lkMem_same _ _ _ _ _ _ (withM ms P O z).length _ _ (withM ms P O z) _ Mx5 Mw5 (by omega) (by omega) (by omega) (fun i hi => by rw [hw4 i hi]; omega)).mono ?_
      rintro e v6 ⟨rfl, B6⟩
      go_wp2
      go_ret
      exact ⟨rfl, B05.trans (B6.mono B05.size)⟩
end Go.Proofs.Ytcdgahmfggnafac
