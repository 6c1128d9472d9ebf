/-
  The walk of the law FnLoadBad.
-/
import Derived.Test.YtdamdjhnhkmncaaKHostDraw1
import Derived.Test.YtdamdjhnhkmncaaKLoadPure0
import Derived.Test.YtdamdjhnhkmncaaKLkHost1
import Derived.Test.YtdamdjhnhkmncaaKWalkFnExactHostOk
set_option linter.unusedSimpArgs false
namespace Go.Proofs.Ytdamdjhnhkmncaa
open Go.RowKit
attribute [local go_sem ↓] Go.wp_at_zero Go.wp_at_succ exec_app
attribute [local go_sem] bigNext_ok
set_option maxRecDepth 100000 in
set_option maxHeartbeats 8000000 in
theorem walk_FnLoadBad (a0 : Option Addr) (len0 cap0 : Nat) (z0 : List Int) (w : World) (w0 : IsRow .u8 w a0 len0 cap0 z0) :
    Calls Try.prog 4 #[.slice a0 len0 cap0] w fun e w' => e = .returned (.bool true) ∧ Below w.heap.size w w' := by
  by_cases hbig : (1048576 : Int) < (len0 : Int)
  · go_enter Try.func4, Try.ntmps4
    go_wp2
    go_ret
    exact ⟨rfl, Below.refl _ _⟩
  go_enter Try.func4, Try.ntmps4
  go_wp2_with (fail)
  refine (drawHostLoad a0 len0 cap0 z0 _ w0).mono ?_
  rintro e v1 ⟨T, o, n, c, ms, rfl, hn0, hn12, hnc, hI, hL, B1⟩
  have s1 := B1.size
  have hms := hI.1
  have hSp := specLoadG _ _ _ n c ms v1 hI (Nat.le_refl _) (by omega) hnc (fun i hi => by have := hL i hi; omega)
  have hIm := fun W (B : Below v1.heap.size v1 W) => implLoadG _ _ _ n c ms W (hI.same (below_sameIn B (Nat.le_refl _))) B.size (by omega)
  have hhand := load_hand ms
  have hx0 := (shaped_load (ms := ms)).small
  obtain ⟨hx, hhx⟩ : ∃ hx, hx = loadH ms := ⟨_, rfl⟩
  obtain ⟨ob, hob⟩ : ∃ ob, ob = loadB ms := ⟨_, rfl⟩
  rw [← hhx, ← hob] at hSp hIm
  rw [← hhx] at hhand hx0
  replace hhx := hidE hhx
  replace hob := hidE hob
  replace hI := hidE hI
  replace hL := hidE hL
  replace B1 := hidE B1
  go_wp2_with (fail)
  refine hSp.mono ?_
  rintro e v2 ⟨aw, lw, cw, bw, mw, dw, rfl, Ow, B2⟩
  rw [hhand]
  have s2 := B2.size
  have B02 := hidE (B1.out.trans (B2.mono s1))
  clear hSp
  obtain ⟨W2, hW2⟩ : ∃ W2, W2 = v2.alloc (.cells #[.slice aw lw cw, .slice bw mw dw, .int .i64 0] 27) := ⟨_, rfl⟩
  have C2 : Below v2.heap.size v2 W2 := by rw [hW2]; exact (Below.refl _ _).alloc (Nat.le_refl _) _
  have t2 : W2.heap.size = v2.heap.size + 1 := by rw [hW2]; simp
  have hV2 : Hid (W2.cell? ⟨v2.heap.size, 0, none⟩ = some (.slice aw lw cw) ∧ W2.cell? ⟨v2.heap.size, 1, none⟩ = some (.slice bw mw dw) ∧ W2.cell? ⟨v2.heap.size, 2, none⟩ = some (.int .i64 0)) := by rw [hW2]; simp [Hid]
  have BW2 := hidE (B2.trans (C2.mono s2))
  have Hw2 := hidE (Ow.host.belowK C2 (Nat.le_refl _))
  have hi2 := hIm W2 BW2.out
  clear hIm B2 C2 Ow
  go_wp2_with (fail)
  rw [← hW2]
  clear hW2
  refine hi2.mono ?_
  rintro e v3 ⟨ag, lg, cg, bg, mg, dg, rfl, Og, B3⟩
  rw [hhand]
  have s3 := B3.size
  obtain ⟨W3, hW3⟩ : ∃ W3, W3 = v3.alloc (.cells #[.slice ag lg cg, .slice bg mg dg, .int .i64 0] 27) := ⟨_, rfl⟩
  have C3 : Below v3.heap.size v3 W3 := by rw [hW3]; exact (Below.refl _ _).alloc (Nat.le_refl _) _
  have t3 : W3.heap.size = v3.heap.size + 1 := by rw [hW3]; simp
  have hU3 : Hid (W3.cell? ⟨v3.heap.size, 0, none⟩ = some (.slice ag lg cg) ∧ W3.cell? ⟨v3.heap.size, 1, none⟩ = some (.slice bg mg dg) ∧ W3.cell? ⟨v3.heap.size, 2, none⟩ = some (.int .i64 0)) := by rw [hW3]; simp [Hid]
  have B13 : Below v1.heap.size v1 W3 := BW2.out.trans ((B3.mono BW2.out.size).trans (C3.mono (by omega)))
  have BW3 := hidE (B1.out.trans (B13.mono s1))
  have hV3 := hidE (cells3 C3 (show v2.heap.size < v3.heap.size by omega) (cells3 B3 (show v2.heap.size < W2.heap.size by omega) hV2.out))
  have Hw3 := hidE ((Hw2.out.belowK B3 (by omega)).belowK C3 (by omega))
  have Hg3 := hidE (Og.host.belowK C3 (Nat.le_refl _))
  have HI3 := hidE (hI.out.same (below_sameIn B13 (Nat.le_refl _)))
  have hgl := hidE (show hx.guests.length = mg ∧ hx.frames.length = lg by
    obtain ⟨_, _, _, _, ea, _, _, _, _, _, eb, _⟩ := Og
    exact ⟨(Value.slice.inj eb).2.1.symm, (Value.slice.inj ea).2.1.symm⟩)
  have hlk := lkHost_same _ _ _ _ _ _ _ _ hx W3 Hg3.out Hw3.out (by omega) (by omega) hx0 0
  obtain ⟨x0, x1, x2⟩ := cells3 B3 (show v2.heap.size < W2.heap.size by omega) hV2.out
  have l23 : v2.heap.size < v3.heap.size := by omega
  clear hi2 B3 C3 BW2 hV2 Hw2 B02 Og hI B1 B13
  have hNil := hidE (fun (W : World) => (show Calls Try.prog 14 #[.slice none 0 0] W fun e w' => ∃ a1 l1 c1 a2 l2 c2, e = .returned (.tuple #[.agg #[.slice a1 l1 c1, .slice a2 l2 c2, .int .i64 0], .bool false]) ∧ Below W.heap.size W w' by
    have h := implLoadG 0 0 none 0 0 [] W ⟨rfl, Or.inl rfl⟩ (Nat.zero_le _) (by omega)
    rw [show loadB [] = false from rfl] at h
    refine h.mono ?_
    rintro e w' ⟨a1, l1, c1, a2, l2, c2, rfl, _, hB⟩
    exact ⟨a1, l1, c1, a2, l2, c2, rfl, hB⟩))
  go_wp2_with (fail)
  rw [← hW3]
  clear hW3
  refine hlk.mono ?_
  rintro e v4 ⟨rfl, B4⟩
  have s4 := B4.size
  have B04 := hidE (BW3.out.trans (B4.mono BW3.out.size))
  have HI4 := hidE (HI3.out.same (below_sameIn B4 (by omega)))
  clear hlk B4 BW3 hU3 hV3 Hg3 Hw3 x0 x1 x2 HI3
  have hMO := specMemOk _ _ _ n c ms v4 HI4.out (by omega) (fun i hi => by have := hL.out i hi; omega)
  have hob' := hidE (loadB_nat (ms := ms) hms)
  have hn0i : (0 : Int) < (n : Int) := by omega
  have hn12i : (n : Int) ≤ 12 := by omega
  go_wp2_with (fail)
  refine hMO.mono ?_
  rintro e w5 ⟨rfl, rfl⟩
  clear hMO
  cases hM : okM ms
  · have hb : ob = false := by
      rw [hob.out]
      cases h : loadB ms
      · rfl
      · obtain ⟨_, _, _, _, h4⟩ := hob'.out.1 h
        rw [hM] at h4; cases h4
    subst hb
    go_wp2_with (fail)
    refine (hNil.out _).mono ?_
    rintro e w6 ⟨a1, l1, c1, a2, l2, c2, rfl, B6⟩
    have HB6 := hidE (B04.out.trans (B6.mono B04.out.size))
    go_wp2
    go_ret
    exact ⟨rfl, HB6.out.alloc HB6.out.size _⟩
  · obtain ⟨r, hr⟩ : ∃ r, r = n % 6 := ⟨_, rfl⟩
    have hri : (n : Int) % 6 = (r : Int) := by omega
    have hrt : (n : Int).tmod 6 = (r : Int) := by rw [Int.tmod_eq_emod_of_nonneg (by omega)]; exact hri
    have hrw : IntKind.i64.wrap ((n : Int).tmod 6) = (r : Int) := by rw [hrt]; exact wrap_small _ (by omega) (by omega)
    have hrw2 : IntKind.i64.wrap (r : Int) = (r : Int) := wrap_small _ (by omega) (by omega)
    by_cases hr0 : r = 0
    · have hb : ob = true := by
        rw [hob.out]
        exact hob'.out.2 ⟨n / 6, by omega, by omega, by omega, hM⟩
      subst hb
      clear hr
      subst hr0
      have hless := hidE (fun (W : World) (B : Below w5.heap.size w5 W) => (show Calls Try.prog 14 #[.slice (some ⟨T, o + 1, none⟩) (n - 1) (c - 1)] W fun e w' => ∃ a1 l1 c1 a2 l2 c2, e = .returned (.tuple #[.agg #[.slice a1 l1 c1, .slice a2 l2 c2, .int .i64 0], .bool false]) ∧ Below W.heap.size W w' by
        have hI := IsMem.part (HI4.out.same (below_sameIn B (by omega))) (k := 1) (l := n - 1) (by omega)
        have h := implLoadG _ _ _ (n - 1) (c - 1) _ W hI (by have := B.size; omega) (by omega)
        have hf : loadB ((ms.drop 1).take (n - 1)) = false := by
          cases h : loadB ((ms.drop 1).take (n - 1))
          · rfl
          · obtain ⟨q, hq, _⟩ := (loadB_nat (ms := (ms.drop 1).take (n - 1)) (len := n - 1) (by rw [List.length_take, List.length_drop]; omega)).1 h
            omega
        rw [hf] at h
        refine h.mono ?_
        rintro e w' ⟨a1, l1, c1, a2, l2, c2, rfl, _, hB⟩
        exact ⟨a1, l1, c1, a2, l2, c2, by rw [load_hand], hB⟩))
      have hc1 : ¬ c = 1 := by omega
      have h1n : (1 : Int) ≤ (n : Int) := by omega
      have h1c : 1 ≤ n := by omega
      go_wp2_with (fail)
      refine (hNil.out _).mono ?_
      rintro e w6 ⟨a1, l1, c1, a2, l2, c2, rfl, B6⟩
      have B6' : Below w5.heap.size w5 (w6.alloc (.cells #[.slice a1 l1 c1, .slice a2 l2 c2, .int .i64 0] 27)) := B6.alloc B6.size _
      have HB6 := hidE (B04.out.trans (B6'.mono B04.out.size))
      have hls := hless.out _ B6'
      clear hless B6'
      go_wp2_with (fail)
      refine hls.mono ?_
      rintro e w7 ⟨a3, l3, c3, a4, l4, c4, rfl, B7⟩
      have HB7 := hidE (HB6.out.trans (B7.mono HB6.out.size))
      clear hls B7 B6
      go_wp2
      go_ret
      first | exact ⟨rfl, HB7.out⟩ | exact ⟨rfl, HB7.out.alloc HB7.out.size _⟩
    · have hb : ob = false := by
        rw [hob.out]
        cases h : loadB ms
        · rfl
        · obtain ⟨q, hq, _⟩ := hob'.out.1 h
          omega
      subst hb
      clear hr
      have hr1 : ¬ (r : Int) = 0 := by omega
      have hr2 : ((r : Int) == 0) = false := beq_eq_false_iff_ne.2 hr1
      go_wp2_with (fail)
      refine (hNil.out _).mono ?_
      rintro e w6 ⟨a1, l1, c1, a2, l2, c2, rfl, B6⟩
      have HB6 := hidE (B04.out.trans (B6.mono B04.out.size))
      go_wp2
      go_ret
      exact ⟨rfl, HB6.out.alloc HB6.out.size _⟩
end Go.Proofs.Ytdamdjhnhkmncaa
