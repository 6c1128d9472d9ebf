/-
  The walk of the law FnHostLoad.
-/
import Derived.Test.YtdamdjhnhkmncaaKHostDraw1
import Derived.Test.YtdamdjhnhkmncaaKLoadPure0
import Derived.Test.YtdamdjhnhkmncaaKLkHost1
import Derived.Test.YtdamdjhnhkmncaaKWalkFnExactHostOk
set_option linter.unusedSimpArgs false
namespace Go.Proofs.Ytdamdjhnhkmncaa
open Go.RowKit
attribute [local go_sem ↓] Go.wp_at_zero Go.wp_at_succ exec_app
attribute [local go_sem] bigNext_ok
set_option maxRecDepth 100000 in
set_option maxHeartbeats 8000000 in
theorem walk_FnHostLoad (a0 : Option Addr) (len0 cap0 : Nat) (z0 : List Int) (w : World) (w0 : IsRow .u8 w a0 len0 cap0 z0) :
    Calls Try.prog 3 #[.slice a0 len0 cap0] w fun e w' => e = .returned (.bool true) ∧ Below w.heap.size w w' := by
  by_cases hbig : (1048576 : Int) < (len0 : Int)
  · go_enter Try.func3, Try.ntmps3
    go_wp2
    go_ret
    exact ⟨rfl, Below.refl _ _⟩
  go_enter Try.func3, Try.ntmps3
  go_wp2_with (fail)
  refine (drawHostLoad a0 len0 cap0 z0 _ w0).mono ?_
  rintro e v1 ⟨T, o, n, c, ms, rfl, hn0, hn12, hnc, hI, hL, B1⟩
  have s1 := B1.size
  have hms := hI.1
  have hSp := specLoadG _ _ _ n c ms v1 hI (Nat.le_refl _) (by omega) hnc (fun i hi => by have := hL i hi; omega)
  have hIm := fun W (B : Below v1.heap.size v1 W) => implLoadG _ _ _ n c ms W (hI.same (below_sameIn B (Nat.le_refl _))) B.size (by omega)
  have hhand := load_hand ms
  have hx0 := (shaped_load (ms := ms)).small
  obtain ⟨hx, hhx⟩ : ∃ hx, hx = loadH ms := ⟨_, rfl⟩
  obtain ⟨ob, hob⟩ : ∃ ob, ob = loadB ms := ⟨_, rfl⟩
  rw [← hhx, ← hob] at hSp hIm
  rw [← hhx] at hhand hx0
  replace hhx := hidE hhx
  replace hob := hidE hob
  replace hI := hidE hI
  replace hL := hidE hL
  replace B1 := hidE B1
  go_wp2_with (fail)
  refine hSp.mono ?_
  rintro e v2 ⟨aw, lw, cw, bw, mw, dw, rfl, Ow, B2⟩
  rw [hhand]
  have s2 := B2.size
  have B02 := hidE (B1.out.trans (B2.mono s1))
  clear hSp
  obtain ⟨W2, hW2⟩ : ∃ W2, W2 = v2.alloc (.cells #[.slice aw lw cw, .slice bw mw dw, .int .i64 0] 27) := ⟨_, rfl⟩
  have C2 : Below v2.heap.size v2 W2 := by rw [hW2]; exact (Below.refl _ _).alloc (Nat.le_refl _) _
  have t2 : W2.heap.size = v2.heap.size + 1 := by rw [hW2]; simp
  have hV2 : Hid (W2.cell? ⟨v2.heap.size, 0, none⟩ = some (.slice aw lw cw) ∧ W2.cell? ⟨v2.heap.size, 1, none⟩ = some (.slice bw mw dw) ∧ W2.cell? ⟨v2.heap.size, 2, none⟩ = some (.int .i64 0)) := by rw [hW2]; simp [Hid]
  have BW2 := hidE (B2.trans (C2.mono s2))
  have Hw2 := hidE (Ow.host.belowK C2 (Nat.le_refl _))
  have hi2 := hIm W2 BW2.out
  clear hIm B2 C2 Ow
  go_wp2_with (fail)
  rw [← hW2]
  clear hW2
  refine hi2.mono ?_
  rintro e v3 ⟨ag, lg, cg, bg, mg, dg, rfl, Og, B3⟩
  rw [hhand]
  have s3 := B3.size
  obtain ⟨W3, hW3⟩ : ∃ W3, W3 = v3.alloc (.cells #[.slice ag lg cg, .slice bg mg dg, .int .i64 0] 27) := ⟨_, rfl⟩
  have C3 : Below v3.heap.size v3 W3 := by rw [hW3]; exact (Below.refl _ _).alloc (Nat.le_refl _) _
  have t3 : W3.heap.size = v3.heap.size + 1 := by rw [hW3]; simp
  have hU3 : Hid (W3.cell? ⟨v3.heap.size, 0, none⟩ = some (.slice ag lg cg) ∧ W3.cell? ⟨v3.heap.size, 1, none⟩ = some (.slice bg mg dg) ∧ W3.cell? ⟨v3.heap.size, 2, none⟩ = some (.int .i64 0)) := by rw [hW3]; simp [Hid]
  have B13 : Below v1.heap.size v1 W3 := BW2.out.trans ((B3.mono BW2.out.size).trans (C3.mono (by omega)))
  have BW3 := hidE (B1.out.trans (B13.mono s1))
  have hV3 := hidE (cells3 C3 (show v2.heap.size < v3.heap.size by omega) (cells3 B3 (show v2.heap.size < W2.heap.size by omega) hV2.out))
  have Hw3 := hidE ((Hw2.out.belowK B3 (by omega)).belowK C3 (by omega))
  have Hg3 := hidE (Og.host.belowK C3 (Nat.le_refl _))
  have HI3 := hidE (hI.out.same (below_sameIn B13 (Nat.le_refl _)))
  have hgl := hidE (show hx.guests.length = mg ∧ hx.frames.length = lg by
    obtain ⟨_, _, _, _, ea, _, _, _, _, _, eb, _⟩ := Og
    exact ⟨(Value.slice.inj eb).2.1.symm, (Value.slice.inj ea).2.1.symm⟩)
  have hlk := lkHost_same _ _ _ _ _ _ _ _ hx W3 Hg3.out Hw3.out (by omega) (by omega) hx0 0
  obtain ⟨x0, x1, x2⟩ := cells3 B3 (show v2.heap.size < W2.heap.size by omega) hV2.out
  have l23 : v2.heap.size < v3.heap.size := by omega
  clear hi2 B3 C3 BW2 hV2 Hw2 B02 Og hI B1 B13
  cases ob
  · go_wp2_with (fail)
    rw [← hW3]
    clear hW3
    refine hlk.mono ?_
    rintro e v4 ⟨rfl, B4⟩
    have s4 := B4.size
    have B04 := hidE (BW3.out.trans (B4.mono BW3.out.size))
    obtain ⟨u0, u1, u2⟩ := cells3 B4 (show v3.heap.size < W3.heap.size by omega) hU3.out
    clear x0 x1 x2
    obtain ⟨x0, x1, x2⟩ := cells3 B4 (show v2.heap.size < W3.heap.size by omega) hV3.out
    have hlk2 := lkHost_same _ _ _ _ _ _ _ _ hx v4 (Hg3.out.belowK B4 (by omega)) (Hw3.out.belowK B4 (by omega)) (by omega) (by omega) hx0 0
    have l34 : v3.heap.size < v4.heap.size := by omega
    have l24 : v2.heap.size < v4.heap.size := by omega
    clear hlk B4 BW3 hU3 hV3 Hg3 Hw3
    go_wp2_with (fail)
    refine hlk2.mono ?_
    rintro e v5 ⟨rfl, B5⟩
    have B05 := hidE (B04.out.trans (B5.mono B04.out.size))
    clear hlk2 B5
    go_wp2
    go_ret
    exact ⟨rfl, B05.out⟩
  · obtain ⟨m, hnm, hm1, hm2, _⟩ := (loadB_nat (ms := ms) hms).1 hob.out.symm
    obtain ⟨kk, hgm, hsee⟩ := load_ok (hms.trans hnm) hm1 hm2 hob.out.symm
    rw [← hhx.out] at kk hgm hsee
    go_wp2_with (fail)
    rw [← hW3]
    clear hW3
    refine hlk.mono ?_
    rintro e v4 ⟨rfl, B4⟩
    have s4 := B4.size
    have B04 := hidE (BW3.out.trans (B4.mono BW3.out.size))
    have hU4 := hidE (cells3 B4 (show v3.heap.size < W3.heap.size by omega) hU3.out)
    have Hg4 := hidE (Hg3.out.belowK B4 (by omega))
    have HI4 := hidE (HI3.out.same (below_sameIn B4 (by omega)))
    clear hlk B4 BW3 hU3 hV3 Hg3 Hw3 x0 x1 x2 HI3
    obtain ⟨u0, u1, u2⟩ := hU4.out
    have l34 : v3.heap.size < v4.heap.size := by omega
    go_wp2_with (fail)
    have hwf := hidE (okH_wfs kk)
    have hok := hidE (okHost_mk kk)
    have hLm := hidE (fun k (hk : k < m) i (hi : i < 6) => (show (((ms.drop (k * 6)).take 6).getD i []).length ≤ 1048576 by
      rw [ld_get ms k i hi]
      have := hL.out (k * 6 + i) (by omega)
      omega))
    have hsv := hidE (fun (W : World) (B : Below v4.heap.size v4 W) (k : Nat) (hk : k < m) => (show Calls Try.prog 17 #[.agg #[.slice ag lg cg, .slice bg mg dg, .int .i64 0], .int .i64 (k : Int)] W fun e w' => ∃ a c, e = .returned (.slice a 6 c) ∧ OwnMem w' W.heap.size w'.heap.size a 6 ((ms.drop (k * 6)).take 6) ∧ Below W.heap.size W w' by
      have h1 := implHostSee _ _ _ _ lg cg mg dg hx (k : Int) W (Hg4.out.belowK B (by omega)) (Nat.le_trans (show v3.heap.size ≤ v4.heap.size by omega) B.size) hwf.out
      rw [hhand, hsee k hk] at h1
      refine h1.mono ?_
      rintro e w' ⟨a, c, rfl, hM, hB⟩
      have e6 : ((ms.drop (k * 6)).take 6).length = 6 := by rw [List.length_take, List.length_drop]; omega
      rw [e6] at hM ⊢
      exact ⟨a, c, rfl, hM, hB⟩))
    have hpt := hidE (fun (W : World) (B : Below v4.heap.size v4 W) (k : Nat) (hk : k < m) => (show IsMem W _ _ (some ⟨T, o + k * 6, none⟩) 6 ((ms.drop (k * 6)).take 6) from IsMem.part (HI4.out.same (below_sameIn B (by omega))) (k := k * 6) (l := 6) (by omega)))
    have hHO := hidE (fun (W : World) (B : Below v4.heap.size v4 W) => (show Calls Try.prog 18 #[.agg #[.slice ag lg cg, .slice bg mg dg, .int .i64 0]] W fun e w' => e = .returned (.bool true) ∧ Below W.heap.size W w' by
      have h1 := implHostOk _ _ _ _ lg cg mg dg hx W (Hg4.out.belowK B (by omega)) (Nat.le_trans (show v3.heap.size ≤ v4.heap.size by omega) B.size) hwf.out
      rw [hhand, hok.out] at h1
      exact h1))
    have hmgm : mg = m := by rw [← hgm]; exact hgl.out.1.symm
    have l14 : v1.heap.size ≤ v4.heap.size := by omega
    subst hmgm
    clear kk hgm hsee hL HI4 Hg4 hgl hwf hok hx0
    go_loopw [8] (fun i wr => ∃ k : Nat, k ≤ mg ∧ i = .int .i64 k ∧ Hid (Below v4.heap.size v4 wr)) (fun i _ => mg - (intOf i).toNat)
    case atStart => exact ⟨0, Nat.zero_le _, rfl, Below.refl _ _⟩
    case round =>
      obtain ⟨k, hk, rfl, hB⟩ := hrel
      obtain ⟨u0, u1, u2⟩ := cells3 hB.out (show v3.heap.size < v4.heap.size by omega) hU4.out
      have sB := hB.out.size
      have lU : v3.heap.size < wr.heap.size := by omega
      by_cases hkl : k < mg
      · have hki : (k : Int) < (mg : Int) := by omega
        rcases (by omega : k = 0 ∨ k = 1) with rfl | rfl
        · go_wp2_with (fail)
          have z0 : IntKind.i64.wrap 0 = 0 := by decide
          have z1 : IntKind.i64.wrap 1 = 1 := by decide
          have z2 : IntKind.i64.wrap 2 = 2 := by decide
          have z6 : IntKind.i64.wrap 6 = 6 := by decide
          have z12 : IntKind.i64.wrap 12 = 12 := by decide
          have h1 := hsv.out wr.drew hB.out.drew 0 (by omega)
          have g1 : 6 ≤ c := by omega
          have g2 : (6 : Int) ≤ (c : Int) := by omega
          have g3 : ¬ c = 0 := by omega
          have g4 : (0 : Int) ≤ 6 := by omega
          have h3 := hLm.out 0 (by omega)
          go_region_with (first | (go_at_call 17; refine h1.mono ?_; rintro e w5 ⟨a5, c5, rfl, hM5, B5⟩; have hB5 := hB.out.drew.trans (B5.mono (by rw [World.size_drew]; exact sB)); have h2 := hpt.out w5 hB5 0 (by omega); rw [show o + 0 * 6 = o by omega] at h2; have hM5' := hM5.mem) | (go_at_call 16; refine (lkMem_same _ _ _ _ _ _ 6 _ _ _ _ hM5' h2 (Nat.le_refl _) (by have := hB5.size; omega) (by omega) h3).mono ?_; rintro e w6 ⟨rfl, B6⟩))
          all_goals
            have HB6 := hidE (hB5.trans (B6.mono hB5.size))
            clear h1 h2 h3 hM5 hM5' B5 hB5 B6
            go_wp2
            go_roundw
            case rel => exact ⟨0 + 1, by omega, by go_num, HB6.out⟩
            case measure => simp [intOf]; omega
        · go_wp2_with (fail)
          have z0 : IntKind.i64.wrap 0 = 0 := by decide
          have z1 : IntKind.i64.wrap 1 = 1 := by decide
          have z2 : IntKind.i64.wrap 2 = 2 := by decide
          have z6 : IntKind.i64.wrap 6 = 6 := by decide
          have z12 : IntKind.i64.wrap 12 = 12 := by decide
          have h1 := hsv.out wr.drew hB.out.drew 1 (by omega)
          have g1 : 12 ≤ c := by omega
          have g2 : (12 : Int) ≤ (c : Int) := by omega
          have g3 : ¬ c = 6 := by omega
          have g4 : 6 ≤ c := by omega
          have h3 := hLm.out 1 (by omega)
          go_region_with (first | (go_at_call 17; refine h1.mono ?_; rintro e w5 ⟨a5, c5, rfl, hM5, B5⟩; have hB5 := hB.out.drew.trans (B5.mono (by rw [World.size_drew]; exact sB)); have h2 := hpt.out w5 hB5 1 (by omega); rw [show o + 1 * 6 = o + 6 by omega] at h2; have hM5' := hM5.mem) | (go_at_call 16; refine (lkMem_same _ _ _ _ _ _ 6 _ _ _ _ hM5' h2 (Nat.le_refl _) (by have := hB5.size; omega) (by omega) h3).mono ?_; rintro e w6 ⟨rfl, B6⟩))
          all_goals
            have HB6 := hidE (hB5.trans (B6.mono hB5.size))
            clear h1 h2 h3 hM5 hM5' B5 hB5 B6
            go_wp2
            go_roundw
            case rel => exact ⟨1 + 1, by omega, by go_num, HB6.out⟩
            case measure => simp [intOf]; omega
      · obtain rfl : k = mg := by omega
        go_wp2_with (fail)
        refine (hHO.out wr hB.out).mono ?_
        rintro e w5 ⟨rfl, B5⟩
        have HB5 := hidE (B04.out.trans ((hB.out.trans (B5.mono sB)).mono B04.out.size))
        obtain ⟨q0, q1, q2⟩ := cells3 B5 (show v3.heap.size < wr.heap.size by omega) ⟨u0, u1, u2⟩
        go_wp2
        refine bodyPost_ret (v := .bool true) (by simp [results, Try.results3, go_sem]) rfl ?_
        exact ⟨rfl, HB5.out⟩
end Go.Proofs.Ytdamdjhnhkmncaa
