/-
  What the given l12Page, l12See and HostSee do.
-/
import Derived.Test.YtjegndgdpmlbaaaKOHostOk1
import Derived.Test.YtjegndgdpmlbaaaKOH
import Derived.Test.YtjegndgdpmlbaaaKOWalkFnExactHostOk
set_option linter.unusedSimpArgs false
namespace Go.Proofs.Ytjegndgdpmlbaaa
open Go.RowKit
attribute [local go_sem ↓] Go.wp_at_zero Go.wp_at_succ exec_app
attribute [local go_sem] bigNext_ok

set_option maxRecDepth 100000 in
set_option maxHeartbeats 4000000 in
theorem specPage12 (lo hi : Nat) (af ag : Option Addr) (cf n cg G P : Nat) (h : Hst) (w : World) (hF : IsMem w lo hi af 8 h.frames) (hG : IsGuests w lo hi ag n h.guests) (hh : hi ≤ w.heap.size) (ho : okHost h = true) (hn : h.guests.length = n) (hGn : G < n) (hP : P < 6) :
    Calls Try.prog 83 #[.agg #[.slice af 8 cf, .slice ag n cg, .int .i64 h.hand], .int .i64 G, .int .i64 P] w fun e w' => ∃ p c, e = .returned (.slice (some ⟨p, 0, none⟩) 4 c) ∧ w'.ownsRow w.heap.size 3 1 (.slice (some ⟨p, 0, none⟩) 4 c) 4 (zv (pageM h.frames (h.guests.getD G noG) P)) ∧ Below w.heap.size w w' := by
  obtain ⟨i0, hi0, hz0, hz1, hz2⟩ := info_parts infoZ
  obtain ⟨hsz, _, hog⟩ := okHost_guest ho (by omega : G < h.guests.length)
  have hin := fun e => okMap_in (okGuest_map hog hP).1 e
  have h4 := pageM_len ho (by omega : G < h.guests.length) hP
  obtain ⟨b, o, am, cm, ad, cd, aS, cs, rfl, hb1, hb2, q1, q2, q3, hM, hD, _⟩ := hG.get hGn
  have hgF := fun F (hF8 : F < 8) => hF.get hF8
  have hfr4 := (okHost_frames ho).2.1
  obtain ⟨hs1, hs2, hs3, hs4⟩ := hsz
  rw [hs1] at q1 hM
  rw [hs2] at q2 hD
  have hgi : (G : Int) < (n : Int) := by omega
  have hpi : (P : Int) < 6 := by omega
  have hp4 : pageM h.frames (h.guests.getD G noG) P = bif ((h.guests.getD G noG).maps.getD P noM).1 then h.frames.getD ((h.guests.getD G noG).maps.getD P noM).2.1.toNat [] else (h.guests.getD G noG).disk.getD P [] := rfl
  obtain ⟨bm, om, rfl, hbm1, hbm2, r0, r1, r2⟩ := hM.get hP
  obtain ⟨bd, od, a', l, c, rfl, hbd1, hbd2, u0, hI⟩ := hD.get hP
  have hfin : ∀ (W : World) (zs : List Int) (b' o' l c : Nat), Below w.heap.size w W → Ints W b' o' zs → b' < W.heap.size → zs.length = l → l = 4 → ∃ p c' w1, appRun Try.prog 41 41 (.slice (some ⟨W.heap.size, 0, none⟩) 0 0) (.slice (some ⟨b', o', none⟩) l c) (W.alloc (.cells #[] 3)) = .ok (.slice (some ⟨p, 0, none⟩) 4 c') w1 ∧ Hid (w1.ownsRow w.heap.size 3 1 (.slice (some ⟨p, 0, none⟩) 4 c') 4 (zv zs) ∧ Below w.heap.size w w1) := fun W zs b' o' l c hB hI hb' hl hl4 => by
    subst hl4
    have hs := hB.size
    have own0 : (W.alloc (.cells #[] 3)).ownsRow W.heap.size 3 1 (.slice (some ⟨W.heap.size, 0, none⟩) 0 0) 0 [] := World.ownsRow_made W #[] 0 (Nat.le_refl _) (by simp [maxLen]) rfl
    have HN := ints_zv (hI.below ((Below.refl W.heap.size W).alloc (Nat.le_refl _) (.cells #[] 3)) hb')
    obtain ⟨p, c', w1, hrun, hown, hgrow, hat, hlt⟩ := run_append_lies (P := Try.prog) (W.alloc (.cells #[] 3)) 41 41 W.heap.size 3 i0 (.int .i64 0) 1 8 Try.underlying41 hi0 hz0 hz1 hz2 rfl (by decide) _ 0 [] own0 ⟨b', o', none⟩ 4 c (zv zs) (by rw [zv, List.length_map]; omega) HN (zv_one _) (by decide) (by simp [maxLen]) (by omega) (by simp) _ rfl
    rw [Nat.zero_add, List.nil_append] at hown
    rw [Nat.zero_add] at hrun
    refine ⟨p, c', w1, hrun, own_down hown hs, ?_⟩
    exact Below.grown (hB.alloc hs _) hgrow (by simp; omega) (fun j hj => by have := (own0.lt _ hj).1; omega)
  obtain ⟨W1, hW1⟩ : ∃ W1, W1 = w.alloc (.cells #[.slice af 8 cf, .slice (some ⟨b, o, none⟩) n cg, .int .i64 h.hand] 26) := ⟨_, rfl⟩
  have s1 : W1.heap.size = w.heap.size + 1 := by rw [hW1]; simp
  have B1 : Below w.heap.size w W1 := by rw [hW1]; exact (Below.refl _ _).alloc (Nat.le_refl _) _
  rw [hp4] at h4 ⊢
  clear hp4 hM hD hog ho hF hG
  generalize hgg : h.guests.getD G noG = g at *
  clear hgg
  generalize g.maps.getD P noM = mm at *
  obtain ⟨mi, mf, mw⟩ := mm
  simp only at r0 r1 r2 hin h4 ⊢
  have hbw : b < w.heap.size := by omega
  have hbmw : bm < w.heap.size := by omega
  have hbdw : bd < w.heap.size := by omega
  have hbw1 : b < w.heap.size + 1 := by omega
  have hbw2 : b < w.heap.size + 1 + 1 := by omega
  have hbmw1 : bm < w.heap.size + 1 := by omega
  have hbdw1 : bd < w.heap.size + 1 := by omega
  have hbdw2 : bd < w.heap.size + 1 + 1 := by omega
  cases mi
  · simp only [cond_false] at h4 ⊢
    obtain ⟨hl, hd⟩ := hI
    rcases hd with h0 | ⟨b', o', rfl, _, hb2', hc'⟩
    · omega
    have hb'w : b' < w.heap.size := by omega
    have BV : Below w.heap.size w (W1.alloc (.cells #[.bool false, .int .i64 mf, .bool mw] 35)) := B1.alloc (by omega) _
    obtain ⟨p, c2, w2, happ, HR⟩ := hfin (W1.alloc (.cells #[.bool false, .int .i64 mf, .bool mw] 35)) (g.disk.getD P []) b' o' l c BV (hc'.below BV (by omega)) (by rw [World.size_alloc]; omega) hl (by omega)
    rw [World.size_alloc, s1, hW1] at happ
    clear hfin hgF hfr4 hin hc' hW1 s1 B1 BV
    generalize g.disk.getD P [] = zs at *
    go_enter Try.func83, Try.ntmps83
    go_wp2
    go_ret
    exact ⟨p, c2, rfl, HR.out.1, HR.out.2⟩
  · obtain ⟨F, hF8, rfl⟩ := hin rfl
    simp only [cond_true, Int.toNat_natCast] at h4 ⊢
    obtain ⟨bf, of, a2, l2, c2', rfl, hbf1, hbf2, v0, hIF⟩ := hgF F hF8
    obtain ⟨hl, hd⟩ := hIF
    have h4F := hfr4 F hF8
    rcases hd with h0 | ⟨b', o', rfl, _, hb2', hc'⟩
    · omega
    have hb'w : b' < w.heap.size := by omega
    have hbfw : bf < w.heap.size := by omega
    have hbfw1 : bf < w.heap.size + 1 := by omega
    have hbfw2 : bf < w.heap.size + 1 + 1 := by omega
    have hfi : (F : Int) < 8 := by omega
    have BV : Below w.heap.size w (W1.alloc (.cells #[.bool true, .int .i64 F, .bool mw] 35)) := B1.alloc (by omega) _
    obtain ⟨p, c2, w2, happ, HR⟩ := hfin (W1.alloc (.cells #[.bool true, .int .i64 F, .bool mw] 35)) (h.frames.getD F []) b' o' l2 c2' BV (hc'.below BV (by omega)) (by rw [World.size_alloc]; omega) hl (by omega)
    rw [World.size_alloc, s1, hW1] at happ
    clear hfin hgF hfr4 hin hc' hW1 s1 B1 BV
    generalize h.frames.getD F [] = zs at *
    go_enter Try.func83, Try.ntmps83
    go_wp2
    go_ret
    exact ⟨p, c2, rfl, HR.out.1, HR.out.2⟩

set_option maxRecDepth 100000 in
set_option maxHeartbeats 4000000 in
theorem specSee12 (lo hi : Nat) (af ag : Option Addr) (cf n cg G : Nat) (h : Hst) (w : World) (hF : IsMem w lo hi af 8 h.frames) (hG : IsGuests w lo hi ag n h.guests) (hh : hi ≤ w.heap.size) (ho : okHost h = true) (hn : h.guests.length = n) (hGn : G < n) :
    Calls Try.prog 57 #[.agg #[.slice af 8 cf, .slice ag n cg, .int .i64 h.hand], .int .i64 G] w fun e w' => ∃ a c, e = .returned (.slice a 6 c) ∧ OwnMem w' w.heap.size w'.heap.size a 6 (seeM h.frames (h.guests.getD G noG)) ∧ Below w.heap.size w w' := by
  obtain ⟨i1, hi1, hy0, hy1, hy2⟩ := info_parts infoS
  obtain ⟨W1, hW1⟩ : ∃ W1, W1 = w.alloc (.cells #[.slice af 8 cf, .slice ag n cg, .int .i64 h.hand] 26) := ⟨_, rfl⟩
  have s1 : W1.heap.size = w.heap.size + 1 := by rw [hW1]; simp
  have B1 : Below w.heap.size w W1 := by rw [hW1]; exact (Below.refl _ _).alloc (Nat.le_refl _) _
  have x1 : W1.cell? ⟨w.heap.size, 0, none⟩ = some (.slice af 8 cf) ∧ W1.cell? ⟨w.heap.size, 1, none⟩ = some (.slice ag n cg) ∧ W1.cell? ⟨w.heap.size, 2, none⟩ = some (.int .i64 h.hand) := by rw [hW1]; simp
  have hpage := fun (W' : World) (B : Below w.heap.size w W') (P : Nat) (hP : P < 6) => specPage12 lo hi af ag cf n cg G P h W' (hF.same (below_sameIn B hh)) (hG.same (below_sameIn B hh)) (Nat.le_trans hh B.size) ho hn hGn hP
  have hsl := seeM_len h.frames (h.guests.getD G noG)
  have hsg := fun P (hP : P < 6) => seeM_get h.frames (h.guests.getD G noG) hP
  have hp4 := fun P (hP : P < 6) => pageM_len ho (by omega : G < h.guests.length) hP
  have hst : Hid ((W1.alloc (.cells #[] 41)).ownsRow (w.heap.size + 1) 41 1 (.slice (some ⟨w.heap.size + 1, 0, none⟩) 0 0) 0 [] ∧ Below (w.heap.size + 1) W1 (W1.alloc (.cells #[] 41))) := by
    have := World.ownsRow_made (e := 41) (size := 1) W1 #[] 0 (Nat.le_refl _) (by simp [maxLen]) rfl
    rw [s1] at this
    exact ⟨this, (Below.refl _ _).alloc (by omega) _⟩
  go_enter Try.func57, Try.ntmps57
  clear hF hG ho
  go_wp2
  rw [← hW1]
  clear hW1
  obtain ⟨sm, Hsm⟩ : ∃ sm, Hid (seeM h.frames (h.guests.getD G noG) = sm) := ⟨_, rfl⟩
  rw [Hsm.out] at hsl hsg
  go_loopw [5, 6] (fun v i wr => ∃ k : Nat, ∃ vs, k ≤ 6 ∧ i = .int .i64 k ∧ Hid (wr.ownsRow (w.heap.size + 1) 41 1 v k vs) ∧ Hid (PagesUp wr (w.heap.size + 1) k sm vs) ∧ Hid (Below (w.heap.size + 1) W1 wr)) (fun _ i _ => 6 - (intOf i).toNat)
  case atStart => exact ⟨0, [], Nat.zero_le _, rfl, hst.out.1, ⟨rfl, fun _ => 0, fun _ => 0, fun i j h1 h2 => by omega, fun i hi => by omega⟩, hst.out.2⟩
  case round =>
    clear hst
    obtain ⟨k, vs, hk, rfl, hown, hP, hB⟩ := hrel
    have hBw : Below w.heap.size w wr := B1.trans (hB.out.mono (Nat.le_succ _))
    have sB := hB.out.size
    by_cases hkl : k < 6
    · have hki : (k : Int) < 6 := by omega
      have hpg := hpage wr hBw k hkl
      obtain ⟨y0, y1, y2⟩ := cells3 hB.out (Nat.lt_succ_self w.heap.size) x1
      have hsk := hsg k hkl
      have h4 := hp4 k hkl
      have hlt : w.heap.size < wr.heap.size := by omega
      clear hpage
      go_wp2_with (fail)
      refine hpg.mono ?_
      rintro e w2 ⟨p, c, rfl, hO2, B2⟩
      clear hpg
      rw [← hsk] at hO2 h4
      have s2 := B2.size
      have hp := (hO2.lt p rfl).1
      have own2 := own_below hown.out B2
      have P2 := hP.out.kept (below_grown B2) (fun T e => by cases e)
      have hown3 := own2.alloc (.cells #[.slice (some ⟨p, 0, none⟩) 4 c] 41)
      obtain ⟨gg, cc, w3, hrun, own3, grow3, hat, hlt3⟩ := run_append_lies (P := Try.prog) (w2.alloc (.cells #[.slice (some ⟨p, 0, none⟩) 4 c] 41)) 23 23 (w.heap.size + 1) 41 i1 (.slice none 0 0) 1 24 Try.underlying23 hi1 hy0 hy1 hy2 rfl (by decide) _ k vs hown3 ⟨w2.heap.size, 0, none⟩ 1 1 [.slice (some ⟨p, 0, none⟩) 4 c] rfl (one_new w2 _ _) (by simp [Value.oneCell']) (by decide) (by simp [maxLen]; omega) (by omega) (by simp; omega) _ rfl
      have HP3 : Hid (PagesUp w3 (w.heap.size + 1) (k + 1) sm (vs ++ [.slice (some ⟨p, 0, none⟩) 4 c])) := by
        have k1 : PagesUp (w2.alloc (.cells #[.slice (some ⟨p, 0, none⟩) 4 c] 41)) (w.heap.size + 1) (k + 1) sm (vs ++ [.slice (some ⟨p, 0, none⟩) 4 c]) :=
          PagesUp.snoc hP.out (P2.kept (below_grown ((Below.refl _ _).alloc (Nat.le_refl _) _)) (fun T e => by cases e)) hp h4 ((own_down hO2 (by omega)).alloc _)
        exact k1.kept grow3 (own_row hown3)
      have HB3 : Hid (Below (w.heap.size + 1) W1 w3) := by
        have b2 : Below (w.heap.size + 1) W1 w2 := hB.out.trans (B2.mono (by omega))
        exact Below.grown (b2.alloc (by omega) _) grow3 (by simp; omega) (fun j hj => (hown3.lt _ hj).1)
      have HO3 : Hid (w3.ownsRow (w.heap.size + 1) 41 1 (.slice (some ⟨gg, 0, none⟩) (k + 1) cc) (k + 1) (vs ++ [.slice (some ⟨p, 0, none⟩) 4 c])) := own3
      have happ : appRun Try.prog 23 23 u5 (.slice (some ⟨w2.heap.size, 0, none⟩) 1 1) (w2.alloc (.cells #[.slice (some ⟨p, 0, none⟩) 4 c] 41)) = .ok (.slice (some ⟨gg, 0, none⟩) (k + 1) cc) w3 := hrun
      clear hrun own3 grow3 hown3 own2 P2 hO2 B2 hown hP hB hat
      go_wp2
      go_roundw
      case rel => exact ⟨k + 1, _, by omega, by go_num, HO3, HP3, HB3⟩
      case measure => simp [intOf]; omega
    · obtain rfl : k = 6 := by omega
      obtain ⟨a3, c3, hv3, hM, _⟩ := own_mem hP.out hsl hown.out
      subst hv3
      clear hown hP hpage
      go_wp2
      go_ret
      rw [Hsm.out]
      exact ⟨a3, c3, rfl, hM.wide (Nat.le_succ w.heap.size) (Nat.le_refl _), hBw⟩

set_option maxRecDepth 100000 in
set_option maxHeartbeats 4000000 in
theorem specHostSee (lo hi : Nat) (af ag : Option Addr) (lf cf n cg : Nat) (h : Hst) (G : Int) (w : World) (hH : HostIn w lo hi (.slice af lf cf) (.slice ag n cg) h) (hlf : h.frames.length = lf) (hn : h.guests.length = n) (hh : hi ≤ w.heap.size) (hS : SmallH h) :
    Calls Try.prog 24 #[.agg #[.slice af lf cf, .slice ag n cg, .int .i64 h.hand], .int .i64 G] w fun e w' => ∃ a c, e = .returned (.slice a (seeH h G).length c) ∧ OwnMem w' w.heap.size w'.heap.size a (seeH h G).length (seeH h G) ∧ Below w.heap.size w w' := by
  obtain ⟨W1, hW1⟩ : ∃ W1, W1 = w.alloc (.cells #[.slice af lf cf, .slice ag n cg, .int .i64 h.hand] 26) := ⟨_, rfl⟩
  have s1 : W1.heap.size = w.heap.size + 1 := by rw [hW1]; simp
  have B1 : Below w.heap.size w W1 := by rw [hW1]; exact (Below.refl _ _).alloc (Nat.le_refl _) _
  have x1 : W1.cell? ⟨w.heap.size, 0, none⟩ = some (.slice af lf cf) ∧ W1.cell? ⟨w.heap.size, 1, none⟩ = some (.slice ag n cg) ∧ W1.cell? ⟨w.heap.size, 2, none⟩ = some (.int .i64 h.hand) := by rw [hW1]; simp
  obtain ⟨hF, hG⟩ := hH.parts
  have hok := hostOk_core lo hi af ag lf cf n cg h W1 hlf (hF.same (below_sameIn B1 hh)) hn (hG.same (below_sameIn B1 hh)) (by omega) hS
  have hI := specIn G 0 ((n : Int) - 1)
  have hn3 : n ≤ 1048576 := by have := hS.2.2.1; omega
  cases ho : okHost h
  · have hS2 : Hid (seeH h G = []) := by
      show _ = _
      rw [seeH, seeB, ho]; rfl
    rw [ho] at hok
    clear hH hF hG hI
    go_enter Try.func24, Try.ntmps24
    go_wp2_with (fail)
    rw [← hW1]
    clear hW1
    refine hok.mono ?_
    rintro e w2 ⟨rfl, B2⟩
    have HB2 : Hid (Below w.heap.size w w2) := B1.trans (B2.mono (by omega))
    clear hok B2 B1
    go_wp2
    go_ret
    rw [hS2.out]
    exact ⟨_, _, rfl, ⟨rfl, Or.inl rfl⟩, HB2.out.alloc HB2.out.size _⟩
  · obtain ⟨hf8, _, hg1, hg2, _⟩ := okHost_frames ho
    obtain rfl : lf = 8 := by omega
    rw [ho] at hok
    have hsub : IntKind.i64.wrap ((n : Int) - 1) = (n : Int) - 1 := Go.IntWalk.i64_in _ (by omega)
    by_cases hGr : 0 ≤ G ∧ G < n
    · obtain ⟨G', rfl⟩ := Int.eq_ofNat_of_zero_le hGr.1
      have hG' : G' < n := by omega
      rw [show (decide ((0 : Int) ≤ (G' : Int)) && decide ((G' : Int) ≤ (n : Int) - 1)) = true by simp; omega] at hI
      have hS2 : Hid (seeH h (G' : Int) = seeM h.frames (h.guests.getD G' noG)) := by
        show _ = _
        rw [seeH, seeB, ho, show (decide (0 ≤ (G' : Int)) && decide ((G' : Int) < h.guests.length)) = true by simp; omega]; rfl
      have hl6 := seeM_len h.frames (h.guests.getD G' noG)
      have hsee := fun (W' : World) (B : Below w.heap.size w W') => specSee12 lo hi af ag cf n cg G' h W' (hF.same (below_sameIn B hh)) (hG.same (below_sameIn B hh)) (Nat.le_trans hh B.size) ho hn hG'
      clear hH hF hG
      go_enter Try.func24, Try.ntmps24
      go_wp2_with (fail)
      rw [← hW1]
      clear hW1
      refine hok.mono ?_
      rintro e w2 ⟨rfl, B2⟩
      have s2 := B2.size
      have HB2 : Hid (Below w.heap.size w w2) := B1.trans (B2.mono (by omega))
      obtain ⟨y0, y1, y2⟩ := cells3 B2 (show w.heap.size < W1.heap.size by omega) x1
      have hse := hsee w2 HB2.out
      clear hok B2 B1 hsee
      go_wp2_with (fail)
      refine (hI _).mono ?_
      rintro e w3 ⟨rfl, rfl⟩
      go_wp2_with (fail)
      refine hse.mono ?_
      rintro e w4 ⟨a, c, rfl, hO, B4⟩
      have HB4 : Hid (Below w.heap.size w w4) := HB2.out.trans (B4.mono HB2.out.size)
      have HO : Hid (OwnMem w4 w.heap.size w4.heap.size a 6 (seeM h.frames (h.guests.getD G' noG))) := hO.wide HB2.out.size (Nat.le_refl _)
      clear hse hO B4
      go_wp2
      go_ret
      rw [hS2.out, hl6]
      exact ⟨_, _, rfl, HO.out, HB4.out⟩
    · rw [show (decide ((0 : Int) ≤ G) && decide (G ≤ (n : Int) - 1)) = false by simp; omega] at hI
      have hS2 : Hid (seeH h G = []) := by
        show _ = _
        rw [seeH, seeB, show (decide (0 ≤ G) && decide (G < h.guests.length)) = false by simp; omega]; simp
      clear hH hF hG
      go_enter Try.func24, Try.ntmps24
      go_wp2_with (fail)
      rw [← hW1]
      clear hW1
      refine hok.mono ?_
      rintro e w2 ⟨rfl, B2⟩
      have s2 := B2.size
      have HB2 : Hid (Below w.heap.size w w2) := B1.trans (B2.mono (by omega))
      obtain ⟨y0, y1, y2⟩ := cells3 B2 (show w.heap.size < W1.heap.size by omega) x1
      clear hok B2 B1
      go_wp2_with (fail)
      refine (hI _).mono ?_
      rintro e w3 ⟨rfl, rfl⟩
      go_wp2
      go_ret
      rw [hS2.out]
      exact ⟨_, _, rfl, ⟨rfl, Or.inl rfl⟩, HB2.out.alloc HB2.out.size _⟩
end Go.Proofs.Ytjegndgdpmlbaaa

/-
  What the program's own HostFree, and the given one, answer.
-/
set_option linter.unusedSimpArgs false
namespace Go.Proofs.Ytjegndgdpmlbaaa
open Go.RowKit
attribute [local go_sem ↓] Go.wp_at_zero Go.wp_at_succ exec_app exec_lod exec_house exec_mapsA exec_allocL exec_storeL exec_buildL exec_idxM exec_look exec_upd exec_allocH exec_buildH exec_storeH exec_bsL
attribute [local go_sem] bigNext_ok bigSkip_ok

/-- A list of words that is a call's own. -/
def OwnI (w : World) (lo hi : Nat) (v : Value) (zs : List Int) : Prop := ∃ a c, v = .slice a zs.length c ∧ (zs.length = 0 ∨ ∃ b, a = some ⟨b, 0, none⟩ ∧ lo ≤ b ∧ b < hi ∧ Ints w b 0 zs ∧ Room w b zs.length)
theorem own_i {w : World} {lo : Nat} {v : Value} {zs : List Int} (h : w.ownsRow lo 3 1 v zs.length (zv zs)) : OwnI w lo w.heap.size v zs := by
  have hc := h
  obtain ⟨hlen, hd⟩ := h
  rcases hd with ⟨rfl, h0⟩ | ⟨g, cap, cur, rfl, hg, hh, hcap, _⟩
  · exact ⟨none, 0, by rw [h0], Or.inl h0⟩
  · exact ⟨_, _, rfl, Or.inr ⟨g, rfl, hg, (hc.lt g rfl).2, own_ints hc, own_room1 hc⟩⟩

end Go.Proofs.Ytjegndgdpmlbaaa

/-
  What the program's own HostFree, and the given one, answer: the whole.
-/
set_option linter.unusedSimpArgs false
namespace Go.Proofs.Ytjegndgdpmlbaaa
open Go.RowKit
attribute [local go_sem ↓] Go.wp_at_zero Go.wp_at_succ exec_app exec_lod exec_house exec_mapsA exec_allocL exec_storeL exec_buildL exec_idxM exec_look exec_upd exec_allocH exec_buildH exec_storeH exec_bsL
attribute [local go_sem] bigNext_ok bigSkip_ok

theorem OwnI.wide {w : World} {lo lo' hi : Nat} {v : Value} {zs : List Int} (h : OwnI w lo hi v zs) (hl : lo' ≤ lo) : OwnI w lo' hi v zs := by
  obtain ⟨a, c, e, hd⟩ := h
  refine ⟨a, c, e, ?_⟩
  rcases hd with h0 | ⟨b, e, h1, h2⟩
  · exact Or.inl h0
  · exact Or.inr ⟨b, e, by omega, h2⟩

end Go.Proofs.Ytjegndgdpmlbaaa
