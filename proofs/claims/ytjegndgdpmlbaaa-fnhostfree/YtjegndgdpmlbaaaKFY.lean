/-
  What the given l12Page, l12See and HostSee do.
-/
import Derived.Test.YtjegndgdpmlbaaaKFHostOk1
import Derived.Test.YtjegndgdpmlbaaaKFH
import Derived.Test.YtjegndgdpmlbaaaKFWalkFnExactHostOk
set_option linter.unusedSimpArgs false
namespace Go.Proofs.Ytjegndgdpmlbaaa
open Go.RowKit
attribute [local go_sem ↓] Go.wp_at_zero Go.wp_at_succ exec_app
attribute [local go_sem] bigNext_ok

set_option maxRecDepth 100000 in
set_option maxHeartbeats 4000000 in
theorem specPage12 (lo hi : Nat) (af ag : Option Addr) (cf n cg G P : Nat) (h : Hst) (w : World) (hF : IsMem w lo hi af 8 h.frames) (hG : IsGuests w lo hi ag n h.guests) (hh : hi ≤ w.heap.size) (ho : okHost h = true) (hn : h.guests.length = n) (hGn : G < n) (hP : P < 6) :
    Calls Try.prog 83 #[.agg #[.slice af 8 cf, .slice ag n cg, .int .i64 h.hand], .int .i64 G, .int .i64 P] w fun e w' => ∃ p c, e = .returned (.slice (some ⟨p, 0, none⟩) 4 c) ∧ w'.ownsRow w.heap.size 3 1 (.slice (some ⟨p, 0, none⟩) 4 c) 4 (zv (pageM h.frames (h.guests.getD G noG) P)) ∧ Below w.heap.size w w' := by
  obtain ⟨i0, hi0, hz0, hz1, hz2⟩ := info_parts infoZ
  obtain ⟨hsz, _, hog⟩ := okHost_guest ho (by omega : G < h.guests.length)
  have hin := fun e => okMap_in (okGuest_map hog hP).1 e
  have h4 := pageM_len ho (by omega : G < h.guests.length) hP
  obtain ⟨b, o, am, cm, ad, cd, aS, cs, rfl, hb1, hb2, q1, q2, q3, hM, hD, _⟩ := hG.get hGn
  have hgF := fun F (hF8 : F < 8) => hF.get hF8
  have hfr4 := (okHost_frames ho).2.1
  obtain ⟨hs1, hs2, hs3, hs4⟩ := hsz
  rw [hs1] at q1 hM
  rw [hs2] at q2 hD
  have hgi : (G : Int) < (n : Int) := by omega
  have hpi : (P : Int) < 6 := by omega
  have hp4 : pageM h.frames (h.guests.getD G noG) P = bif ((h.guests.getD G noG).maps.getD P noM).1 then h.frames.getD ((h.guests.getD G noG).maps.getD P noM).2.1.toNat [] else (h.guests.getD G noG).disk.getD P [] := rfl
  obtain ⟨bm, om, rfl, hbm1, hbm2, r0, r1, r2⟩ := hM.get hP
  obtain ⟨bd, od, a', l, c, rfl, hbd1, hbd2, u0, hI⟩ := hD.get hP
  have hfin : ∀ (W : World) (zs : List Int) (b' o' l c : Nat), Below w.heap.size w W → Ints W b' o' zs → b' < W.heap.size → zs.length = l → l = 4 → ∃ p c' w1, appRun Try.prog 41 41 (.slice (some ⟨W.heap.size, 0, none⟩) 0 0) (.slice (some ⟨b', o', none⟩) l c) (W.alloc (.cells #[] 3)) = .ok (.slice (some ⟨p, 0, none⟩) 4 c') w1 ∧ Hid (w1.ownsRow w.heap.size 3 1 (.slice (some ⟨p, 0, none⟩) 4 c') 4 (zv zs) ∧ Below w.heap.size w w1) := fun W zs b' o' l c hB hI hb' hl hl4 => by
    subst hl4
    have hs := hB.size
    have own0 : (W.alloc (.cells #[] 3)).ownsRow W.heap.size 3 1 (.slice (some ⟨W.heap.size, 0, none⟩) 0 0) 0 [] := World.ownsRow_made W #[] 0 (Nat.le_refl _) (by simp [maxLen]) rfl
    have HN := ints_zv (hI.below ((Below.refl W.heap.size W).alloc (Nat.le_refl _) (.cells #[] 3)) hb')
    obtain ⟨p, c', w1, hrun, hown, hgrow, hat, hlt⟩ := run_append_lies (P := Try.prog) (W.alloc (.cells #[] 3)) 41 41 W.heap.size 3 i0 (.int .i64 0) 1 8 Try.underlying41 hi0 hz0 hz1 hz2 rfl (by decide) _ 0 [] own0 ⟨b', o', none⟩ 4 c (zv zs) (by rw [zv, List.length_map]; omega) HN (zv_one _) (by decide) (by simp [maxLen]) (by omega) (by simp) _ rfl
    rw [Nat.zero_add, List.nil_append] at hown
    rw [Nat.zero_add] at hrun
    refine ⟨p, c', w1, hrun, own_down hown hs, ?_⟩
    exact Below.grown (hB.alloc hs _) hgrow (by simp; omega) (fun j hj => by have := (own0.lt _ hj).1; omega)
  obtain ⟨W1, hW1⟩ : ∃ W1, W1 = w.alloc (.cells #[.slice af 8 cf, .slice (some ⟨b, o, none⟩) n cg, .int .i64 h.hand] 26) := ⟨_, rfl⟩
  have s1 : W1.heap.size = w.heap.size + 1 := by rw [hW1]; simp
  have B1 : Below w.heap.size w W1 := by rw [hW1]; exact (Below.refl _ _).alloc (Nat.le_refl _) _
  rw [hp4] at h4 ⊢
  clear hp4 hM hD hog ho hF hG
  generalize hgg : h.guests.getD G noG = g at *
  clear hgg
  generalize g.maps.getD P noM = mm at *
  obtain ⟨mi, mf, mw⟩ := mm
  simp only at r0 r1 r2 hin h4 ⊢
  have hbw : b < w.heap.size := by omega
  have hbmw : bm < w.heap.size := by omega
  have hbdw : bd < w.heap.size := by omega
  have hbw1 : b < w.heap.size + 1 := by omega
  have hbw2 : b < w.heap.size + 1 + 1 := by omega
  have hbmw1 : bm < w.heap.size + 1 := by omega
  have hbdw1 : bd < w.heap.size + 1 := by omega
  have hbdw2 : bd < w.heap.size + 1 + 1 := by omega
  cases mi
  · simp only [cond_false] at h4 ⊢
    obtain ⟨hl, hd⟩ := hI
    rcases hd with h0 | ⟨b', o', rfl, _, hb2', hc'⟩
    · omega
    have hb'w : b' < w.heap.size := by omega
    have BV : Below w.heap.size w (W1.alloc (.cells #[.bool false, .int .i64 mf, .bool mw] 35)) := B1.alloc (by omega) _
    obtain ⟨p, c2, w2, happ, HR⟩ := hfin (W1.alloc (.cells #[.bool false, .int .i64 mf, .bool mw] 35)) (g.disk.getD P []) b' o' l c BV (hc'.below BV (by omega)) (by rw [World.size_alloc]; omega) hl (by omega)
    rw [World.size_alloc, s1, hW1] at happ
    clear hfin hgF hfr4 hin hc' hW1 s1 B1 BV
    generalize g.disk.getD P [] = zs at *
    go_enter Try.func83, Try.ntmps83
    go_wp2
    go_ret
    exact ⟨p, c2, rfl, HR.out.1, HR.out.2⟩
  · obtain ⟨F, hF8, rfl⟩ := hin rfl
    simp only [cond_true, Int.toNat_natCast] at h4 ⊢
    obtain ⟨bf, of, a2, l2, c2', rfl, hbf1, hbf2, v0, hIF⟩ := hgF F hF8
    obtain ⟨hl, hd⟩ := hIF
    have h4F := hfr4 F hF8
    rcases hd with h0 | ⟨b', o', rfl, _, hb2', hc'⟩
    · omega
    have hb'w : b' < w.heap.size := by omega
    have hbfw : bf < w.heap.size := by omega
    have hbfw1 : bf < w.heap.size + 1 := by omega
    have hbfw2 : bf < w.heap.size + 1 + 1 := by omega
    have hfi : (F : Int) < 8 := by omega
    have BV : Below w.heap.size w (W1.alloc (.cells #[.bool true, .int .i64 F, .bool mw] 35)) := B1.alloc (by omega) _
    obtain ⟨p, c2, w2, happ, HR⟩ := hfin (W1.alloc (.cells #[.bool true, .int .i64 F, .bool mw] 35)) (h.frames.getD F []) b' o' l2 c2' BV (hc'.below BV (by omega)) (by rw [World.size_alloc]; omega) hl (by omega)
    rw [World.size_alloc, s1, hW1] at happ
    clear hfin hgF hfr4 hin hc' hW1 s1 B1 BV
    generalize h.frames.getD F [] = zs at *
    go_enter Try.func83, Try.ntmps83
    go_wp2
    go_ret
    exact ⟨p, c2, rfl, HR.out.1, HR.out.2⟩

set_option maxRecDepth 100000 in
set_option maxHeartbeats 4000000 in
theorem specSee12 (lo hi : Nat) (af ag : Option Addr) (cf n cg G : Nat) (h : Hst) (w : World) (hF : IsMem w lo hi af 8 h.frames) (hG : IsGuests w lo hi ag n h.guests) (hh : hi ≤ w.heap.size) (ho : okHost h = true) (hn : h.guests.length = n) (hGn : G < n) :
    Calls Try.prog 57 #[.agg #[.slice af 8 cf, .slice ag n cg, .int .i64 h.hand], .int .i64 G] w fun e w' => ∃ a c, e = .returned (.slice a 6 c) ∧ OwnMem w' w.heap.size w'.heap.size a 6 (seeM h.frames (h.guests.getD G noG)) ∧ Below w.heap.size w w' := by
  obtain ⟨i1, hi1, hy0, hy1, hy2⟩ := info_parts infoS
  obtain ⟨W1, hW1⟩ : ∃ W1, W1 = w.alloc (.cells #[.slice af 8 cf, .slice ag n cg, .int .i64 h.hand] 26) := ⟨_, rfl⟩
  have s1 : W1.heap.size = w.heap.size + 1 := by rw [hW1]; simp
  have B1 : Below w.heap.size w W1 := by rw [hW1]; exact (Below.refl _ _).alloc (Nat.le_refl _) _
  have x1 : W1.cell? ⟨w.heap.size, 0, none⟩ = some (.slice af 8 cf) ∧ W1.cell? ⟨w.heap.size, 1, none⟩ = some (.slice ag n cg) ∧ W1.cell? ⟨w.heap.size, 2, none⟩ = some (.int .i64 h.hand) := by rw [hW1]; simp
  have hpage := fun (W' : World) (B : Below w.heap.size w W') (P : Nat) (hP : P < 6) => specPage12 lo hi af ag cf n cg G P h W' (hF.same (below_sameIn B hh)) (hG.same (below_sameIn B hh)) (Nat.le_trans hh B.size) ho hn hGn hP
  have hsl := seeM_len h.frames (h.guests.getD G noG)
  have hsg := fun P (hP : P < 6) => seeM_get h.frames (h.guests.getD G noG) hP
  have hp4 := fun P (hP : P < 6) => pageM_len ho (by omega : G < h.guests.length) hP
  have hst : Hid ((W1.alloc (.cells #[] 41)).ownsRow (w.heap.size + 1) 41 1 (.slice (some ⟨w.heap.size + 1, 0, none⟩) 0 0) 0 [] ∧ Below (w.heap.size + 1) W1 (W1.alloc (.cells #[] 41))) := by
    have := World.ownsRow_made (e := 41) (size := 1) W1 #[] 0 (Nat.le_refl _) (by simp [maxLen]) rfl
    rw [s1] at this
    exact ⟨this, (Below.refl _ _).alloc (by omega) _⟩
  go_enter Try.func57, Try.ntmps57
  clear hF hG ho
  go_wp2
  rw [← hW1]
  clear hW1
  obtain ⟨sm, Hsm⟩ : ∃ sm, Hid (seeM h.frames (h.guests.getD G noG) = sm) := ⟨_, rfl⟩
  rw [Hsm.out] at hsl hsg
  go_loopw [5, 6] (fun v i wr => ∃ k : Nat, ∃ vs, k ≤ 6 ∧ i = .int .i64 k ∧ Hid (wr.ownsRow (w.heap.size + 1) 41 1 v k vs) ∧ Hid (PagesUp wr (w.heap.size + 1) k sm vs) ∧ Hid (Below (w.heap.size + 1) W1 wr)) (fun _ i _ => 6 - (intOf i).toNat)
  case atStart => exact ⟨0, [], Nat.zero_le _, rfl, hst.out.1, ⟨rfl, fun _ => 0, fun _ => 0, fun i j h1 h2 => by omega, fun i hi => by omega⟩, hst.out.2⟩
  case round =>
    clear hst
    obtain ⟨k, vs, hk, rfl, hown, hP, hB⟩ := hrel
    have hBw : Below w.heap.size w wr := B1.trans (hB.out.mono (Nat.le_succ _))
    have sB := hB.out.size
    by_cases hkl : k < 6
    · have hki : (k : Int) < 6 := by omega
      have hpg := hpage wr hBw k hkl
      obtain ⟨y0, y1, y2⟩ := cells3 hB.out (Nat.lt_succ_self w.heap.size) x1
      have hsk := hsg k hkl
      have h4 := hp4 k hkl
      have hlt : w.heap.size < wr.heap.size := by omega
      clear hpage
      go_wp2_with (fail)
      refine hpg.mono ?_
      rintro e w2 ⟨p, c, rfl, hO2, B2⟩
      clear hpg
      rw [← hsk] at hO2 h4
      have s2 := B2.size
      have hp := (hO2.lt p rfl).1
      have own2 := own_below hown.out B2
      have P2 := hP.out.kept (below_grown B2) (fun T e => by cases e)
      have hown3 := own2.alloc (.cells #[.slice (some ⟨p, 0, none⟩) 4 c] 41)
      obtain ⟨gg, cc, w3, hrun, own3, grow3, hat, hlt3⟩ := run_append_lies (P := Try.prog) (w2.alloc (.cells #[.slice (some ⟨p, 0, none⟩) 4 c] 41)) 23 23 (w.heap.size + 1) 41 i1 (.slice none 0 0) 1 24 Try.underlying23 hi1 hy0 hy1 hy2 rfl (by decide) _ k vs hown3 ⟨w2.heap.size, 0, none⟩ 1 1 [.slice (some ⟨p, 0, none⟩) 4 c] rfl (one_new w2 _ _) (by simp [Value.oneCell']) (by decide) (by simp [maxLen]; omega) (by omega) (by simp; omega) _ rfl
      have HP3 : Hid (PagesUp w3 (w.heap.size + 1) (k + 1) sm (vs ++ [.slice (some ⟨p, 0, none⟩) 4 c])) := by
        have k1 : PagesUp (w2.alloc (.cells #[.slice (some ⟨p, 0, none⟩) 4 c] 41)) (w.heap.size + 1) (k + 1) sm (vs ++ [.slice (some ⟨p, 0, none⟩) 4 c]) :=
          PagesUp.snoc hP.out (P2.kept (below_grown ((Below.refl _ _).alloc (Nat.le_refl _) _)) (fun T e => by cases e)) hp h4 ((own_down hO2 (by omega)).alloc _)
        exact k1.kept grow3 (own_row hown3)
      have HB3 : Hid (Below (w.heap.size + 1) W1 w3) := by
        have b2 : Below (w.heap.size + 1) W1 w2 := hB.out.trans (B2.mono (by omega))
        exact Below.grown (b2.alloc (by omega) _) grow3 (by simp; omega) (fun j hj => (hown3.lt _ hj).1)
      have HO3 : Hid (w3.ownsRow (w.heap.size + 1) 41 1 (.slice (some ⟨gg, 0, none⟩) (k + 1) cc) (k + 1) (vs ++ [.slice (some ⟨p, 0, none⟩) 4 c])) := own3
      have happ : appRun Try.prog 23 23 u5 (.slice (some ⟨w2.heap.size, 0, none⟩) 1 1) (w2.alloc (.cells #[.slice (some ⟨p, 0, none⟩) 4 c] 41)) = .ok (.slice (some ⟨gg, 0, none⟩) (k + 1) cc) w3 := hrun
      clear hrun own3 grow3 hown3 own2 P2 hO2 B2 hown hP hB hat
      go_wp2
      go_roundw
      case rel => exact ⟨k + 1, _, by omega, by go_num, HO3, HP3, HB3⟩
      case measure => simp [intOf]; omega
    · obtain rfl : k = 6 := by omega
      obtain ⟨a3, c3, hv3, hM, _⟩ := own_mem hP.out hsl hown.out
      subst hv3
      clear hown hP hpage
      go_wp2
      go_ret
      rw [Hsm.out]
      exact ⟨a3, c3, rfl, hM.wide (Nat.le_succ w.heap.size) (Nat.le_refl _), hBw⟩

end Go.Proofs.Ytjegndgdpmlbaaa

/-
  What the program's own HostFree, and the given one, answer.
-/
set_option linter.unusedSimpArgs false
namespace Go.Proofs.Ytjegndgdpmlbaaa
open Go.RowKit
attribute [local go_sem ↓] Go.wp_at_zero Go.wp_at_succ exec_app exec_lod exec_house exec_mapsA exec_allocL exec_storeL exec_buildL exec_idxM exec_look exec_upd exec_allocH exec_buildH exec_storeH exec_bsL
attribute [local go_sem] bigNext_ok bigSkip_ok

/-- The frames in which no page is, up to one. -/
def freeUp (U : Int → Nat) (f : Nat) : List Int := ((List.range f).filter fun i : Nat => U (i : Int) == 0).map fun i : Nat => (i : Int)
theorem freeUp_yes (U : Int → Nat) (f : Nat) (h : U (f : Int) = 0) : freeUp U (f + 1) = freeUp U f ++ [(f : Int)] := by simp [freeUp, List.range_succ, List.filter_append, h]
theorem freeUp_no (U : Int → Nat) (f : Nat) (h : U (f : Int) ≠ 0) : freeUp U (f + 1) = freeUp U f := by simp [freeUp, List.range_succ, List.filter_append, h]
theorem freeUp_len (U : Int → Nat) (f : Nat) : (freeUp U f).length ≤ f := by
  rw [freeUp, List.length_map]
  exact Nat.le_trans (List.length_filter_le _ _) (by simp)
def freeH (h : Hst) : List Int := bif okHost h then freeUp (usersH h) 8 else []

/-- A list of words that is a call's own. -/
def OwnI (w : World) (lo hi : Nat) (v : Value) (zs : List Int) : Prop := ∃ a c, v = .slice a zs.length c ∧ (zs.length = 0 ∨ ∃ b, a = some ⟨b, 0, none⟩ ∧ lo ≤ b ∧ b < hi ∧ Ints w b 0 zs ∧ Room w b zs.length)
theorem own_i {w : World} {lo : Nat} {v : Value} {zs : List Int} (h : w.ownsRow lo 3 1 v zs.length (zv zs)) : OwnI w lo w.heap.size v zs := by
  have hc := h
  obtain ⟨hlen, hd⟩ := h
  rcases hd with ⟨rfl, h0⟩ | ⟨g, cap, cur, rfl, hg, hh, hcap, _⟩
  · exact ⟨none, 0, by rw [h0], Or.inl h0⟩
  · exact ⟨_, _, rfl, Or.inr ⟨g, rfl, hg, (hc.lt g rfl).2, own_ints hc, own_room1 hc⟩⟩

/-- One word more. -/
theorem int_app {w W : World} {N : Nat} {v : Value} {zs : List Int} (z : Int) (hown : W.ownsRow N 3 1 v zs.length (zv zs)) (hB : Below N w W) (hN : N ≤ W.heap.size) (hl : zs.length ≤ 1000) :
    ∃ g c w1, appRun Try.prog 41 41 v (.slice (some ⟨W.heap.size, 0, none⟩) 1 1) (W.alloc (.cells #[.int .i64 z] 3)) = .ok (.slice (some ⟨g, 0, none⟩) (zs.length + 1) c) w1 ∧ Hid (w1.ownsRow N 3 1 (.slice (some ⟨g, 0, none⟩) (zs.length + 1) c) (zs ++ [z]).length (zv (zs ++ [z])) ∧ Below N w w1) := by
  obtain ⟨i0, hi0, hz0, hz1, hz2⟩ := info_parts infoZ
  have hown3 := hown.alloc (.cells #[.int .i64 z] 3)
  obtain ⟨g, c, w1, hrun, own3, grow3, hat, hlt3⟩ := run_append_lies (P := Try.prog) (W.alloc (.cells #[.int .i64 z] 3)) 41 41 N 3 i0 (.int .i64 0) 1 8 Try.underlying41 hi0 hz0 hz1 hz2 rfl (by decide) _ zs.length _ hown3 ⟨W.heap.size, 0, none⟩ 1 1 [.int .i64 z] rfl (one_new W _ _) (by simp [Value.oneCell']) (by decide) (by simp [maxLen]; omega) (by omega) (by simp; omega) _ rfl
  refine ⟨g, c, w1, hrun, ?_, Below.grown (hB.alloc hN _) grow3 (by simp; omega) (fun j hj => (hown3.lt _ hj).1)⟩
  rw [List.length_append, zv, List.map_append]
  exact own3

set_option maxRecDepth 100000 in
set_option maxHeartbeats 8000000 in
theorem implFree (L n cl : Nat) (fs : List (List Int)) (hand : Int) (gs : List Gst) (w : World) (hf : fs.length = 8) (hn : n ≤ 2) (hL : LodsAt w L n gs) (hwf : WfGs n gs) :
    Calls Try.prog 59 #[.agg (houseC fs (.slice (some ⟨L, 0, none⟩) n cl) hand).toArray] w fun e w' => ∃ v, e = .returned v ∧ OwnI w' w.heap.size w'.heap.size v (freeUp (fun f => (ten gs f).length) 8) ∧ Below w.heap.size w w' := by
  obtain ⟨i0, hi0, hz0, hz1, hz2⟩ := info_parts infoZ
  obtain ⟨hgl, hLw, hLs⟩ := hL
  have hr0 : (w.alloc (.cells (houseC fs (.slice (some ⟨L, 0, none⟩) n cl) hand).toArray 60)).rangeAt w.heap.size 0 (houseC fs (.slice (some ⟨L, 0, none⟩) n cl) hand) := range_new w _ 60
  have hiH : (Try.prog.info? 60).map (·.size) = some (houseC fs (.slice (some ⟨L, 0, none⟩) n cl) hand).length := by rw [houseC_len hf]; kernel_rfl
  have hld := big_load Try.underlying60 rfl hiH _ _ _ hr0
  have B0 : Below w.heap.size w (w.alloc (.cells (houseC fs (.slice (some ⟨L, 0, none⟩) n cl) hand).toArray 60)) := (Below.refl _ _).alloc (Nat.le_refl _) _
  have ht := implTenants L n cl fs hand gs (w.alloc (.cells (houseC fs (.slice (some ⟨L, 0, none⟩) n cl) hand).toArray 60)) hf hgl hn (fun i hi => (hLs i hi).1) hwf (by rw [World.size_alloc]; omega) (fun i hi => range_below (hLs i hi).2 B0 hLw)
  have hmk : ∀ w : World, (Instr.makeSlice 41 (.int .i64 0) (.int .i64 8)).run Try.prog w = .ok (.slice (some ⟨w.heap.size, 0, none⟩) 0 8) (w.alloc (.cells (madeCells #[.int .i64 0] (8 * 1)) 3)) := fun w => by
    have h := run_make (P := Try.prog) w 41 3 i0 _ Try.underlying41 hi0 hz0 .i64 .i64 0 8 (by omega) (by omega) (by rw [hz2]; omega) (by omega)
    rw [hz1] at h
    simpa [Value.cells] using h
  generalize hh : (houseC fs (.slice (some ⟨L, 0, none⟩) n cl) hand).toArray = hs at *
  clear hh hr0 hiH hLs
  go_enter Try.func59, Try.ntmps59
  go_wp2_with (fail)
  refine ht.mono ?_
  rintro e w1 ⟨r, rfl, hr1, hW, B1⟩
  have hrl := hW.lt
  have hlook := fun (f : Int) (hf : (Lit.int .i64 f).wf = true) => hW.look f hf
  have HB1 : Hid (Below w.heap.size w w1) := B0.trans (B1.mono B0.size)
  obtain ⟨mk, hmkE⟩ : ∃ mk, mk = madeCells #[.int .i64 0] (8 * 1) := ⟨_, rfl⟩
  rw [← hmkE] at hmk
  have hst : Hid ((w1.alloc (.cells mk 3)).ownsRow w1.heap.size 3 1 (.slice (some ⟨w1.heap.size, 0, none⟩) 0 8) 0 []) := World.ownsRow_made (e := 3) (size := 1) w1 mk 8 (Nat.le_refl _) (by simp [maxLen]) (by rw [hmkE, size_madeCells])
  clear ht hW B1 B0 hld hmkE
  obtain ⟨U, hU⟩ : ∃ U : Int → Nat, U = fun f => (ten gs f).length := ⟨_, rfl⟩
  have hlk : ∀ k : Nat, k < 8 → ∃ a c, ∀ W' : World, W'.heap[r]? = w1.heap[r]? → lookRun Try.prog 106 (.map (some r)) (.int .i64 (k : Int)) W' = .ok (.slice a (U (k : Int)) c) W' := fun k hk => by
    obtain ⟨a, c, h1, _⟩ := hlook (k : Int) (by
      match k, hk with
      | 0, _ => decide
      | 1, _ => decide
      | 2, _ => decide
      | 3, _ => decide
      | 4, _ => decide
      | 5, _ => decide
      | 6, _ => decide
      | 7, _ => decide)
    rw [hU]
    exact ⟨a, c, h1⟩
  have HU : Hid (U = fun f => (ten gs f).length) := hU
  clear hlook hU
  go_wp2_with (fail)
  clear hmk
  go_loopw [4, 9] (fun v i wr => ∃ k : Nat, k ≤ 8 ∧ i = .int .i64 k ∧ Hid (wr.ownsRow w1.heap.size 3 1 v (freeUp U k).length (zv (freeUp U k))) ∧ Hid (Below w1.heap.size w1 wr)) (fun _ i _ => 8 - (intOf i).toNat)
  case atStart => exact ⟨0, Nat.zero_le _, rfl, hst.out, (Below.refl _ _).alloc (Nat.le_refl _) _⟩
  case round =>
    clear hst
    obtain ⟨k, hk, rfl, hown, hB⟩ := hrel
    have sB := hB.out.size
    by_cases hkl : k < 8
    · have hki : (k : Int) < 8 := by omega
      obtain ⟨a, c, hl0⟩ := hlk k hkl
      have hl1 := hl0 wr (hB.out.block r hrl)
      have hlen := freeUp_len U k
      clear hl0
      by_cases hu : U (k : Int) = 0
      · obtain ⟨g, c', w3, happ, HR⟩ := int_app (k : Int) hown.out hB.out sB (by omega)
        rw [← freeUp_yes U k hu] at HR
        rw [hu] at hl1
        clear hown hB
        generalize (freeUp U k).length = fl at *
        go_wp2
        go_roundw
        case rel => exact ⟨k + 1, by omega, by go_num, HR.out.1, HR.out.2⟩
        case measure => simp [intOf]; omega
      · have hu' : ((U (k : Int) : Int) == 0) = false := by simp; omega
        have hown' : Hid (wr.ownsRow w1.heap.size 3 1 u4 (freeUp U (k + 1)).length (zv (freeUp U (k + 1)))) := by rw [freeUp_no U k hu]; exact hown
        clear hown
        generalize U (k : Int) = uk at *
        go_wp2
        go_roundw
        case rel => exact ⟨k + 1, by omega, by go_num, hown', hB⟩
        case measure => simp [intOf]; omega
    · obtain rfl : k = 8 := by omega
      have HO := own_i hown.out
      have hsz := HB1.out.size
      rw [HU.out] at HO
      obtain ⟨a, c, rfl, hd⟩ := HO
      have HD : Hid ((freeUp (fun f => (ten gs f).length) 8).length = 0 ∨ ∃ b, a = some ⟨b, 0, none⟩ ∧ w.heap.size ≤ b ∧ b < wr.heap.size ∧ Ints wr b 0 (freeUp (fun f => (ten gs f).length) 8) ∧ Room wr b (freeUp (fun f => (ten gs f).length) 8).length) := by
        rcases hd with h0 | ⟨b, e, h1, h2⟩
        · exact Or.inl h0
        · exact Or.inr ⟨b, e, by omega, h2⟩
      clear hd hown
      go_wp2
      exact bodyPost_ret (v := .slice a (freeUp (fun f => (ten gs f).length) 8).length c) (by simp [results, Try.results59, go_sem]) rfl ⟨_, rfl, ⟨a, c, rfl, HD.out⟩, HB1.out.trans (hB.out.mono hsz)⟩
end Go.Proofs.Ytjegndgdpmlbaaa

/-
  What the program's own HostFree, and the given one, answer: the whole.
-/
set_option linter.unusedSimpArgs false
namespace Go.Proofs.Ytjegndgdpmlbaaa
open Go.RowKit
attribute [local go_sem ↓] Go.wp_at_zero Go.wp_at_succ exec_app exec_lod exec_house exec_mapsA exec_allocL exec_storeL exec_buildL exec_idxM exec_look exec_upd exec_allocH exec_buildH exec_storeH exec_bsL
attribute [local go_sem] bigNext_ok bigSkip_ok

theorem free_same {h : Hst} (ho : okHost h = true) : freeUp (fun f => (ten h.guests f).length) 8 = freeH h := by
  rw [freeH, ho]
  have : (fun f => (ten h.guests f).length) = usersH h := by
    funext f
    exact ten_users h f (fun i hi => (okHost_guest ho hi).1.1)
  rw [this]
  rfl
theorem OwnI.wide {w : World} {lo lo' hi : Nat} {v : Value} {zs : List Int} (h : OwnI w lo hi v zs) (hl : lo' ≤ lo) : OwnI w lo' hi v zs := by
  obtain ⟨a, c, e, hd⟩ := h
  refine ⟨a, c, e, ?_⟩
  rcases hd with h0 | ⟨b, e, h1, h2⟩
  · exact Or.inl h0
  · exact Or.inr ⟨b, e, by omega, h2⟩

set_option maxRecDepth 100000 in
set_option maxHeartbeats 8000000 in
theorem implHostFree (lo hi : Nat) (af ag : Option Addr) (lf cf n cg : Nat) (h : Hst) (w : World) (hH : HostIn w lo hi (.slice af lf cf) (.slice ag n cg) h) (hh : hi ≤ w.heap.size) (hwf : WfGs h.guests.length h.guests) :
    Calls Try.prog 28 #[.agg #[.slice af lf cf, .slice ag n cg, .int .i64 h.hand]] w fun e w' => ∃ v, e = .returned v ∧ OwnI w' w.heap.size w'.heap.size v (freeH h) ∧ Below w.heap.size w w' := by
  have B0 : Below w.heap.size w (w.alloc (.cells #[.slice af lf cf, .slice ag n cg, .int .i64 h.hand] 26)) := (Below.refl _ _).alloc (Nat.le_refl _) _
  have hc := implHouseOf lo hi af ag lf cf n cg h _ (hH.same (below_sameIn B0 hh)) (Nat.le_trans hh B0.size) hwf
  obtain ⟨zH, hzs, hAl, hSt⟩ := house_var
  clear hH
  cases hok : okHost h
  · have hS2 : Hid (freeH h = []) := by
      show _ = _
      rw [freeH, hok]; rfl
    go_enter Try.func28, Try.ntmps28
    go_wp2_with (fail)
    refine hc.mono ?_
    rintro e w1 ⟨cs, hl, h1, rfl, B1, _⟩
    rw [houseB_eq, hok]
    have hS := hSt w1 cs hl h1
    have HB : Hid (Below w.heap.size w (w1.alloc (.cells cs.toArray 60))) := (B0.trans (B1.mono B0.size)).alloc (B0.trans (B1.mono B0.size)).size _
    clear hSt hc B0 B1
    go_wp2
    go_ret
    rw [hS2.out]
    exact ⟨_, rfl, ⟨none, 0, rfl, Or.inl rfl⟩, HB.out⟩
  · obtain ⟨hf8, hf4, _, hg2, _⟩ := okHost_frames hok
    have hfs := free_same hok
    go_enter Try.func28, Try.ntmps28
    go_wp2_with (fail)
    refine hc.mono ?_
    rintro e w1 ⟨cs, hl, h1, rfl, B1, hL⟩
    rw [houseB_eq] at hL ⊢
    rw [hok]
    obtain ⟨L, c, rfl, hL1, hL2, _⟩ := hL hok
    have hS := hSt w1 _ hl h1
    have hr := range_new w1 (houseC h.frames (.slice (some ⟨L, 0, none⟩) h.guests.length c) h.hand) 60
    have hiH : (Try.prog.info? 60).map (·.size) = some (houseC h.frames (.slice (some ⟨L, 0, none⟩) h.guests.length c) h.hand).length := by rw [hl]; kernel_rfl
    have BA : Below w1.heap.size w1 (w1.alloc (.cells (houseC h.frames (.slice (some ⟨L, 0, none⟩) h.guests.length c) h.hand).toArray 60)) := (Below.refl _ _).alloc (Nat.le_refl _) _
    have hB1 : Below w.heap.size w w1 := B0.trans (B1.mono B0.size)
    have hld := big_load Try.underlying60 rfl hiH _ _ _ hr
    have hL2' := hL2.below BA (hL2.2.1) (Nat.le_refl _)
    have hB2 : Hid (Below w.heap.size w (w1.alloc (.cells (houseC h.frames (.slice (some ⟨L, 0, none⟩) h.guests.length c) h.hand).toArray 60))) := hB1.trans (BA.mono hB1.size)
    have hfr := implFree L h.guests.length c h.frames h.hand h.guests _ hf8 hg2 hL2' hwf
    rw [hfs] at hfr
    clear hSt hc B0 hL hr hiH BA hL2 hL2' hB1 B1
    generalize (houseC h.frames (.slice (some ⟨L, 0, none⟩) h.guests.length c) h.hand).toArray = hs at *
    go_wp2_with (fail)
    refine hfr.mono ?_
    rintro e w3 ⟨v, rfl, hO, B3⟩
    obtain ⟨a, c', rfl, hd⟩ := hO.wide hB2.out.size
    have HD : Hid ((freeH h).length = 0 ∨ ∃ b, a = some ⟨b, 0, none⟩ ∧ w.heap.size ≤ b ∧ b < w3.heap.size ∧ Ints w3 b 0 (freeH h) ∧ Room w3 b (freeH h).length) := hd
    have HB : Hid (Below w.heap.size w w3) := hB2.out.trans (B3.mono hB2.out.size)
    clear hfr hO B3 hd hld hS
    go_wp2
    go_ret
    exact ⟨_, rfl, ⟨a, c', rfl, HD.out⟩, HB.out⟩

set_option maxRecDepth 100000 in
set_option maxHeartbeats 8000000 in
theorem specHostFree (lo hi : Nat) (af ag : Option Addr) (lf cf n cg : Nat) (h : Hst) (w : World) (hH : HostIn w lo hi (.slice af lf cf) (.slice ag n cg) h) (hlf : h.frames.length = lf) (hn : h.guests.length = n) (hh : hi ≤ w.heap.size) (hS : SmallH h) :
    Calls Try.prog 29 #[.agg #[.slice af lf cf, .slice ag n cg, .int .i64 h.hand]] w fun e w' => ∃ v, e = .returned v ∧ OwnI w' w.heap.size w'.heap.size v (freeH h) ∧ Below w.heap.size w w' := by
  obtain ⟨W1, hW1⟩ : ∃ W1, W1 = w.alloc (.cells #[.slice af lf cf, .slice ag n cg, .int .i64 h.hand] 26) := ⟨_, rfl⟩
  have s1 : W1.heap.size = w.heap.size + 1 := by rw [hW1]; simp
  have B1 : Below w.heap.size w W1 := by rw [hW1]; exact (Below.refl _ _).alloc (Nat.le_refl _) _
  have x1 : W1.cell? ⟨w.heap.size, 0, none⟩ = some (.slice af lf cf) ∧ W1.cell? ⟨w.heap.size, 1, none⟩ = some (.slice ag n cg) ∧ W1.cell? ⟨w.heap.size, 2, none⟩ = some (.int .i64 h.hand) := by rw [hW1]; simp
  obtain ⟨W2, hW2⟩ : ∃ W2, W2 = W1.alloc (.cells #[] 3) := ⟨_, rfl⟩
  have s2 : W2.heap.size = w.heap.size + 1 + 1 := by rw [hW2, World.size_alloc, s1]
  have B2 : Below (w.heap.size + 1) W1 W2 := by rw [hW2]; exact (Below.refl _ _).alloc (by omega) _
  have own2 : W2.ownsRow (w.heap.size + 1) 3 1 (.slice (some ⟨w.heap.size + 1, 0, none⟩) 0 0) 0 [] := by
    have := World.ownsRow_made (e := 3) (size := 1) W1 #[] 0 (Nat.le_refl _) (by simp [maxLen]) rfl
    rw [s1] at this
    rw [hW2]
    exact this
  have B02 : Below w.heap.size w W2 := B1.trans (B2.mono (Nat.le_succ _))
  obtain ⟨hF, hG⟩ := hH.parts
  have hok := hostOk_core lo hi af ag lf cf n cg h W2 hlf (hF.same (below_sameIn B02 hh)) hn (hG.same (below_sameIn B02 hh)) (by omega) hS
  rw [hW1] at hW2
  clear hF hG
  cases ho : okHost h
  · have hS2 : Hid (freeH h = []) := by
      show _ = _
      rw [freeH, ho]; rfl
    rw [ho] at hok
    clear hH own2
    go_enter Try.func29, Try.ntmps29
    go_wp2_with (fail)
    rw [← hW2]
    clear hW2 hW1
    refine hok.mono ?_
    rintro e w3 ⟨rfl, B3⟩
    have HB3 : Hid (Below w.heap.size w w3) := B02.trans (B3.mono (by omega))
    clear hok B3 B1 B2 B02
    go_wp2
    go_ret
    rw [hS2.out]
    exact ⟨_, rfl, ⟨_, _, rfl, Or.inl rfl⟩, HB3.out⟩
  · have hfe : Hid (freeH h = freeUp (usersH h) 8) := by
      show _ = _
      rw [freeH, ho]; rfl
    obtain ⟨hf8, _, hg1, hg2, _⟩ := okHost_frames ho
    have hus := fun (W' : World) (B : Below w.heap.size w W') (f : Int) => specUsers lo hi _ _ h f W' (hH.same (below_sameIn B hh)) (Nat.le_trans hh B.size) (by omega) (fun i hi => by rw [(okHost_guest ho hi).1.1]; omega)
    rw [ho] at hok
    clear hH
    go_enter Try.func29, Try.ntmps29
    go_wp2_with (fail)
    rw [← hW2]
    clear hW2 hW1
    refine hok.mono ?_
    rintro e w3 ⟨rfl, B3⟩
    have hst : Hid (w3.ownsRow (w.heap.size + 1) 3 1 (.slice (some ⟨w.heap.size + 1, 0, none⟩) 0 0) 0 [] ∧ Below (w.heap.size + 1) W1 w3) := ⟨own_below own2 B3, B2.trans (B3.mono (by omega))⟩
    clear hok B3 B2 B02 own2 s2
    generalize usersH h = U at *
    go_wp2
    go_loopw [3, 4] (fun v i wr => ∃ k : Nat, k ≤ 8 ∧ i = .int .i64 k ∧ Hid (wr.ownsRow (w.heap.size + 1) 3 1 v (freeUp U k).length (zv (freeUp U k))) ∧ Hid (Below (w.heap.size + 1) W1 wr)) (fun _ i _ => 8 - (intOf i).toNat)
    case atStart => exact ⟨0, Nat.zero_le _, rfl, hst.out.1, hst.out.2⟩
    case round =>
      clear hst
      obtain ⟨k, hk, rfl, hown, hB⟩ := hrel
      have sB := hB.out.size
      have HBw : Hid (Below w.heap.size w wr) := B1.trans (hB.out.mono (Nat.le_succ _))
      by_cases hkl : k < 8
      · have hki : (k : Int) < 8 := by omega
        obtain ⟨y0, y1, y2⟩ := cells3 hB.out (Nat.lt_succ_self w.heap.size) x1
        have hu1 := hus wr HBw.out (k : Int)
        have hlen := freeUp_len U k
        have hlt : w.heap.size < wr.heap.size := by omega
        clear hus
        go_wp2_with (fail)
        refine hu1.mono ?_
        rintro e w4 ⟨rfl, B4⟩
        have own4 := own_below hown.out B4
        have Bw4 : Below (w.heap.size + 1) W1 w4 := hB.out.trans (B4.mono (by omega))
        have s4 := B4.size
        by_cases hu : U (k : Int) = 0
        · obtain ⟨g, c', w5, happ, HR⟩ := int_app (k : Int) own4 Bw4 (by omega) (by omega)
          rw [← freeUp_yes U k hu] at HR
          rw [hu]
          clear hown hB hu1 own4 Bw4 B4
          generalize (freeUp U k).length = fl at *
          go_wp2
          go_roundw
          case rel => exact ⟨k + 1, by omega, by go_num, HR.out.1, HR.out.2⟩
          case measure => simp [intOf]; omega
        · have hu' : ((U (k : Int) : Int) == 0) = false := by simp; omega
          have hown' : Hid (w4.ownsRow (w.heap.size + 1) 3 1 u3 (freeUp U (k + 1)).length (zv (freeUp U (k + 1)))) := by rw [freeUp_no U k hu]; exact own4
          have HB4 : Hid (Below (w.heap.size + 1) W1 w4) := Bw4
          clear hown hB hu1 own4 Bw4 B4
          generalize U (k : Int) = uk at *
          go_wp2
          go_roundw
          case rel => exact ⟨k + 1, by omega, by go_num, hown', HB4⟩
          case measure => simp [intOf]; omega
      · obtain rfl : k = 8 := by omega
        have HO := (own_i hown.out).wide (Nat.le_succ w.heap.size)
        rw [← hfe.out] at HO
        obtain ⟨a, c, rfl, hd⟩ := HO
        have HD : Hid ((freeH h).length = 0 ∨ ∃ b, a = some ⟨b, 0, none⟩ ∧ w.heap.size ≤ b ∧ b < wr.heap.size ∧ Ints wr b 0 (freeH h) ∧ Room wr b (freeH h).length) := hd
        clear hd hown hfe hB
        go_wp2
        go_ret
        exact ⟨_, rfl, ⟨a, c, rfl, HD.out⟩, HBw.out⟩
end Go.Proofs.Ytjegndgdpmlbaaa
