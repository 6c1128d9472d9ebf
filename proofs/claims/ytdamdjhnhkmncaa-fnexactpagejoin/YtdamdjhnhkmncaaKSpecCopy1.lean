/-
  What the given l12Copy does at an ok host: the whole.
-/
import Derived.Test.YtdamdjhnhkmncaaKSpecCopy0
import Derived.Deep.RegionHeld3
import Derived.Test.YtdamdjhnhkmncaaKWalkFnExactHostOk
set_option linter.unusedSimpArgs false
namespace Go.Proofs.Ytdamdjhnhkmncaa
open Go.RowKit
attribute [local go_sem ↓] Go.wp_at_zero Go.wp_at_succ exec_app
attribute [local go_sem] bigNext_ok

set_option maxRecDepth 100000 in
set_option maxHeartbeats 8000000 in
theorem specHostCopy (lo hi : Nat) (af ag : Option Addr) (cf n cg : Nat) (h : Hst) (w : World) (hF : IsMem w lo hi af 8 h.frames) (hG : IsGuests w lo hi ag n h.guests) (hh : hi ≤ w.heap.size) (ho : okHost h = true) (hn : h.guests.length = n) :
    Calls Try.prog 60 #[.agg #[.slice af 8 cf, .slice ag n cg, .int .i64 h.hand]] w fun e w' => ∃ vf T c, e = .returned (.agg #[vf, .slice (some ⟨T, 0, none⟩) n c, .int .i64 h.hand]) ∧ OwnHost w' w.heap.size w'.heap.size vf (.slice (some ⟨T, 0, none⟩) n c) h ∧ Room w' T (n * 3) ∧ Below w.heap.size w w' := by
  obtain ⟨hf8, hf4, hg1, hg2, _⟩ := okHost_frames ho
  obtain ⟨W2, hW2⟩ : ∃ W2, W2 = (w.alloc (.cells #[.slice af 8 cf, .slice ag n cg, .int .i64 h.hand] 27)).alloc (.cells #[.slice none 0 0, .slice none 0 0, .int .i64 0] 27) := ⟨_, rfl⟩
  have B2 : Below w.heap.size w W2 := by rw [hW2]; exact ((Below.refl _ _).alloc (Nat.le_refl _) _).alloc (by simp) _
  have s2 : W2.heap.size = w.heap.size + 2 := by rw [hW2]; simp
  have p2 : Var3 W2 w.heap.size (.slice af 8 cf) (.slice ag n cg) (.int .i64 h.hand) := by rw [hW2]; exact (var3_new w _ _ _ _).allocK _
  have r2 : Var3 W2 (w.heap.size + 1) (.slice none 0 0) (.slice none 0 0) (.int .i64 0) := by rw [hW2]; exact var3_newK (by simp)
  have hCp : ∀ (W : World), Below W2.heap.size W2 W → Calls Try.prog 90 #[.slice af 8 cf] W fun e w' => ∃ a' c' d0, d0 = W.heap.size ∧ e = .returned (.slice a' 8 c') ∧ OwnMem w' d0 w'.heap.size a' 8 h.frames ∧ Below W.heap.size W w' ∧ w'.cell? ⟨w.heap.size, 2, none⟩ = some (.int .i64 h.hand) ∧ w.heap.size < w'.heap.size ∧ Hid (Below W2.heap.size W2 w') := fun W B => by
    have BB := B2.trans (B.mono B2.size)
    refine (specCopy lo hi af 8 cf h.frames W (hF.same (below_sameIn BB hh)) (Nat.le_trans hh BB.size) (by omega) (fun i hi => by rw [hf4 i hi]; omega)).mono ?_
    rintro e w' ⟨a', c', rfl, hM, B'⟩
    have BW := B.trans (B'.mono B.size)
    have := BW.size
    exact ⟨a', c', _, rfl, rfl, hM, B', (p2.same (BW.block _ (by omega))).2.2.1, by omega, BW⟩
  have x2 := p2.1
  have x22 := p2.2.2.1
  have hl2 : w.heap.size < W2.heap.size := by omega
  have Hs2 : Hid (W2.heap.size = w.heap.size + 2) := s2
  clear s2
  go_enter Try.func60, Try.ntmps60
  go_wp2_with (fail)
  rw [← hW2]
  clear hW2
  go_cut [3] (fun s wx => ∃ X af' cf' m0 m1, s = .pointer (some ⟨X, 0, none⟩) ∧ CopyAt w wx X (.slice af 8 cf) (.slice ag n cg) h.hand (.slice af' 8 cf') (.slice none 0 0) m0 m1 ∧ OwnMem wx m0 m1 af' 8 h.frames)
  case first =>
    go_region_with (go_at_call 90; refine (hCp _ (by (repeat' (with_reducible (first | exact Below.refl _ _ | apply Below.setCell | apply Below.alloc | apply below_drewN | apply Below.drew))) <;> (first | exact Nat.le_refl _ | (simp; done) | (simp; omega)))).mono ?_; rintro e w1 ⟨a', c', d0, hd0, rfl, hM, B1, q2, q3, HB1⟩; (first | (have y := newT_0 B1; rcases y with ⟨y0, y1, y2, y3, y4, y5, y6⟩) | skip))
    all_goals go_wp2_with fail
    all_goals go_meet
    all_goals go_light
    all_goals
      have s1 := B1.size
      simp only [World.size_alloc, World.size_drew] at s1 hd0
      refine ⟨_, a', c', d0, w1.heap.size, rfl, ?_, ?_⟩
      · first
        | (with_reducible refine copyA B2 Hs2.out p2 r2 HB1.out ?_ ?_) <;> omega
        | (with_reducible refine copyB B2 Hs2.out p2 r2 HB1.out ?_ ?_ (var3_mk y0 y1 y2 y3 y4 y5)) <;> omega
      · (repeat' (with_reducible (first | exact hM | apply OwnMem.allocK | apply OwnMem.drewK | apply OwnMem.otherK))) <;> (first | omega | (simp; done) | (simp; omega))
  case rest =>
    obtain ⟨X, af', cf', m0, m1, rfl, ⟨hp, hr, hX, hB, n1, n2, n3, n4, n5⟩, hM⟩ := hcut
    have n6 : X < wc.heap.size := hX.lt
    have HU : Hid (CopyUp w wc wc.heap.size X 0 (.slice af 8 cf) (.slice ag n cg) h.hand af' cf' none 0 m0 m1 h.frames h.guests) := ⟨hp, hr, hX, hM, hB, Nat.le_refl _, [], World.ownsRow_nil _ _ _ _, GuestsVs.nil _ _ _ _ _ _⟩
    clear hp hr hX hB hM hCp p2 r2 B2 Hs2 x2 x22 hl2
    go_wp2_with (fail)
    go_loopw [4] (fun i wr => ∃ k : Nat, ∃ ag' cg', k ≤ n ∧ i = .int .i64 k ∧ Hid (CopyUp w wr wc.heap.size X k (.slice af 8 cf) (.slice ag n cg) h.hand af' cf' ag' cg' m0 m1 h.frames h.guests)) (fun i _ => n - (intOf i).toNat)
    case atStart => exact ⟨0, none, 0, Nat.zero_le _, rfl, HU.out⟩
    case round =>
      clear HU
      obtain ⟨k, ag', cg', hk, rfl, hU⟩ := hrel
      obtain ⟨⟨p0, p1, p2, _⟩, _, ⟨x0, x1, x2, x3, x4, x5⟩, _, hBw, hMl, _⟩ := hU.out
      have hlp : w.heap.size < wr.heap.size := by omega
      have hlX : X < wr.heap.size := by omega
      by_cases hkl : k < n
      · have hki : (k : Int) < (n : Int) := by omega
        obtain ⟨hsz, _, _⟩ := okHost_guest ho (show k < h.guests.length by omega)
        obtain ⟨hm6, hd6, hd4, hs6⟩ := hsz
        obtain ⟨b, o, am, cm0, ad0, cd0, aS, cs0, rfl, hb1, hb2, q0, q1, q2, hMa, hMd, hMs⟩ := hG.get hkl
        rw [hm6] at q0 hMa
        rw [hd6] at q1 hMd
        rw [hs6] at q2 hMs
        obtain ⟨_, hMa⟩ := hMa
        obtain ⟨_, hMs⟩ := hMs
        rcases hMa with h0 | ⟨bm, om, rfl, hm1, hm2, hMa⟩
        · omega
        rcases hMs with h0 | ⟨bs, os, rfl, hs1, hs2, hMs⟩
        · omega
        have hbw : b < wr.heap.size := by have := hBw.size; omega
        have c0 := (hBw.cell (p := ⟨b, o + k * 3, none⟩) (show b < w.heap.size by omega)).trans q0
        have c1 := (hBw.cell (p := ⟨b, o + k * 3 + 1, none⟩) (show b < w.heap.size by omega)).trans q1
        have c2 := (hBw.cell (p := ⟨b, o + k * 3 + 2, none⟩) (show b < w.heap.size by omega)).trans q2
        go_wp2_with (fail)
        obtain ⟨W0, hW0⟩ : ∃ W0, W0 = wr.alloc (.cells #[.slice (some ⟨bm, om, none⟩) 6 cm0, .slice ad0 6 cd0, .slice (some ⟨bs, os, none⟩) 6 cs0] 63) := ⟨_, rfl⟩
        rw [← hW0]
        have B0 : Below wr.heap.size wr W0 := by rw [hW0]; exact (Below.refl _ _).alloc (Nat.le_refl _) _
        have sN : W0.heap.size ≤ W0.heap.size := Nat.le_refl _
        have t0 : W0.heap.size ≤ wr.heap.size + 1 ∧ wr.heap.size + 1 ≤ W0.heap.size := by rw [hW0]; simp
        have lX0 : X < W0.heap.size := by omega
        have x1W := (B0.cell (p := ⟨X, 1, none⟩) (show X < wr.heap.size by omega)).trans x1
        have e0 : W0.cell? ⟨wr.heap.size, 0, none⟩ = some (.slice (some ⟨bm, om, none⟩) 6 cm0) ∧ W0.cell? ⟨wr.heap.size, 1, none⟩ = some (.slice ad0 6 cd0) ∧ W0.cell? ⟨wr.heap.size, 2, none⟩ = some (.slice (some ⟨bs, os, none⟩) 6 cs0) := by rw [hW0]; simp
        clear hW0
        obtain ⟨S, hSE⟩ : ∃ S : World → Prop, S = fun W' => W'.cell? ⟨wr.heap.size, 0, none⟩ = some (.slice (some ⟨bm, om, none⟩) 6 cm0) ∧ W'.cell? ⟨wr.heap.size, 1, none⟩ = some (.slice ad0 6 cd0) ∧ W'.cell? ⟨wr.heap.size, 2, none⟩ = some (.slice (some ⟨bs, os, none⟩) 6 cs0) := ⟨_, rfl⟩
        have hcells : ∀ W', S W' → W'.cell? ⟨wr.heap.size, 0, none⟩ = some (.slice (some ⟨bm, om, none⟩) 6 cm0) ∧ W'.cell? ⟨wr.heap.size, 1, none⟩ = some (.slice ad0 6 cd0) ∧ W'.cell? ⟨wr.heap.size, 2, none⟩ = some (.slice (some ⟨bs, os, none⟩) 6 cs0) := fun W' hW' => by rw [hSE] at hW'; exact hW'
        have hSb : ∀ W', Below W0.heap.size W0 W' → S W' := fun W' B => by rw [hSE]; exact cells3 B (by omega) e0
        have hSf : ∀ W' W9, Below W0.heap.size W0 W' → W9.heap[wr.heap.size]? = W'.heap[wr.heap.size]? → S W9 := fun W' W9 B e => by
          rw [hSE]
          obtain ⟨u0, u1, u2⟩ := cells3 B (by omega) e0
          exact ⟨(World.cell?_of_block (a := ⟨wr.heap.size, 0, none⟩) e).trans u0, (World.cell?_of_block (a := ⟨wr.heap.size, 1, none⟩) e).trans u1, (World.cell?_of_block (a := ⟨wr.heap.size, 2, none⟩) e).trans u2⟩
        have hSw : ∀ W' v, S W' → S (W'.setCell ⟨X, 1, none⟩ v) := fun W' v hW' => by
          rw [hSE] at hW' ⊢
          have e : (W'.setCell ⟨X, 1, none⟩ v).heap[wr.heap.size]? = W'.heap[wr.heap.size]? := Below.heap_setCell _ _ _ _ (by simp; omega)
          exact ⟨(World.cell?_of_block (a := ⟨wr.heap.size, 0, none⟩) e).trans hW'.1, (World.cell?_of_block (a := ⟨wr.heap.size, 1, none⟩) e).trans hW'.2.1, (World.cell?_of_block (a := ⟨wr.heap.size, 2, none⟩) e).trans hW'.2.2⟩
        have hWr : ∀ W', Below W0.heap.size W0 W' → Below wr.heap.size wr W' := fun W' B => B0.trans (B.mono B0.size)
        have hWw : ∀ W', Below W0.heap.size W0 W' → Below w.heap.size w W' := fun W' B => hBw.trans ((hWr W' B).mono hBw.size)
        have hsM : ∀ W', Below W0.heap.size W0 W' → Ents W' bm om (h.guests.getD k noG).maps := fun W' B => hMa.sameH (below_sameIn (hWw W' B) hh) hm1 hm2
        have hsQ : ∀ W', Below W0.heap.size W0 W' → Quads W' bs os (h.guests.getD k noG).shades := fun W' B => hMs.same (below_sameIn (hWw W' B) hh) hs1 hs2
        have hCp : ∀ W', Below W0.heap.size W0 W' → Calls Try.prog 90 #[.slice ad0 6 cd0] W' fun e w' => ∃ a c, e = .returned (.slice a 6 c) ∧ OwnMem w' W'.heap.size w'.heap.size a 6 (h.guests.getD k noG).disk ∧ Below W'.heap.size W' w' := fun W' B => specCopy lo hi ad0 6 cd0 _ W' (hMd.same (below_sameIn (hWw W' B) hh)) (Nat.le_trans hh (hWw W' B).size) (by omega) (fun i hi => by rw [hd4 i hi]; omega)
        have Bc : Below W0.heap.size W0 W0.drew := (Below.refl _ _).drew
        have sz0 : W0.drew.heap.size ≤ W0.heap.size ∧ W0.heap.size ≤ W0.drew.heap.size := by rw [World.size_drew]; exact ⟨Nat.le_refl _, Nat.le_refl _⟩
        clear hMa hMs hMd hG hF c0 c1 c2 q0 q1 q2 p0 p1 p2 x0 x1 x2 x3 x4 x5 e0 hSE hb1 hb2 hbw hlp
        refine wp_region_held_drew (S := S) (by kernel_rfl) (hSb _ Bc) (fun hHeld => ?_)
        generalize W0.drew = Wd at Bc hHeld sz0 ⊢
        refine wpAnyH_take (i := 0) (v := ?_) (by simp only [List.getElem?_toArray, List.getElem?_cons_succ, List.getElem?_cons_zero]; rfl) (by kernel_rfl) (by kernel_rfl) (by kernel_rfl) (by exact fun _ _ _ h => h) (Or.inl ⟨by rfl, ?_⟩) hHeld ?_
        rotate_left
        · intro W' hW'; go_simp <;> with_reducible rfl
        simp only [Act.put, List.setIfInBounds_toArray, List.set_cons_zero, List.set_cons_succ]
        refine wpAnyH_take (i := 3) (v := ?_) (by simp only [List.getElem?_toArray, List.getElem?_cons_succ, List.getElem?_cons_zero]; rfl) (by kernel_rfl) (by kernel_rfl) (by kernel_rfl) (by exact fun _ _ _ h => h) (Or.inl ⟨by rfl, ?_⟩) hHeld ?_
        rotate_left
        · intro W' hW'; go_simp <;> with_reducible rfl
        simp only [Act.put, List.setIfInBounds_toArray, List.set_cons_zero, List.set_cons_succ]
        refine wpAnyH_take (i := 4) (v := ?_) (by simp only [List.getElem?_toArray, List.getElem?_cons_succ, List.getElem?_cons_zero]; rfl) (by kernel_rfl) (by kernel_rfl) (by kernel_rfl) (by exact fun _ _ _ h => h) (Or.inl ⟨by rfl, ?_⟩) hHeld ?_
        rotate_left
        · intro W' hW'; obtain ⟨z0, z1, z2⟩ := hcells W' hW'; go_simp <;> with_reducible rfl
        simp only [Act.put, List.setIfInBounds_toArray, List.set_cons_zero, List.set_cons_succ]
        refine wpAnyH_take (i := 6) (v := ?_) (by simp only [List.getElem?_toArray, List.getElem?_cons_succ, List.getElem?_cons_zero]; rfl) (by kernel_rfl) (by kernel_rfl) (by kernel_rfl) (by exact fun _ _ _ h => h) (Or.inl ⟨by rfl, ?_⟩) hHeld ?_
        rotate_left
        · intro W' hW'; go_simp <;> with_reducible rfl
        simp only [Act.put, List.setIfInBounds_toArray, List.set_cons_zero, List.set_cons_succ]
        refine wpAnyH_take (i := 7) (v := ?_) (by simp only [List.getElem?_toArray, List.getElem?_cons_succ, List.getElem?_cons_zero]; rfl) (by kernel_rfl) (by kernel_rfl) (by kernel_rfl) (by exact fun _ _ _ h => h) (Or.inl ⟨by rfl, ?_⟩) hHeld ?_
        rotate_left
        · intro W' hW'; obtain ⟨z0, z1, z2⟩ := hcells W' hW'; go_simp <;> with_reducible rfl
        simp only [Act.put, List.setIfInBounds_toArray, List.set_cons_zero, List.set_cons_succ]
        refine wpAnyH_take (i := 10) (v := ?_) (by simp only [List.getElem?_toArray, List.getElem?_cons_succ, List.getElem?_cons_zero]; rfl) (by kernel_rfl) (by kernel_rfl) (by kernel_rfl) (by exact fun _ _ _ h => h) (Or.inl ⟨by rfl, ?_⟩) hHeld ?_
        rotate_left
        · intro W' hW'; go_simp <;> with_reducible rfl
        simp only [Act.put, List.setIfInBounds_toArray, List.set_cons_zero, List.set_cons_succ]
        refine wpAnyH_take (i := 11) (v := ?_) (by simp only [List.getElem?_toArray, List.getElem?_cons_succ, List.getElem?_cons_zero]; rfl) (by kernel_rfl) (by kernel_rfl) (by kernel_rfl) (by exact fun _ _ _ h => h) (Or.inl ⟨by rfl, ?_⟩) hHeld ?_
        rotate_left
        · intro W' hW'; obtain ⟨z0, z1, z2⟩ := hcells W' hW'; go_simp <;> with_reducible rfl
        simp only [Act.put, List.setIfInBounds_toArray, List.set_cons_zero, List.set_cons_succ]
        refine wpAnyH_ready (rs := [1, 2, 9]) (by kernel_rfl) (by simp) ?_
        refine AllReadyH.cons (by simp only [List.getElem?_toArray, List.getElem?_cons_succ, List.getElem?_cons_zero]; rfl) (fun K hK => ?_) (AllReadyH.cons (by simp only [List.getElem?_toArray, List.getElem?_cons_succ, List.getElem?_cons_zero]; rfl) (fun K hK => ?_) (AllReadyH.cons (by simp only [List.getElem?_toArray, List.getElem?_cons_succ, List.getElem?_cons_zero]; rfl) (fun K hK => ?_) AllReadyH.nil))
        · rw [if_pos (by rfl)]
          have x1c := (Bc.cell (p := ⟨X, 1, none⟩) lX0).trans x1W
          have lXc : X < Wd.heap.size := Nat.lt_of_lt_of_le lX0 (Nat.le_trans sN Bc.size)
          go_simp
          clear x1c lXc
          refine hK.out _ _ hHeld (fun hHeld => ?_)
          clear hK K
          try simp only [Act.put, List.setIfInBounds_toArray, List.set_cons_zero, List.set_cons_succ]
          refine wpAnyH_ready (rs := [2, 9]) (by kernel_rfl) (by simp) ?_
          refine AllReadyH.cons (by simp only [List.getElem?_toArray, List.getElem?_cons_succ, List.getElem?_cons_zero]; rfl) (fun K hK => ?_) (AllReadyH.cons (by simp only [List.getElem?_toArray, List.getElem?_cons_succ, List.getElem?_cons_zero]; rfl) (fun K hK => ?_) AllReadyH.nil)
          · rw [if_pos (by rfl)]
            go_simp
            obtain ⟨Wa2, hWa2⟩ : ∃ W', W' = Wd.alloc (.cells #[] 76) := ⟨_, rfl⟩
            have E1 : Emp Wa2 W0.heap.size 76 Wd.heap.size := by rw [hWa2]; exact emp_new _ _ Bc.size
            have Ga2 : Below Wd.heap.size Wd Wa2 := by rw [hWa2]; exact (Below.refl _ _).alloc (Nat.le_refl _) _
            have za2 : Wa2.heap.size ≤ Wd.heap.size + 1 ∧ Wd.heap.size + 1 ≤ Wa2.heap.size := by rw [hWa2]; simp
            have Bs := Bc.size
            have Bc := Bc.trans (Ga2.mono Bs)
            rw [← hWa2]
            clear hWa2
            refine hK.out _ _ (hSb _ Bc) (fun hHeld => ?_)
            clear hK K
            try simp only [Act.put, List.setIfInBounds_toArray, List.set_cons_zero, List.set_cons_succ]
            refine wpAnyH_ready (rs := [5, 9]) (by kernel_rfl) (by simp) ?_
            refine AllReadyH.cons (by simp only [List.getElem?_toArray, List.getElem?_cons_succ, List.getElem?_cons_zero]; rfl) (fun K hK => ?_) (AllReadyH.cons (by simp only [List.getElem?_toArray, List.getElem?_cons_succ, List.getElem?_cons_zero]; rfl) (fun K hK => ?_) AllReadyH.nil)
            · rw [if_pos (by rfl)]
              obtain ⟨gM, cM, Wa3, hA, HA⟩ := appM (c := cm0) E1 Bc.size (hsM _ Bc) hm6
              go_simp
              try go_wp2_with (fail)
              clear hA
              obtain ⟨EM, RM, at5, lt5, gra3⟩ := HA.out
              clear HA
              have za3 := gra3.size
              have b5 := E1.1
              have k5 := E1.lt
              have Bs := Bc.size
              have Bc := Bc.trans (grown_below gra3 b5 Bs)
              clear E1 gra3
              refine hK.out _ _ (hSb _ Bc) (fun hHeld => ?_)
              clear hK K
              try simp only [Act.put, List.setIfInBounds_toArray, List.set_cons_zero, List.set_cons_succ]
              refine wpAnyH_ready (rs := [8, 9]) (by kernel_rfl) (by simp) ?_
              refine AllReadyH.cons (by simp only [List.getElem?_toArray, List.getElem?_cons_succ, List.getElem?_cons_zero]; rfl) (fun K hK => ?_) (AllReadyH.cons (by simp only [List.getElem?_toArray, List.getElem?_cons_succ, List.getElem?_cons_zero]; rfl) (fun K hK => ?_) AllReadyH.nil)
              · rw [if_pos (by rfl)]
                go_simp
                refine (hCp _ Bc).mono ?_
                rintro e Wa4 ⟨ad1, cd1, rfl, OM, Ga4⟩
                have za4 := Ga4.size
                have Bs := Bc.size
                have Bc := Bc.trans (Ga4.mono Bs)
                have EM := EM.sameH (below_sameIn Ga4 (Nat.le_refl _)) (Nat.zero_le _) (by omega)
                have RM := RM.same (below_sameIn Ga4 (Nat.le_refl _)) (Nat.zero_le _) (by omega)
                try go_wp2_with (fail)
                refine hK.out _ _ (hSb _ Bc) (fun hHeld => ?_)
                clear hK K
                try simp only [Act.put, List.setIfInBounds_toArray, List.set_cons_zero, List.set_cons_succ]
                refine wpAnyH_ready (rs := [9]) (by kernel_rfl) (by simp) ?_
                refine AllReadyH.cons (by simp only [List.getElem?_toArray, List.getElem?_cons_succ, List.getElem?_cons_zero]; rfl) (fun K hK => ?_) AllReadyH.nil
                rw [if_pos (by rfl)]
                go_simp
                obtain ⟨Wa5, hWa5⟩ : ∃ W', W' = Wa4.alloc (.cells #[] 81) := ⟨_, rfl⟩
                have E2 : Emp Wa5 W0.heap.size 81 Wa4.heap.size := by rw [hWa5]; exact emp_new _ _ Bc.size
                have Ga5 : Below Wa4.heap.size Wa4 Wa5 := by rw [hWa5]; exact (Below.refl _ _).alloc (Nat.le_refl _) _
                have za5 : Wa5.heap.size ≤ Wa4.heap.size + 1 ∧ Wa4.heap.size + 1 ≤ Wa5.heap.size := by rw [hWa5]; simp
                have Bs := Bc.size
                have Bc := Bc.trans (Ga5.mono Bs)
                rw [← hWa5]
                clear hWa5
                have EM := EM.sameH (below_sameIn Ga5 (Nat.le_refl _)) (Nat.zero_le _) (by omega)
                have RM := RM.same (below_sameIn Ga5 (Nat.le_refl _)) (Nat.zero_le _) (by omega)
                have OM := OM.same (below_sameIn Ga5 (Nat.le_refl _))
                refine hK.out _ _ (hSb _ Bc) (fun hHeld => ?_)
                clear hK K
                try simp only [Act.put, List.setIfInBounds_toArray, List.set_cons_zero, List.set_cons_succ]
                refine wpAnyH_ready (rs := [12]) (by kernel_rfl) (by simp) ?_
                refine AllReadyH.cons (by simp only [List.getElem?_toArray, List.getElem?_cons_succ, List.getElem?_cons_zero]; rfl) (fun K hK => ?_) AllReadyH.nil
                rw [if_pos (by rfl)]
                obtain ⟨gQ, cQ, Wa6, hA, HA⟩ := appQ (c := cs0) E2 Bc.size (hsQ _ Bc) hs6
                go_simp
                try go_wp2_with (fail)
                clear hA
                obtain ⟨EQ, RQ, at12, lt12, gra6⟩ := HA.out
                clear HA
                have za6 := gra6.size
                have b12 := E2.1
                have k12 := E2.lt
                have Bs := Bc.size
                have Bc := Bc.trans (grown_below gra6 b12 Bs)
                have sEM : SameIn gM (gM + 1) Wa5 Wa6 := fun j j1 j2 => gra6.block j (by omega) (by intro e; have e := Option.some.inj e; omega)
                have EM := EM.sameH sEM (Nat.le_refl _) (Nat.lt_succ_self _)
                have RM := RM.same sEM (Nat.le_refl _) (Nat.lt_succ_self _)
                have OM := OM.same (fun j j1 j2 => gra6.block j (by omega) (by intro e; have e := Option.some.inj e; omega))
                clear E2 gra6
                have hOG : OwnGuest Wa6 wr.heap.size Wa6.heap.size (.slice (some ⟨gM, 0, none⟩) 6 cM) (.slice ad1 6 cd1) (.slice (some ⟨gQ, 0, none⟩) 6 cQ) (h.guests.getD k noG) := ⟨gM, gQ, cM, cQ, ad1, cd1, _, _, by rw [hm6], by rw [hd6], by rw [hs6], EM, by rw [hm6]; exact RM, EQ, by rw [hs6]; exact RQ, by rw [hd6]; exact OM, by omega, by omega, by omega, by omega, by omega, by omega, by omega, by omega, by omega⟩
                obtain ⟨lXw, gg, capg, w9, hApp, y1, y3, yX, HN⟩ := copyUp_app hU.out (Nat.le_trans n2 (Nat.le_refl _)) n3 n4 n6 (by omega) (hWr _ Bc) hOG
                have yS := hSf _ w9 Bc (yX wr.heap.size (Nat.le_refl _) (by omega))
                clear yX
                clear hOG EM RM EQ RQ OM
                refine hK.out _ _ (hSb _ Bc) (fun hHeld => ?_)
                clear hK K
                try simp only [Act.put, List.setIfInBounds_toArray, List.set_cons_zero, List.set_cons_succ]
                refine wpAnyH_take (i := 13) (v := ?_) (by simp only [List.getElem?_toArray, List.getElem?_cons_succ, List.getElem?_cons_zero]; rfl) (by kernel_rfl) (by kernel_rfl) (by kernel_rfl) (by exact fun _ _ _ h => h) (Or.inl ⟨by rfl, ?_⟩) hHeld ?_
                rotate_left
                · intro W' hW'; go_simp <;> with_reducible rfl
                simp only [Act.put, List.setIfInBounds_toArray, List.set_cons_zero, List.set_cons_succ]
                refine wpAnyH_ready (rs := [14]) (by kernel_rfl) (by simp) ?_
                refine AllReadyH.cons (by simp only [List.getElem?_toArray, List.getElem?_cons_succ, List.getElem?_cons_zero]; rfl) (fun K hK => ?_) AllReadyH.nil
                rw [if_pos (by rfl)]
                go_simp
                refine hK.out _ _ (hSb _ (Bc.alloc Bc.size _)) (fun hHeld => ?_)
                clear hK K
                try simp only [Act.put, List.setIfInBounds_toArray, List.set_cons_zero, List.set_cons_succ]
                refine wpAnyH_ready (rs := [15]) (by kernel_rfl) (by simp) ?_
                refine AllReadyH.cons (by simp only [List.getElem?_toArray, List.getElem?_cons_succ, List.getElem?_cons_zero]; rfl) (fun K hK => ?_) AllReadyH.nil
                rw [if_pos (by rfl)]
                go_simp
                try go_wp2_with (fail)
                clear hApp
                refine hK.out _ _ yS (fun hHeld => ?_)
                clear hK K
                try simp only [Act.put, List.setIfInBounds_toArray, List.set_cons_zero, List.set_cons_succ]
                refine wpAnyH_take (i := 16) (v := ?_) (by simp only [List.getElem?_toArray, List.getElem?_cons_succ, List.getElem?_cons_zero]; rfl) (by kernel_rfl) (by kernel_rfl) (by kernel_rfl) (by exact fun _ _ _ h => h) (Or.inl ⟨by rfl, ?_⟩) hHeld ?_
                rotate_left
                · intro W' hW'; go_simp <;> with_reducible rfl
                simp only [Act.put, List.setIfInBounds_toArray, List.set_cons_zero, List.set_cons_succ]
                refine wpAnyH_ready (rs := [17]) (by kernel_rfl) (by simp) ?_
                refine AllReadyH.cons (by simp only [List.getElem?_toArray, List.getElem?_cons_succ, List.getElem?_cons_zero]; rfl) (fun K hK => ?_) AllReadyH.nil
                rw [if_pos (by rfl)]
                have lX9 : X < w9.heap.size := World.block_lt_of_cell? _ _ y1
                go_simp
                refine hK.out _ _ (hSw _ _ hHeld) (fun hHeld => ?_)
                clear hK K
                try simp only [Act.put, List.setIfInBounds_toArray, List.set_cons_zero, List.set_cons_succ]
                refine wpAnyH_done (by kernel_rfl) ?_ _
                go_wp2
                go_roundw
                case rel => exact ⟨k + 1, _, _, by omega, by go_num, HN⟩
                case measure => simp [intOf]; omega

              · rw [if_pos (by rfl)]
                go_simp
                obtain ⟨Wa9, hWa9⟩ : ∃ W', W' = Wa3.alloc (.cells #[] 81) := ⟨_, rfl⟩
                have E2 : Emp Wa9 W0.heap.size 81 Wa3.heap.size := by rw [hWa9]; exact emp_new _ _ Bc.size
                have Ga9 : Below Wa3.heap.size Wa3 Wa9 := by rw [hWa9]; exact (Below.refl _ _).alloc (Nat.le_refl _) _
                have za9 : Wa9.heap.size ≤ Wa3.heap.size + 1 ∧ Wa3.heap.size + 1 ≤ Wa9.heap.size := by rw [hWa9]; simp
                have Bs := Bc.size
                have Bc := Bc.trans (Ga9.mono Bs)
                rw [← hWa9]
                clear hWa9
                have EM := EM.sameH (below_sameIn Ga9 (Nat.le_refl _)) (Nat.zero_le _) (by omega)
                have RM := RM.same (below_sameIn Ga9 (Nat.le_refl _)) (Nat.zero_le _) (by omega)
                refine hK.out _ _ (hSb _ Bc) (fun hHeld => ?_)
                clear hK K
                try simp only [Act.put, List.setIfInBounds_toArray, List.set_cons_zero, List.set_cons_succ]
                refine wpAnyH_ready (rs := [8]) (by kernel_rfl) (by simp) ?_
                refine AllReadyH.cons (by simp only [List.getElem?_toArray, List.getElem?_cons_succ, List.getElem?_cons_zero]; rfl) (fun K hK => ?_) AllReadyH.nil
                rw [if_pos (by rfl)]
                go_simp
                refine (hCp _ Bc).mono ?_
                rintro e Wa10 ⟨ad1, cd1, rfl, OM, Ga10⟩
                have za10 := Ga10.size
                have Bs := Bc.size
                have Bc := Bc.trans (Ga10.mono Bs)
                have EM := EM.sameH (below_sameIn Ga10 (Nat.le_refl _)) (Nat.zero_le _) (by omega)
                have RM := RM.same (below_sameIn Ga10 (Nat.le_refl _)) (Nat.zero_le _) (by omega)
                have k2 := E2.lt
                have E2 := E2.same (Ga10.block _ E2.lt)
                try go_wp2_with (fail)
                refine hK.out _ _ (hSb _ Bc) (fun hHeld => ?_)
                clear hK K
                try simp only [Act.put, List.setIfInBounds_toArray, List.set_cons_zero, List.set_cons_succ]
                refine wpAnyH_ready (rs := [12]) (by kernel_rfl) (by simp) ?_
                refine AllReadyH.cons (by simp only [List.getElem?_toArray, List.getElem?_cons_succ, List.getElem?_cons_zero]; rfl) (fun K hK => ?_) AllReadyH.nil
                rw [if_pos (by rfl)]
                obtain ⟨gQ, cQ, Wa11, hA, HA⟩ := appQ (c := cs0) E2 Bc.size (hsQ _ Bc) hs6
                go_simp
                try go_wp2_with (fail)
                clear hA
                obtain ⟨EQ, RQ, at12, lt12, gra11⟩ := HA.out
                clear HA
                have za11 := gra11.size
                have b12 := E2.1
                have k12 := E2.lt
                have Bs := Bc.size
                have Bc := Bc.trans (grown_below gra11 b12 Bs)
                have sEM : SameIn gM (gM + 1) Wa10 Wa11 := fun j j1 j2 => gra11.block j (by omega) (by intro e; have e := Option.some.inj e; omega)
                have EM := EM.sameH sEM (Nat.le_refl _) (Nat.lt_succ_self _)
                have RM := RM.same sEM (Nat.le_refl _) (Nat.lt_succ_self _)
                have OM := OM.same (fun j j1 j2 => gra11.block j (by omega) (by intro e; have e := Option.some.inj e; omega))
                clear E2 gra11
                have hOG : OwnGuest Wa11 wr.heap.size Wa11.heap.size (.slice (some ⟨gM, 0, none⟩) 6 cM) (.slice ad1 6 cd1) (.slice (some ⟨gQ, 0, none⟩) 6 cQ) (h.guests.getD k noG) := ⟨gM, gQ, cM, cQ, ad1, cd1, _, _, by rw [hm6], by rw [hd6], by rw [hs6], EM, by rw [hm6]; exact RM, EQ, by rw [hs6]; exact RQ, by rw [hd6]; exact OM, by omega, by omega, by omega, by omega, by omega, by omega, by omega, by omega, by omega⟩
                obtain ⟨lXw, gg, capg, w9, hApp, y1, y3, yX, HN⟩ := copyUp_app hU.out (Nat.le_trans n2 (Nat.le_refl _)) n3 n4 n6 (by omega) (hWr _ Bc) hOG
                have yS := hSf _ w9 Bc (yX wr.heap.size (Nat.le_refl _) (by omega))
                clear yX
                clear hOG EM RM EQ RQ OM
                refine hK.out _ _ (hSb _ Bc) (fun hHeld => ?_)
                clear hK K
                try simp only [Act.put, List.setIfInBounds_toArray, List.set_cons_zero, List.set_cons_succ]
                refine wpAnyH_take (i := 13) (v := ?_) (by simp only [List.getElem?_toArray, List.getElem?_cons_succ, List.getElem?_cons_zero]; rfl) (by kernel_rfl) (by kernel_rfl) (by kernel_rfl) (by exact fun _ _ _ h => h) (Or.inl ⟨by rfl, ?_⟩) hHeld ?_
                rotate_left
                · intro W' hW'; go_simp <;> with_reducible rfl
                simp only [Act.put, List.setIfInBounds_toArray, List.set_cons_zero, List.set_cons_succ]
                refine wpAnyH_ready (rs := [14]) (by kernel_rfl) (by simp) ?_
                refine AllReadyH.cons (by simp only [List.getElem?_toArray, List.getElem?_cons_succ, List.getElem?_cons_zero]; rfl) (fun K hK => ?_) AllReadyH.nil
                rw [if_pos (by rfl)]
                go_simp
                refine hK.out _ _ (hSb _ (Bc.alloc Bc.size _)) (fun hHeld => ?_)
                clear hK K
                try simp only [Act.put, List.setIfInBounds_toArray, List.set_cons_zero, List.set_cons_succ]
                refine wpAnyH_ready (rs := [15]) (by kernel_rfl) (by simp) ?_
                refine AllReadyH.cons (by simp only [List.getElem?_toArray, List.getElem?_cons_succ, List.getElem?_cons_zero]; rfl) (fun K hK => ?_) AllReadyH.nil
                rw [if_pos (by rfl)]
                go_simp
                try go_wp2_with (fail)
                clear hApp
                refine hK.out _ _ yS (fun hHeld => ?_)
                clear hK K
                try simp only [Act.put, List.setIfInBounds_toArray, List.set_cons_zero, List.set_cons_succ]
                refine wpAnyH_take (i := 16) (v := ?_) (by simp only [List.getElem?_toArray, List.getElem?_cons_succ, List.getElem?_cons_zero]; rfl) (by kernel_rfl) (by kernel_rfl) (by kernel_rfl) (by exact fun _ _ _ h => h) (Or.inl ⟨by rfl, ?_⟩) hHeld ?_
                rotate_left
                · intro W' hW'; go_simp <;> with_reducible rfl
                simp only [Act.put, List.setIfInBounds_toArray, List.set_cons_zero, List.set_cons_succ]
                refine wpAnyH_ready (rs := [17]) (by kernel_rfl) (by simp) ?_
                refine AllReadyH.cons (by simp only [List.getElem?_toArray, List.getElem?_cons_succ, List.getElem?_cons_zero]; rfl) (fun K hK => ?_) AllReadyH.nil
                rw [if_pos (by rfl)]
                have lX9 : X < w9.heap.size := World.block_lt_of_cell? _ _ y1
                go_simp
                refine hK.out _ _ (hSw _ _ hHeld) (fun hHeld => ?_)
                clear hK K
                try simp only [Act.put, List.setIfInBounds_toArray, List.set_cons_zero, List.set_cons_succ]
                refine wpAnyH_done (by kernel_rfl) ?_ _
                go_wp2
                go_roundw
                case rel => exact ⟨k + 1, _, _, by omega, by go_num, HN⟩
                case measure => simp [intOf]; omega

            · rw [if_pos (by rfl)]
              go_simp
              obtain ⟨Wa14, hWa14⟩ : ∃ W', W' = Wa2.alloc (.cells #[] 81) := ⟨_, rfl⟩
              have E2 : Emp Wa14 W0.heap.size 81 Wa2.heap.size := by rw [hWa14]; exact emp_new _ _ Bc.size
              have Ga14 : Below Wa2.heap.size Wa2 Wa14 := by rw [hWa14]; exact (Below.refl _ _).alloc (Nat.le_refl _) _
              have za14 : Wa14.heap.size ≤ Wa2.heap.size + 1 ∧ Wa2.heap.size + 1 ≤ Wa14.heap.size := by rw [hWa14]; simp
              have Bs := Bc.size
              have Bc := Bc.trans (Ga14.mono Bs)
              rw [← hWa14]
              clear hWa14
              have E1 := E1.same (Ga14.block _ E1.lt)
              refine hK.out _ _ (hSb _ Bc) (fun hHeld => ?_)
              clear hK K
              try simp only [Act.put, List.setIfInBounds_toArray, List.set_cons_zero, List.set_cons_succ]
              refine wpAnyH_ready (rs := [5]) (by kernel_rfl) (by simp) ?_
              refine AllReadyH.cons (by simp only [List.getElem?_toArray, List.getElem?_cons_succ, List.getElem?_cons_zero]; rfl) (fun K hK => ?_) AllReadyH.nil
              rw [if_pos (by rfl)]
              obtain ⟨gM, cM, Wa15, hA, HA⟩ := appM (c := cm0) E1 Bc.size (hsM _ Bc) hm6
              go_simp
              try go_wp2_with (fail)
              clear hA
              obtain ⟨EM, RM, at5, lt5, gra15⟩ := HA.out
              clear HA
              have za15 := gra15.size
              have b5 := E1.1
              have k5 := E1.lt
              have Bs := Bc.size
              have Bc := Bc.trans (grown_below gra15 b5 Bs)
              have E2 := E2.same (gra15.block _ E2.lt (by intro e; have e := Option.some.inj e; omega))
              clear E1 gra15
              refine hK.out _ _ (hSb _ Bc) (fun hHeld => ?_)
              clear hK K
              try simp only [Act.put, List.setIfInBounds_toArray, List.set_cons_zero, List.set_cons_succ]
              refine wpAnyH_ready (rs := [8]) (by kernel_rfl) (by simp) ?_
              refine AllReadyH.cons (by simp only [List.getElem?_toArray, List.getElem?_cons_succ, List.getElem?_cons_zero]; rfl) (fun K hK => ?_) AllReadyH.nil
              rw [if_pos (by rfl)]
              go_simp
              refine (hCp _ Bc).mono ?_
              rintro e Wa16 ⟨ad1, cd1, rfl, OM, Ga16⟩
              have za16 := Ga16.size
              have Bs := Bc.size
              have Bc := Bc.trans (Ga16.mono Bs)
              have EM := EM.sameH (below_sameIn Ga16 (Nat.le_refl _)) (Nat.zero_le _) (by omega)
              have RM := RM.same (below_sameIn Ga16 (Nat.le_refl _)) (Nat.zero_le _) (by omega)
              have k2 := E2.lt
              have E2 := E2.same (Ga16.block _ E2.lt)
              try go_wp2_with (fail)
              refine hK.out _ _ (hSb _ Bc) (fun hHeld => ?_)
              clear hK K
              try simp only [Act.put, List.setIfInBounds_toArray, List.set_cons_zero, List.set_cons_succ]
              refine wpAnyH_ready (rs := [12]) (by kernel_rfl) (by simp) ?_
              refine AllReadyH.cons (by simp only [List.getElem?_toArray, List.getElem?_cons_succ, List.getElem?_cons_zero]; rfl) (fun K hK => ?_) AllReadyH.nil
              rw [if_pos (by rfl)]
              obtain ⟨gQ, cQ, Wa17, hA, HA⟩ := appQ (c := cs0) E2 Bc.size (hsQ _ Bc) hs6
              go_simp
              try go_wp2_with (fail)
              clear hA
              obtain ⟨EQ, RQ, at12, lt12, gra17⟩ := HA.out
              clear HA
              have za17 := gra17.size
              have b12 := E2.1
              have k12 := E2.lt
              have Bs := Bc.size
              have Bc := Bc.trans (grown_below gra17 b12 Bs)
              have sEM : SameIn gM (gM + 1) Wa16 Wa17 := fun j j1 j2 => gra17.block j (by omega) (by intro e; have e := Option.some.inj e; omega)
              have EM := EM.sameH sEM (Nat.le_refl _) (Nat.lt_succ_self _)
              have RM := RM.same sEM (Nat.le_refl _) (Nat.lt_succ_self _)
              have OM := OM.same (fun j j1 j2 => gra17.block j (by omega) (by intro e; have e := Option.some.inj e; omega))
              clear E2 gra17
              have hOG : OwnGuest Wa17 wr.heap.size Wa17.heap.size (.slice (some ⟨gM, 0, none⟩) 6 cM) (.slice ad1 6 cd1) (.slice (some ⟨gQ, 0, none⟩) 6 cQ) (h.guests.getD k noG) := ⟨gM, gQ, cM, cQ, ad1, cd1, _, _, by rw [hm6], by rw [hd6], by rw [hs6], EM, by rw [hm6]; exact RM, EQ, by rw [hs6]; exact RQ, by rw [hd6]; exact OM, by omega, by omega, by omega, by omega, by omega, by omega, by omega, by omega, by omega⟩
              obtain ⟨lXw, gg, capg, w9, hApp, y1, y3, yX, HN⟩ := copyUp_app hU.out (Nat.le_trans n2 (Nat.le_refl _)) n3 n4 n6 (by omega) (hWr _ Bc) hOG
              have yS := hSf _ w9 Bc (yX wr.heap.size (Nat.le_refl _) (by omega))
              clear yX
              clear hOG EM RM EQ RQ OM
              refine hK.out _ _ (hSb _ Bc) (fun hHeld => ?_)
              clear hK K
              try simp only [Act.put, List.setIfInBounds_toArray, List.set_cons_zero, List.set_cons_succ]
              refine wpAnyH_take (i := 13) (v := ?_) (by simp only [List.getElem?_toArray, List.getElem?_cons_succ, List.getElem?_cons_zero]; rfl) (by kernel_rfl) (by kernel_rfl) (by kernel_rfl) (by exact fun _ _ _ h => h) (Or.inl ⟨by rfl, ?_⟩) hHeld ?_
              rotate_left
              · intro W' hW'; go_simp <;> with_reducible rfl
              simp only [Act.put, List.setIfInBounds_toArray, List.set_cons_zero, List.set_cons_succ]
              refine wpAnyH_ready (rs := [14]) (by kernel_rfl) (by simp) ?_
              refine AllReadyH.cons (by simp only [List.getElem?_toArray, List.getElem?_cons_succ, List.getElem?_cons_zero]; rfl) (fun K hK => ?_) AllReadyH.nil
              rw [if_pos (by rfl)]
              go_simp
              refine hK.out _ _ (hSb _ (Bc.alloc Bc.size _)) (fun hHeld => ?_)
              clear hK K
              try simp only [Act.put, List.setIfInBounds_toArray, List.set_cons_zero, List.set_cons_succ]
              refine wpAnyH_ready (rs := [15]) (by kernel_rfl) (by simp) ?_
              refine AllReadyH.cons (by simp only [List.getElem?_toArray, List.getElem?_cons_succ, List.getElem?_cons_zero]; rfl) (fun K hK => ?_) AllReadyH.nil
              rw [if_pos (by rfl)]
              go_simp
              try go_wp2_with (fail)
              clear hApp
              refine hK.out _ _ yS (fun hHeld => ?_)
              clear hK K
              try simp only [Act.put, List.setIfInBounds_toArray, List.set_cons_zero, List.set_cons_succ]
              refine wpAnyH_take (i := 16) (v := ?_) (by simp only [List.getElem?_toArray, List.getElem?_cons_succ, List.getElem?_cons_zero]; rfl) (by kernel_rfl) (by kernel_rfl) (by kernel_rfl) (by exact fun _ _ _ h => h) (Or.inl ⟨by rfl, ?_⟩) hHeld ?_
              rotate_left
              · intro W' hW'; go_simp <;> with_reducible rfl
              simp only [Act.put, List.setIfInBounds_toArray, List.set_cons_zero, List.set_cons_succ]
              refine wpAnyH_ready (rs := [17]) (by kernel_rfl) (by simp) ?_
              refine AllReadyH.cons (by simp only [List.getElem?_toArray, List.getElem?_cons_succ, List.getElem?_cons_zero]; rfl) (fun K hK => ?_) AllReadyH.nil
              rw [if_pos (by rfl)]
              have lX9 : X < w9.heap.size := World.block_lt_of_cell? _ _ y1
              go_simp
              refine hK.out _ _ (hSw _ _ hHeld) (fun hHeld => ?_)
              clear hK K
              try simp only [Act.put, List.setIfInBounds_toArray, List.set_cons_zero, List.set_cons_succ]
              refine wpAnyH_done (by kernel_rfl) ?_ _
              go_wp2
              go_roundw
              case rel => exact ⟨k + 1, _, _, by omega, by go_num, HN⟩
              case measure => simp [intOf]; omega

          · rw [if_pos (by rfl)]
            go_simp
            obtain ⟨Wa20, hWa20⟩ : ∃ W', W' = Wd.alloc (.cells #[] 81) := ⟨_, rfl⟩
            have E2 : Emp Wa20 W0.heap.size 81 Wd.heap.size := by rw [hWa20]; exact emp_new _ _ Bc.size
            have Ga20 : Below Wd.heap.size Wd Wa20 := by rw [hWa20]; exact (Below.refl _ _).alloc (Nat.le_refl _) _
            have za20 : Wa20.heap.size ≤ Wd.heap.size + 1 ∧ Wd.heap.size + 1 ≤ Wa20.heap.size := by rw [hWa20]; simp
            have Bs := Bc.size
            have Bc := Bc.trans (Ga20.mono Bs)
            rw [← hWa20]
            clear hWa20
            refine hK.out _ _ (hSb _ Bc) (fun hHeld => ?_)
            clear hK K
            try simp only [Act.put, List.setIfInBounds_toArray, List.set_cons_zero, List.set_cons_succ]
            refine wpAnyH_ready (rs := [2]) (by kernel_rfl) (by simp) ?_
            refine AllReadyH.cons (by simp only [List.getElem?_toArray, List.getElem?_cons_succ, List.getElem?_cons_zero]; rfl) (fun K hK => ?_) AllReadyH.nil
            rw [if_pos (by rfl)]
            go_simp
            obtain ⟨Wa21, hWa21⟩ : ∃ W', W' = Wa20.alloc (.cells #[] 76) := ⟨_, rfl⟩
            have E1 : Emp Wa21 W0.heap.size 76 Wa20.heap.size := by rw [hWa21]; exact emp_new _ _ Bc.size
            have Ga21 : Below Wa20.heap.size Wa20 Wa21 := by rw [hWa21]; exact (Below.refl _ _).alloc (Nat.le_refl _) _
            have za21 : Wa21.heap.size ≤ Wa20.heap.size + 1 ∧ Wa20.heap.size + 1 ≤ Wa21.heap.size := by rw [hWa21]; simp
            have Bs := Bc.size
            have Bc := Bc.trans (Ga21.mono Bs)
            rw [← hWa21]
            clear hWa21
            have k2 := E2.lt
            have E2 := E2.same (Ga21.block _ E2.lt)
            refine hK.out _ _ (hSb _ Bc) (fun hHeld => ?_)
            clear hK K
            try simp only [Act.put, List.setIfInBounds_toArray, List.set_cons_zero, List.set_cons_succ]
            refine wpAnyH_ready (rs := [5]) (by kernel_rfl) (by simp) ?_
            refine AllReadyH.cons (by simp only [List.getElem?_toArray, List.getElem?_cons_succ, List.getElem?_cons_zero]; rfl) (fun K hK => ?_) AllReadyH.nil
            rw [if_pos (by rfl)]
            obtain ⟨gM, cM, Wa22, hA, HA⟩ := appM (c := cm0) E1 Bc.size (hsM _ Bc) hm6
            go_simp
            try go_wp2_with (fail)
            clear hA
            obtain ⟨EM, RM, at5, lt5, gra22⟩ := HA.out
            clear HA
            have za22 := gra22.size
            have b5 := E1.1
            have k5 := E1.lt
            have Bs := Bc.size
            have Bc := Bc.trans (grown_below gra22 b5 Bs)
            have E2 := E2.same (gra22.block _ E2.lt (by intro e; have e := Option.some.inj e; omega))
            clear E1 gra22
            refine hK.out _ _ (hSb _ Bc) (fun hHeld => ?_)
            clear hK K
            try simp only [Act.put, List.setIfInBounds_toArray, List.set_cons_zero, List.set_cons_succ]
            refine wpAnyH_ready (rs := [8]) (by kernel_rfl) (by simp) ?_
            refine AllReadyH.cons (by simp only [List.getElem?_toArray, List.getElem?_cons_succ, List.getElem?_cons_zero]; rfl) (fun K hK => ?_) AllReadyH.nil
            rw [if_pos (by rfl)]
            go_simp
            refine (hCp _ Bc).mono ?_
            rintro e Wa23 ⟨ad1, cd1, rfl, OM, Ga23⟩
            have za23 := Ga23.size
            have Bs := Bc.size
            have Bc := Bc.trans (Ga23.mono Bs)
            have EM := EM.sameH (below_sameIn Ga23 (Nat.le_refl _)) (Nat.zero_le _) (by omega)
            have RM := RM.same (below_sameIn Ga23 (Nat.le_refl _)) (Nat.zero_le _) (by omega)
            have k2 := E2.lt
            have E2 := E2.same (Ga23.block _ E2.lt)
            try go_wp2_with (fail)
            refine hK.out _ _ (hSb _ Bc) (fun hHeld => ?_)
            clear hK K
            try simp only [Act.put, List.setIfInBounds_toArray, List.set_cons_zero, List.set_cons_succ]
            refine wpAnyH_ready (rs := [12]) (by kernel_rfl) (by simp) ?_
            refine AllReadyH.cons (by simp only [List.getElem?_toArray, List.getElem?_cons_succ, List.getElem?_cons_zero]; rfl) (fun K hK => ?_) AllReadyH.nil
            rw [if_pos (by rfl)]
            obtain ⟨gQ, cQ, Wa24, hA, HA⟩ := appQ (c := cs0) E2 Bc.size (hsQ _ Bc) hs6
            go_simp
            try go_wp2_with (fail)
            clear hA
            obtain ⟨EQ, RQ, at12, lt12, gra24⟩ := HA.out
            clear HA
            have za24 := gra24.size
            have b12 := E2.1
            have k12 := E2.lt
            have Bs := Bc.size
            have Bc := Bc.trans (grown_below gra24 b12 Bs)
            have sEM : SameIn gM (gM + 1) Wa23 Wa24 := fun j j1 j2 => gra24.block j (by omega) (by intro e; have e := Option.some.inj e; omega)
            have EM := EM.sameH sEM (Nat.le_refl _) (Nat.lt_succ_self _)
            have RM := RM.same sEM (Nat.le_refl _) (Nat.lt_succ_self _)
            have OM := OM.same (fun j j1 j2 => gra24.block j (by omega) (by intro e; have e := Option.some.inj e; omega))
            clear E2 gra24
            have hOG : OwnGuest Wa24 wr.heap.size Wa24.heap.size (.slice (some ⟨gM, 0, none⟩) 6 cM) (.slice ad1 6 cd1) (.slice (some ⟨gQ, 0, none⟩) 6 cQ) (h.guests.getD k noG) := ⟨gM, gQ, cM, cQ, ad1, cd1, _, _, by rw [hm6], by rw [hd6], by rw [hs6], EM, by rw [hm6]; exact RM, EQ, by rw [hs6]; exact RQ, by rw [hd6]; exact OM, by omega, by omega, by omega, by omega, by omega, by omega, by omega, by omega, by omega⟩
            obtain ⟨lXw, gg, capg, w9, hApp, y1, y3, yX, HN⟩ := copyUp_app hU.out (Nat.le_trans n2 (Nat.le_refl _)) n3 n4 n6 (by omega) (hWr _ Bc) hOG
            have yS := hSf _ w9 Bc (yX wr.heap.size (Nat.le_refl _) (by omega))
            clear yX
            clear hOG EM RM EQ RQ OM
            refine hK.out _ _ (hSb _ Bc) (fun hHeld => ?_)
            clear hK K
            try simp only [Act.put, List.setIfInBounds_toArray, List.set_cons_zero, List.set_cons_succ]
            refine wpAnyH_take (i := 13) (v := ?_) (by simp only [List.getElem?_toArray, List.getElem?_cons_succ, List.getElem?_cons_zero]; rfl) (by kernel_rfl) (by kernel_rfl) (by kernel_rfl) (by exact fun _ _ _ h => h) (Or.inl ⟨by rfl, ?_⟩) hHeld ?_
            rotate_left
            · intro W' hW'; go_simp <;> with_reducible rfl
            simp only [Act.put, List.setIfInBounds_toArray, List.set_cons_zero, List.set_cons_succ]
            refine wpAnyH_ready (rs := [14]) (by kernel_rfl) (by simp) ?_
            refine AllReadyH.cons (by simp only [List.getElem?_toArray, List.getElem?_cons_succ, List.getElem?_cons_zero]; rfl) (fun K hK => ?_) AllReadyH.nil
            rw [if_pos (by rfl)]
            go_simp
            refine hK.out _ _ (hSb _ (Bc.alloc Bc.size _)) (fun hHeld => ?_)
            clear hK K
            try simp only [Act.put, List.setIfInBounds_toArray, List.set_cons_zero, List.set_cons_succ]
            refine wpAnyH_ready (rs := [15]) (by kernel_rfl) (by simp) ?_
            refine AllReadyH.cons (by simp only [List.getElem?_toArray, List.getElem?_cons_succ, List.getElem?_cons_zero]; rfl) (fun K hK => ?_) AllReadyH.nil
            rw [if_pos (by rfl)]
            go_simp
            try go_wp2_with (fail)
            clear hApp
            refine hK.out _ _ yS (fun hHeld => ?_)
            clear hK K
            try simp only [Act.put, List.setIfInBounds_toArray, List.set_cons_zero, List.set_cons_succ]
            refine wpAnyH_take (i := 16) (v := ?_) (by simp only [List.getElem?_toArray, List.getElem?_cons_succ, List.getElem?_cons_zero]; rfl) (by kernel_rfl) (by kernel_rfl) (by kernel_rfl) (by exact fun _ _ _ h => h) (Or.inl ⟨by rfl, ?_⟩) hHeld ?_
            rotate_left
            · intro W' hW'; go_simp <;> with_reducible rfl
            simp only [Act.put, List.setIfInBounds_toArray, List.set_cons_zero, List.set_cons_succ]
            refine wpAnyH_ready (rs := [17]) (by kernel_rfl) (by simp) ?_
            refine AllReadyH.cons (by simp only [List.getElem?_toArray, List.getElem?_cons_succ, List.getElem?_cons_zero]; rfl) (fun K hK => ?_) AllReadyH.nil
            rw [if_pos (by rfl)]
            have lX9 : X < w9.heap.size := World.block_lt_of_cell? _ _ y1
            go_simp
            refine hK.out _ _ (hSw _ _ hHeld) (fun hHeld => ?_)
            clear hK K
            try simp only [Act.put, List.setIfInBounds_toArray, List.set_cons_zero, List.set_cons_succ]
            refine wpAnyH_done (by kernel_rfl) ?_ _
            go_wp2
            go_roundw
            case rel => exact ⟨k + 1, _, _, by omega, by go_num, HN⟩
            case measure => simp [intOf]; omega

        · rw [if_pos (by rfl)]
          go_simp
          obtain ⟨Wa27, hWa27⟩ : ∃ W', W' = Wd.alloc (.cells #[] 76) := ⟨_, rfl⟩
          have E1 : Emp Wa27 W0.heap.size 76 Wd.heap.size := by rw [hWa27]; exact emp_new _ _ Bc.size
          have Ga27 : Below Wd.heap.size Wd Wa27 := by rw [hWa27]; exact (Below.refl _ _).alloc (Nat.le_refl _) _
          have za27 : Wa27.heap.size ≤ Wd.heap.size + 1 ∧ Wd.heap.size + 1 ≤ Wa27.heap.size := by rw [hWa27]; simp
          have Bs := Bc.size
          have Bc := Bc.trans (Ga27.mono Bs)
          rw [← hWa27]
          clear hWa27
          refine hK.out _ _ (hSb _ Bc) (fun hHeld => ?_)
          clear hK K
          try simp only [Act.put, List.setIfInBounds_toArray, List.set_cons_zero, List.set_cons_succ]
          refine wpAnyH_ready (rs := [1, 5, 9]) (by kernel_rfl) (by simp) ?_
          refine AllReadyH.cons (by simp only [List.getElem?_toArray, List.getElem?_cons_succ, List.getElem?_cons_zero]; rfl) (fun K hK => ?_) (AllReadyH.cons (by simp only [List.getElem?_toArray, List.getElem?_cons_succ, List.getElem?_cons_zero]; rfl) (fun K hK => ?_) (AllReadyH.cons (by simp only [List.getElem?_toArray, List.getElem?_cons_succ, List.getElem?_cons_zero]; rfl) (fun K hK => ?_) AllReadyH.nil))
          · rw [if_pos (by rfl)]
            have x1c := (Bc.cell (p := ⟨X, 1, none⟩) lX0).trans x1W
            have lXc : X < Wa27.heap.size := Nat.lt_of_lt_of_le lX0 (Nat.le_trans sN Bc.size)
            go_simp
            clear x1c lXc
            refine hK.out _ _ hHeld (fun hHeld => ?_)
            clear hK K
            try simp only [Act.put, List.setIfInBounds_toArray, List.set_cons_zero, List.set_cons_succ]
            refine wpAnyH_ready (rs := [5, 9]) (by kernel_rfl) (by simp) ?_
            refine AllReadyH.cons (by simp only [List.getElem?_toArray, List.getElem?_cons_succ, List.getElem?_cons_zero]; rfl) (fun K hK => ?_) (AllReadyH.cons (by simp only [List.getElem?_toArray, List.getElem?_cons_succ, List.getElem?_cons_zero]; rfl) (fun K hK => ?_) AllReadyH.nil)
            · rw [if_pos (by rfl)]
              obtain ⟨gM, cM, Wa29, hA, HA⟩ := appM (c := cm0) E1 Bc.size (hsM _ Bc) hm6
              go_simp
              try go_wp2_with (fail)
              clear hA
              obtain ⟨EM, RM, at5, lt5, gra29⟩ := HA.out
              clear HA
              have za29 := gra29.size
              have b5 := E1.1
              have k5 := E1.lt
              have Bs := Bc.size
              have Bc := Bc.trans (grown_below gra29 b5 Bs)
              clear E1 gra29
              refine hK.out _ _ (hSb _ Bc) (fun hHeld => ?_)
              clear hK K
              try simp only [Act.put, List.setIfInBounds_toArray, List.set_cons_zero, List.set_cons_succ]
              refine wpAnyH_ready (rs := [8, 9]) (by kernel_rfl) (by simp) ?_
              refine AllReadyH.cons (by simp only [List.getElem?_toArray, List.getElem?_cons_succ, List.getElem?_cons_zero]; rfl) (fun K hK => ?_) (AllReadyH.cons (by simp only [List.getElem?_toArray, List.getElem?_cons_succ, List.getElem?_cons_zero]; rfl) (fun K hK => ?_) AllReadyH.nil)
              · rw [if_pos (by rfl)]
                go_simp
                refine (hCp _ Bc).mono ?_
                rintro e Wa30 ⟨ad1, cd1, rfl, OM, Ga30⟩
                have za30 := Ga30.size
                have Bs := Bc.size
                have Bc := Bc.trans (Ga30.mono Bs)
                have EM := EM.sameH (below_sameIn Ga30 (Nat.le_refl _)) (Nat.zero_le _) (by omega)
                have RM := RM.same (below_sameIn Ga30 (Nat.le_refl _)) (Nat.zero_le _) (by omega)
                try go_wp2_with (fail)
                refine hK.out _ _ (hSb _ Bc) (fun hHeld => ?_)
                clear hK K
                try simp only [Act.put, List.setIfInBounds_toArray, List.set_cons_zero, List.set_cons_succ]
                refine wpAnyH_ready (rs := [9]) (by kernel_rfl) (by simp) ?_
                refine AllReadyH.cons (by simp only [List.getElem?_toArray, List.getElem?_cons_succ, List.getElem?_cons_zero]; rfl) (fun K hK => ?_) AllReadyH.nil
                rw [if_pos (by rfl)]
                go_simp
                obtain ⟨Wa31, hWa31⟩ : ∃ W', W' = Wa30.alloc (.cells #[] 81) := ⟨_, rfl⟩
                have E2 : Emp Wa31 W0.heap.size 81 Wa30.heap.size := by rw [hWa31]; exact emp_new _ _ Bc.size
                have Ga31 : Below Wa30.heap.size Wa30 Wa31 := by rw [hWa31]; exact (Below.refl _ _).alloc (Nat.le_refl _) _
                have za31 : Wa31.heap.size ≤ Wa30.heap.size + 1 ∧ Wa30.heap.size + 1 ≤ Wa31.heap.size := by rw [hWa31]; simp
                have Bs := Bc.size
                have Bc := Bc.trans (Ga31.mono Bs)
                rw [← hWa31]
                clear hWa31
                have EM := EM.sameH (below_sameIn Ga31 (Nat.le_refl _)) (Nat.zero_le _) (by omega)
                have RM := RM.same (below_sameIn Ga31 (Nat.le_refl _)) (Nat.zero_le _) (by omega)
                have OM := OM.same (below_sameIn Ga31 (Nat.le_refl _))
                refine hK.out _ _ (hSb _ Bc) (fun hHeld => ?_)
                clear hK K
                try simp only [Act.put, List.setIfInBounds_toArray, List.set_cons_zero, List.set_cons_succ]
                refine wpAnyH_ready (rs := [12]) (by kernel_rfl) (by simp) ?_
                refine AllReadyH.cons (by simp only [List.getElem?_toArray, List.getElem?_cons_succ, List.getElem?_cons_zero]; rfl) (fun K hK => ?_) AllReadyH.nil
                rw [if_pos (by rfl)]
                obtain ⟨gQ, cQ, Wa32, hA, HA⟩ := appQ (c := cs0) E2 Bc.size (hsQ _ Bc) hs6
                go_simp
                try go_wp2_with (fail)
                clear hA
                obtain ⟨EQ, RQ, at12, lt12, gra32⟩ := HA.out
                clear HA
                have za32 := gra32.size
                have b12 := E2.1
                have k12 := E2.lt
                have Bs := Bc.size
                have Bc := Bc.trans (grown_below gra32 b12 Bs)
                have sEM : SameIn gM (gM + 1) Wa31 Wa32 := fun j j1 j2 => gra32.block j (by omega) (by intro e; have e := Option.some.inj e; omega)
                have EM := EM.sameH sEM (Nat.le_refl _) (Nat.lt_succ_self _)
                have RM := RM.same sEM (Nat.le_refl _) (Nat.lt_succ_self _)
                have OM := OM.same (fun j j1 j2 => gra32.block j (by omega) (by intro e; have e := Option.some.inj e; omega))
                clear E2 gra32
                have hOG : OwnGuest Wa32 wr.heap.size Wa32.heap.size (.slice (some ⟨gM, 0, none⟩) 6 cM) (.slice ad1 6 cd1) (.slice (some ⟨gQ, 0, none⟩) 6 cQ) (h.guests.getD k noG) := ⟨gM, gQ, cM, cQ, ad1, cd1, _, _, by rw [hm6], by rw [hd6], by rw [hs6], EM, by rw [hm6]; exact RM, EQ, by rw [hs6]; exact RQ, by rw [hd6]; exact OM, by omega, by omega, by omega, by omega, by omega, by omega, by omega, by omega, by omega⟩
                obtain ⟨lXw, gg, capg, w9, hApp, y1, y3, yX, HN⟩ := copyUp_app hU.out (Nat.le_trans n2 (Nat.le_refl _)) n3 n4 n6 (by omega) (hWr _ Bc) hOG
                have yS := hSf _ w9 Bc (yX wr.heap.size (Nat.le_refl _) (by omega))
                clear yX
                clear hOG EM RM EQ RQ OM
                refine hK.out _ _ (hSb _ Bc) (fun hHeld => ?_)
                clear hK K
                try simp only [Act.put, List.setIfInBounds_toArray, List.set_cons_zero, List.set_cons_succ]
                refine wpAnyH_take (i := 13) (v := ?_) (by simp only [List.getElem?_toArray, List.getElem?_cons_succ, List.getElem?_cons_zero]; rfl) (by kernel_rfl) (by kernel_rfl) (by kernel_rfl) (by exact fun _ _ _ h => h) (Or.inl ⟨by rfl, ?_⟩) hHeld ?_
                rotate_left
                · intro W' hW'; go_simp <;> with_reducible rfl
                simp only [Act.put, List.setIfInBounds_toArray, List.set_cons_zero, List.set_cons_succ]
                refine wpAnyH_ready (rs := [14]) (by kernel_rfl) (by simp) ?_
                refine AllReadyH.cons (by simp only [List.getElem?_toArray, List.getElem?_cons_succ, List.getElem?_cons_zero]; rfl) (fun K hK => ?_) AllReadyH.nil
                rw [if_pos (by rfl)]
                go_simp
                refine hK.out _ _ (hSb _ (Bc.alloc Bc.size _)) (fun hHeld => ?_)
                clear hK K
                try simp only [Act.put, List.setIfInBounds_toArray, List.set_cons_zero, List.set_cons_succ]
                refine wpAnyH_ready (rs := [15]) (by kernel_rfl) (by simp) ?_
                refine AllReadyH.cons (by simp only [List.getElem?_toArray, List.getElem?_cons_succ, List.getElem?_cons_zero]; rfl) (fun K hK => ?_) AllReadyH.nil
                rw [if_pos (by rfl)]
                go_simp
                try go_wp2_with (fail)
                clear hApp
                refine hK.out _ _ yS (fun hHeld => ?_)
                clear hK K
                try simp only [Act.put, List.setIfInBounds_toArray, List.set_cons_zero, List.set_cons_succ]
                refine wpAnyH_take (i := 16) (v := ?_) (by simp only [List.getElem?_toArray, List.getElem?_cons_succ, List.getElem?_cons_zero]; rfl) (by kernel_rfl) (by kernel_rfl) (by kernel_rfl) (by exact fun _ _ _ h => h) (Or.inl ⟨by rfl, ?_⟩) hHeld ?_
                rotate_left
                · intro W' hW'; go_simp <;> with_reducible rfl
                simp only [Act.put, List.setIfInBounds_toArray, List.set_cons_zero, List.set_cons_succ]
                refine wpAnyH_ready (rs := [17]) (by kernel_rfl) (by simp) ?_
                refine AllReadyH.cons (by simp only [List.getElem?_toArray, List.getElem?_cons_succ, List.getElem?_cons_zero]; rfl) (fun K hK => ?_) AllReadyH.nil
                rw [if_pos (by rfl)]
                have lX9 : X < w9.heap.size := World.block_lt_of_cell? _ _ y1
                go_simp
                refine hK.out _ _ (hSw _ _ hHeld) (fun hHeld => ?_)
                clear hK K
                try simp only [Act.put, List.setIfInBounds_toArray, List.set_cons_zero, List.set_cons_succ]
                refine wpAnyH_done (by kernel_rfl) ?_ _
                go_wp2
                go_roundw
                case rel => exact ⟨k + 1, _, _, by omega, by go_num, HN⟩
                case measure => simp [intOf]; omega

              · rw [if_pos (by rfl)]
                go_simp
                obtain ⟨Wa35, hWa35⟩ : ∃ W', W' = Wa29.alloc (.cells #[] 81) := ⟨_, rfl⟩
                have E2 : Emp Wa35 W0.heap.size 81 Wa29.heap.size := by rw [hWa35]; exact emp_new _ _ Bc.size
                have Ga35 : Below Wa29.heap.size Wa29 Wa35 := by rw [hWa35]; exact (Below.refl _ _).alloc (Nat.le_refl _) _
                have za35 : Wa35.heap.size ≤ Wa29.heap.size + 1 ∧ Wa29.heap.size + 1 ≤ Wa35.heap.size := by rw [hWa35]; simp
                have Bs := Bc.size
                have Bc := Bc.trans (Ga35.mono Bs)
                rw [← hWa35]
                clear hWa35
                have EM := EM.sameH (below_sameIn Ga35 (Nat.le_refl _)) (Nat.zero_le _) (by omega)
                have RM := RM.same (below_sameIn Ga35 (Nat.le_refl _)) (Nat.zero_le _) (by omega)
                refine hK.out _ _ (hSb _ Bc) (fun hHeld => ?_)
                clear hK K
                try simp only [Act.put, List.setIfInBounds_toArray, List.set_cons_zero, List.set_cons_succ]
                refine wpAnyH_ready (rs := [8]) (by kernel_rfl) (by simp) ?_
                refine AllReadyH.cons (by simp only [List.getElem?_toArray, List.getElem?_cons_succ, List.getElem?_cons_zero]; rfl) (fun K hK => ?_) AllReadyH.nil
                rw [if_pos (by rfl)]
                go_simp
                refine (hCp _ Bc).mono ?_
                rintro e Wa36 ⟨ad1, cd1, rfl, OM, Ga36⟩
                have za36 := Ga36.size
                have Bs := Bc.size
                have Bc := Bc.trans (Ga36.mono Bs)
                have EM := EM.sameH (below_sameIn Ga36 (Nat.le_refl _)) (Nat.zero_le _) (by omega)
                have RM := RM.same (below_sameIn Ga36 (Nat.le_refl _)) (Nat.zero_le _) (by omega)
                have k2 := E2.lt
                have E2 := E2.same (Ga36.block _ E2.lt)
                try go_wp2_with (fail)
                refine hK.out _ _ (hSb _ Bc) (fun hHeld => ?_)
                clear hK K
                try simp only [Act.put, List.setIfInBounds_toArray, List.set_cons_zero, List.set_cons_succ]
                refine wpAnyH_ready (rs := [12]) (by kernel_rfl) (by simp) ?_
                refine AllReadyH.cons (by simp only [List.getElem?_toArray, List.getElem?_cons_succ, List.getElem?_cons_zero]; rfl) (fun K hK => ?_) AllReadyH.nil
                rw [if_pos (by rfl)]
                obtain ⟨gQ, cQ, Wa37, hA, HA⟩ := appQ (c := cs0) E2 Bc.size (hsQ _ Bc) hs6
                go_simp
                try go_wp2_with (fail)
                clear hA
                obtain ⟨EQ, RQ, at12, lt12, gra37⟩ := HA.out
                clear HA
                have za37 := gra37.size
                have b12 := E2.1
                have k12 := E2.lt
                have Bs := Bc.size
                have Bc := Bc.trans (grown_below gra37 b12 Bs)
                have sEM : SameIn gM (gM + 1) Wa36 Wa37 := fun j j1 j2 => gra37.block j (by omega) (by intro e; have e := Option.some.inj e; omega)
                have EM := EM.sameH sEM (Nat.le_refl _) (Nat.lt_succ_self _)
                have RM := RM.same sEM (Nat.le_refl _) (Nat.lt_succ_self _)
                have OM := OM.same (fun j j1 j2 => gra37.block j (by omega) (by intro e; have e := Option.some.inj e; omega))
                clear E2 gra37
                have hOG : OwnGuest Wa37 wr.heap.size Wa37.heap.size (.slice (some ⟨gM, 0, none⟩) 6 cM) (.slice ad1 6 cd1) (.slice (some ⟨gQ, 0, none⟩) 6 cQ) (h.guests.getD k noG) := ⟨gM, gQ, cM, cQ, ad1, cd1, _, _, by rw [hm6], by rw [hd6], by rw [hs6], EM, by rw [hm6]; exact RM, EQ, by rw [hs6]; exact RQ, by rw [hd6]; exact OM, by omega, by omega, by omega, by omega, by omega, by omega, by omega, by omega, by omega⟩
                obtain ⟨lXw, gg, capg, w9, hApp, y1, y3, yX, HN⟩ := copyUp_app hU.out (Nat.le_trans n2 (Nat.le_refl _)) n3 n4 n6 (by omega) (hWr _ Bc) hOG
                have yS := hSf _ w9 Bc (yX wr.heap.size (Nat.le_refl _) (by omega))
                clear yX
                clear hOG EM RM EQ RQ OM
                refine hK.out _ _ (hSb _ Bc) (fun hHeld => ?_)
                clear hK K
                try simp only [Act.put, List.setIfInBounds_toArray, List.set_cons_zero, List.set_cons_succ]
                refine wpAnyH_take (i := 13) (v := ?_) (by simp only [List.getElem?_toArray, List.getElem?_cons_succ, List.getElem?_cons_zero]; rfl) (by kernel_rfl) (by kernel_rfl) (by kernel_rfl) (by exact fun _ _ _ h => h) (Or.inl ⟨by rfl, ?_⟩) hHeld ?_
                rotate_left
                · intro W' hW'; go_simp <;> with_reducible rfl
                simp only [Act.put, List.setIfInBounds_toArray, List.set_cons_zero, List.set_cons_succ]
                refine wpAnyH_ready (rs := [14]) (by kernel_rfl) (by simp) ?_
                refine AllReadyH.cons (by simp only [List.getElem?_toArray, List.getElem?_cons_succ, List.getElem?_cons_zero]; rfl) (fun K hK => ?_) AllReadyH.nil
                rw [if_pos (by rfl)]
                go_simp
                refine hK.out _ _ (hSb _ (Bc.alloc Bc.size _)) (fun hHeld => ?_)
                clear hK K
                try simp only [Act.put, List.setIfInBounds_toArray, List.set_cons_zero, List.set_cons_succ]
                refine wpAnyH_ready (rs := [15]) (by kernel_rfl) (by simp) ?_
                refine AllReadyH.cons (by simp only [List.getElem?_toArray, List.getElem?_cons_succ, List.getElem?_cons_zero]; rfl) (fun K hK => ?_) AllReadyH.nil
                rw [if_pos (by rfl)]
                go_simp
                try go_wp2_with (fail)
                clear hApp
                refine hK.out _ _ yS (fun hHeld => ?_)
                clear hK K
                try simp only [Act.put, List.setIfInBounds_toArray, List.set_cons_zero, List.set_cons_succ]
                refine wpAnyH_take (i := 16) (v := ?_) (by simp only [List.getElem?_toArray, List.getElem?_cons_succ, List.getElem?_cons_zero]; rfl) (by kernel_rfl) (by kernel_rfl) (by kernel_rfl) (by exact fun _ _ _ h => h) (Or.inl ⟨by rfl, ?_⟩) hHeld ?_
                rotate_left
                · intro W' hW'; go_simp <;> with_reducible rfl
                simp only [Act.put, List.setIfInBounds_toArray, List.set_cons_zero, List.set_cons_succ]
                refine wpAnyH_ready (rs := [17]) (by kernel_rfl) (by simp) ?_
                refine AllReadyH.cons (by simp only [List.getElem?_toArray, List.getElem?_cons_succ, List.getElem?_cons_zero]; rfl) (fun K hK => ?_) AllReadyH.nil
                rw [if_pos (by rfl)]
                have lX9 : X < w9.heap.size := World.block_lt_of_cell? _ _ y1
                go_simp
                refine hK.out _ _ (hSw _ _ hHeld) (fun hHeld => ?_)
                clear hK K
                try simp only [Act.put, List.setIfInBounds_toArray, List.set_cons_zero, List.set_cons_succ]
                refine wpAnyH_done (by kernel_rfl) ?_ _
                go_wp2
                go_roundw
                case rel => exact ⟨k + 1, _, _, by omega, by go_num, HN⟩
                case measure => simp [intOf]; omega

            · rw [if_pos (by rfl)]
              go_simp
              obtain ⟨Wa40, hWa40⟩ : ∃ W', W' = Wa27.alloc (.cells #[] 81) := ⟨_, rfl⟩
              have E2 : Emp Wa40 W0.heap.size 81 Wa27.heap.size := by rw [hWa40]; exact emp_new _ _ Bc.size
              have Ga40 : Below Wa27.heap.size Wa27 Wa40 := by rw [hWa40]; exact (Below.refl _ _).alloc (Nat.le_refl _) _
              have za40 : Wa40.heap.size ≤ Wa27.heap.size + 1 ∧ Wa27.heap.size + 1 ≤ Wa40.heap.size := by rw [hWa40]; simp
              have Bs := Bc.size
              have Bc := Bc.trans (Ga40.mono Bs)
              rw [← hWa40]
              clear hWa40
              have E1 := E1.same (Ga40.block _ E1.lt)
              refine hK.out _ _ (hSb _ Bc) (fun hHeld => ?_)
              clear hK K
              try simp only [Act.put, List.setIfInBounds_toArray, List.set_cons_zero, List.set_cons_succ]
              refine wpAnyH_ready (rs := [5]) (by kernel_rfl) (by simp) ?_
              refine AllReadyH.cons (by simp only [List.getElem?_toArray, List.getElem?_cons_succ, List.getElem?_cons_zero]; rfl) (fun K hK => ?_) AllReadyH.nil
              rw [if_pos (by rfl)]
              obtain ⟨gM, cM, Wa41, hA, HA⟩ := appM (c := cm0) E1 Bc.size (hsM _ Bc) hm6
              go_simp
              try go_wp2_with (fail)
              clear hA
              obtain ⟨EM, RM, at5, lt5, gra41⟩ := HA.out
              clear HA
              have za41 := gra41.size
              have b5 := E1.1
              have k5 := E1.lt
              have Bs := Bc.size
              have Bc := Bc.trans (grown_below gra41 b5 Bs)
              have E2 := E2.same (gra41.block _ E2.lt (by intro e; have e := Option.some.inj e; omega))
              clear E1 gra41
              refine hK.out _ _ (hSb _ Bc) (fun hHeld => ?_)
              clear hK K
              try simp only [Act.put, List.setIfInBounds_toArray, List.set_cons_zero, List.set_cons_succ]
              refine wpAnyH_ready (rs := [8]) (by kernel_rfl) (by simp) ?_
              refine AllReadyH.cons (by simp only [List.getElem?_toArray, List.getElem?_cons_succ, List.getElem?_cons_zero]; rfl) (fun K hK => ?_) AllReadyH.nil
              rw [if_pos (by rfl)]
              go_simp
              refine (hCp _ Bc).mono ?_
              rintro e Wa42 ⟨ad1, cd1, rfl, OM, Ga42⟩
              have za42 := Ga42.size
              have Bs := Bc.size
              have Bc := Bc.trans (Ga42.mono Bs)
              have EM := EM.sameH (below_sameIn Ga42 (Nat.le_refl _)) (Nat.zero_le _) (by omega)
              have RM := RM.same (below_sameIn Ga42 (Nat.le_refl _)) (Nat.zero_le _) (by omega)
              have k2 := E2.lt
              have E2 := E2.same (Ga42.block _ E2.lt)
              try go_wp2_with (fail)
              refine hK.out _ _ (hSb _ Bc) (fun hHeld => ?_)
              clear hK K
              try simp only [Act.put, List.setIfInBounds_toArray, List.set_cons_zero, List.set_cons_succ]
              refine wpAnyH_ready (rs := [12]) (by kernel_rfl) (by simp) ?_
              refine AllReadyH.cons (by simp only [List.getElem?_toArray, List.getElem?_cons_succ, List.getElem?_cons_zero]; rfl) (fun K hK => ?_) AllReadyH.nil
              rw [if_pos (by rfl)]
              obtain ⟨gQ, cQ, Wa43, hA, HA⟩ := appQ (c := cs0) E2 Bc.size (hsQ _ Bc) hs6
              go_simp
              try go_wp2_with (fail)
              clear hA
              obtain ⟨EQ, RQ, at12, lt12, gra43⟩ := HA.out
              clear HA
              have za43 := gra43.size
              have b12 := E2.1
              have k12 := E2.lt
              have Bs := Bc.size
              have Bc := Bc.trans (grown_below gra43 b12 Bs)
              have sEM : SameIn gM (gM + 1) Wa42 Wa43 := fun j j1 j2 => gra43.block j (by omega) (by intro e; have e := Option.some.inj e; omega)
              have EM := EM.sameH sEM (Nat.le_refl _) (Nat.lt_succ_self _)
              have RM := RM.same sEM (Nat.le_refl _) (Nat.lt_succ_self _)
              have OM := OM.same (fun j j1 j2 => gra43.block j (by omega) (by intro e; have e := Option.some.inj e; omega))
              clear E2 gra43
              have hOG : OwnGuest Wa43 wr.heap.size Wa43.heap.size (.slice (some ⟨gM, 0, none⟩) 6 cM) (.slice ad1 6 cd1) (.slice (some ⟨gQ, 0, none⟩) 6 cQ) (h.guests.getD k noG) := ⟨gM, gQ, cM, cQ, ad1, cd1, _, _, by rw [hm6], by rw [hd6], by rw [hs6], EM, by rw [hm6]; exact RM, EQ, by rw [hs6]; exact RQ, by rw [hd6]; exact OM, by omega, by omega, by omega, by omega, by omega, by omega, by omega, by omega, by omega⟩
              obtain ⟨lXw, gg, capg, w9, hApp, y1, y3, yX, HN⟩ := copyUp_app hU.out (Nat.le_trans n2 (Nat.le_refl _)) n3 n4 n6 (by omega) (hWr _ Bc) hOG
              have yS := hSf _ w9 Bc (yX wr.heap.size (Nat.le_refl _) (by omega))
              clear yX
              clear hOG EM RM EQ RQ OM
              refine hK.out _ _ (hSb _ Bc) (fun hHeld => ?_)
              clear hK K
              try simp only [Act.put, List.setIfInBounds_toArray, List.set_cons_zero, List.set_cons_succ]
              refine wpAnyH_take (i := 13) (v := ?_) (by simp only [List.getElem?_toArray, List.getElem?_cons_succ, List.getElem?_cons_zero]; rfl) (by kernel_rfl) (by kernel_rfl) (by kernel_rfl) (by exact fun _ _ _ h => h) (Or.inl ⟨by rfl, ?_⟩) hHeld ?_
              rotate_left
              · intro W' hW'; go_simp <;> with_reducible rfl
              simp only [Act.put, List.setIfInBounds_toArray, List.set_cons_zero, List.set_cons_succ]
              refine wpAnyH_ready (rs := [14]) (by kernel_rfl) (by simp) ?_
              refine AllReadyH.cons (by simp only [List.getElem?_toArray, List.getElem?_cons_succ, List.getElem?_cons_zero]; rfl) (fun K hK => ?_) AllReadyH.nil
              rw [if_pos (by rfl)]
              go_simp
              refine hK.out _ _ (hSb _ (Bc.alloc Bc.size _)) (fun hHeld => ?_)
              clear hK K
              try simp only [Act.put, List.setIfInBounds_toArray, List.set_cons_zero, List.set_cons_succ]
              refine wpAnyH_ready (rs := [15]) (by kernel_rfl) (by simp) ?_
              refine AllReadyH.cons (by simp only [List.getElem?_toArray, List.getElem?_cons_succ, List.getElem?_cons_zero]; rfl) (fun K hK => ?_) AllReadyH.nil
              rw [if_pos (by rfl)]
              go_simp
              try go_wp2_with (fail)
              clear hApp
              refine hK.out _ _ yS (fun hHeld => ?_)
              clear hK K
              try simp only [Act.put, List.setIfInBounds_toArray, List.set_cons_zero, List.set_cons_succ]
              refine wpAnyH_take (i := 16) (v := ?_) (by simp only [List.getElem?_toArray, List.getElem?_cons_succ, List.getElem?_cons_zero]; rfl) (by kernel_rfl) (by kernel_rfl) (by kernel_rfl) (by exact fun _ _ _ h => h) (Or.inl ⟨by rfl, ?_⟩) hHeld ?_
              rotate_left
              · intro W' hW'; go_simp <;> with_reducible rfl
              simp only [Act.put, List.setIfInBounds_toArray, List.set_cons_zero, List.set_cons_succ]
              refine wpAnyH_ready (rs := [17]) (by kernel_rfl) (by simp) ?_
              refine AllReadyH.cons (by simp only [List.getElem?_toArray, List.getElem?_cons_succ, List.getElem?_cons_zero]; rfl) (fun K hK => ?_) AllReadyH.nil
              rw [if_pos (by rfl)]
              have lX9 : X < w9.heap.size := World.block_lt_of_cell? _ _ y1
              go_simp
              refine hK.out _ _ (hSw _ _ hHeld) (fun hHeld => ?_)
              clear hK K
              try simp only [Act.put, List.setIfInBounds_toArray, List.set_cons_zero, List.set_cons_succ]
              refine wpAnyH_done (by kernel_rfl) ?_ _
              go_wp2
              go_roundw
              case rel => exact ⟨k + 1, _, _, by omega, by go_num, HN⟩
              case measure => simp [intOf]; omega

          · rw [if_pos (by rfl)]
            obtain ⟨gM, cM, Wa46, hA, HA⟩ := appM (c := cm0) E1 Bc.size (hsM _ Bc) hm6
            go_simp
            try go_wp2_with (fail)
            clear hA
            obtain ⟨EM, RM, at5, lt5, gra46⟩ := HA.out
            clear HA
            have za46 := gra46.size
            have b5 := E1.1
            have k5 := E1.lt
            have Bs := Bc.size
            have Bc := Bc.trans (grown_below gra46 b5 Bs)
            clear E1 gra46
            refine hK.out _ _ (hSb _ Bc) (fun hHeld => ?_)
            clear hK K
            try simp only [Act.put, List.setIfInBounds_toArray, List.set_cons_zero, List.set_cons_succ]
            refine wpAnyH_ready (rs := [1, 8, 9]) (by kernel_rfl) (by simp) ?_
            refine AllReadyH.cons (by simp only [List.getElem?_toArray, List.getElem?_cons_succ, List.getElem?_cons_zero]; rfl) (fun K hK => ?_) (AllReadyH.cons (by simp only [List.getElem?_toArray, List.getElem?_cons_succ, List.getElem?_cons_zero]; rfl) (fun K hK => ?_) (AllReadyH.cons (by simp only [List.getElem?_toArray, List.getElem?_cons_succ, List.getElem?_cons_zero]; rfl) (fun K hK => ?_) AllReadyH.nil))
            · rw [if_pos (by rfl)]
              have x1c := (Bc.cell (p := ⟨X, 1, none⟩) lX0).trans x1W
              have lXc : X < Wa46.heap.size := Nat.lt_of_lt_of_le lX0 (Nat.le_trans sN Bc.size)
              go_simp
              clear x1c lXc
              refine hK.out _ _ hHeld (fun hHeld => ?_)
              clear hK K
              try simp only [Act.put, List.setIfInBounds_toArray, List.set_cons_zero, List.set_cons_succ]
              refine wpAnyH_ready (rs := [8, 9]) (by kernel_rfl) (by simp) ?_
              refine AllReadyH.cons (by simp only [List.getElem?_toArray, List.getElem?_cons_succ, List.getElem?_cons_zero]; rfl) (fun K hK => ?_) (AllReadyH.cons (by simp only [List.getElem?_toArray, List.getElem?_cons_succ, List.getElem?_cons_zero]; rfl) (fun K hK => ?_) AllReadyH.nil)
              · rw [if_pos (by rfl)]
                go_simp
                refine (hCp _ Bc).mono ?_
                rintro e Wa48 ⟨ad1, cd1, rfl, OM, Ga48⟩
                have za48 := Ga48.size
                have Bs := Bc.size
                have Bc := Bc.trans (Ga48.mono Bs)
                have EM := EM.sameH (below_sameIn Ga48 (Nat.le_refl _)) (Nat.zero_le _) (by omega)
                have RM := RM.same (below_sameIn Ga48 (Nat.le_refl _)) (Nat.zero_le _) (by omega)
                try go_wp2_with (fail)
                refine hK.out _ _ (hSb _ Bc) (fun hHeld => ?_)
                clear hK K
                try simp only [Act.put, List.setIfInBounds_toArray, List.set_cons_zero, List.set_cons_succ]
                refine wpAnyH_ready (rs := [9]) (by kernel_rfl) (by simp) ?_
                refine AllReadyH.cons (by simp only [List.getElem?_toArray, List.getElem?_cons_succ, List.getElem?_cons_zero]; rfl) (fun K hK => ?_) AllReadyH.nil
                rw [if_pos (by rfl)]
                go_simp
                obtain ⟨Wa49, hWa49⟩ : ∃ W', W' = Wa48.alloc (.cells #[] 81) := ⟨_, rfl⟩
                have E2 : Emp Wa49 W0.heap.size 81 Wa48.heap.size := by rw [hWa49]; exact emp_new _ _ Bc.size
                have Ga49 : Below Wa48.heap.size Wa48 Wa49 := by rw [hWa49]; exact (Below.refl _ _).alloc (Nat.le_refl _) _
                have za49 : Wa49.heap.size ≤ Wa48.heap.size + 1 ∧ Wa48.heap.size + 1 ≤ Wa49.heap.size := by rw [hWa49]; simp
                have Bs := Bc.size
                have Bc := Bc.trans (Ga49.mono Bs)
                rw [← hWa49]
                clear hWa49
                have EM := EM.sameH (below_sameIn Ga49 (Nat.le_refl _)) (Nat.zero_le _) (by omega)
                have RM := RM.same (below_sameIn Ga49 (Nat.le_refl _)) (Nat.zero_le _) (by omega)
                have OM := OM.same (below_sameIn Ga49 (Nat.le_refl _))
                refine hK.out _ _ (hSb _ Bc) (fun hHeld => ?_)
                clear hK K
                try simp only [Act.put, List.setIfInBounds_toArray, List.set_cons_zero, List.set_cons_succ]
                refine wpAnyH_ready (rs := [12]) (by kernel_rfl) (by simp) ?_
                refine AllReadyH.cons (by simp only [List.getElem?_toArray, List.getElem?_cons_succ, List.getElem?_cons_zero]; rfl) (fun K hK => ?_) AllReadyH.nil
                rw [if_pos (by rfl)]
                obtain ⟨gQ, cQ, Wa50, hA, HA⟩ := appQ (c := cs0) E2 Bc.size (hsQ _ Bc) hs6
                go_simp
                try go_wp2_with (fail)
                clear hA
                obtain ⟨EQ, RQ, at12, lt12, gra50⟩ := HA.out
                clear HA
                have za50 := gra50.size
                have b12 := E2.1
                have k12 := E2.lt
                have Bs := Bc.size
                have Bc := Bc.trans (grown_below gra50 b12 Bs)
                have sEM : SameIn gM (gM + 1) Wa49 Wa50 := fun j j1 j2 => gra50.block j (by omega) (by intro e; have e := Option.some.inj e; omega)
                have EM := EM.sameH sEM (Nat.le_refl _) (Nat.lt_succ_self _)
                have RM := RM.same sEM (Nat.le_refl _) (Nat.lt_succ_self _)
                have OM := OM.same (fun j j1 j2 => gra50.block j (by omega) (by intro e; have e := Option.some.inj e; omega))
                clear E2 gra50
                have hOG : OwnGuest Wa50 wr.heap.size Wa50.heap.size (.slice (some ⟨gM, 0, none⟩) 6 cM) (.slice ad1 6 cd1) (.slice (some ⟨gQ, 0, none⟩) 6 cQ) (h.guests.getD k noG) := ⟨gM, gQ, cM, cQ, ad1, cd1, _, _, by rw [hm6], by rw [hd6], by rw [hs6], EM, by rw [hm6]; exact RM, EQ, by rw [hs6]; exact RQ, by rw [hd6]; exact OM, by omega, by omega, by omega, by omega, by omega, by omega, by omega, by omega, by omega⟩
                obtain ⟨lXw, gg, capg, w9, hApp, y1, y3, yX, HN⟩ := copyUp_app hU.out (Nat.le_trans n2 (Nat.le_refl _)) n3 n4 n6 (by omega) (hWr _ Bc) hOG
                have yS := hSf _ w9 Bc (yX wr.heap.size (Nat.le_refl _) (by omega))
                clear yX
                clear hOG EM RM EQ RQ OM
                refine hK.out _ _ (hSb _ Bc) (fun hHeld => ?_)
                clear hK K
                try simp only [Act.put, List.setIfInBounds_toArray, List.set_cons_zero, List.set_cons_succ]
                refine wpAnyH_take (i := 13) (v := ?_) (by simp only [List.getElem?_toArray, List.getElem?_cons_succ, List.getElem?_cons_zero]; rfl) (by kernel_rfl) (by kernel_rfl) (by kernel_rfl) (by exact fun _ _ _ h => h) (Or.inl ⟨by rfl, ?_⟩) hHeld ?_
                rotate_left
                · intro W' hW'; go_simp <;> with_reducible rfl
                simp only [Act.put, List.setIfInBounds_toArray, List.set_cons_zero, List.set_cons_succ]
                refine wpAnyH_ready (rs := [14]) (by kernel_rfl) (by simp) ?_
                refine AllReadyH.cons (by simp only [List.getElem?_toArray, List.getElem?_cons_succ, List.getElem?_cons_zero]; rfl) (fun K hK => ?_) AllReadyH.nil
                rw [if_pos (by rfl)]
                go_simp
                refine hK.out _ _ (hSb _ (Bc.alloc Bc.size _)) (fun hHeld => ?_)
                clear hK K
                try simp only [Act.put, List.setIfInBounds_toArray, List.set_cons_zero, List.set_cons_succ]
                refine wpAnyH_ready (rs := [15]) (by kernel_rfl) (by simp) ?_
                refine AllReadyH.cons (by simp only [List.getElem?_toArray, List.getElem?_cons_succ, List.getElem?_cons_zero]; rfl) (fun K hK => ?_) AllReadyH.nil
                rw [if_pos (by rfl)]
                go_simp
                try go_wp2_with (fail)
                clear hApp
                refine hK.out _ _ yS (fun hHeld => ?_)
                clear hK K
                try simp only [Act.put, List.setIfInBounds_toArray, List.set_cons_zero, List.set_cons_succ]
                refine wpAnyH_take (i := 16) (v := ?_) (by simp only [List.getElem?_toArray, List.getElem?_cons_succ, List.getElem?_cons_zero]; rfl) (by kernel_rfl) (by kernel_rfl) (by kernel_rfl) (by exact fun _ _ _ h => h) (Or.inl ⟨by rfl, ?_⟩) hHeld ?_
                rotate_left
                · intro W' hW'; go_simp <;> with_reducible rfl
                simp only [Act.put, List.setIfInBounds_toArray, List.set_cons_zero, List.set_cons_succ]
                refine wpAnyH_ready (rs := [17]) (by kernel_rfl) (by simp) ?_
                refine AllReadyH.cons (by simp only [List.getElem?_toArray, List.getElem?_cons_succ, List.getElem?_cons_zero]; rfl) (fun K hK => ?_) AllReadyH.nil
                rw [if_pos (by rfl)]
                have lX9 : X < w9.heap.size := World.block_lt_of_cell? _ _ y1
                go_simp
                refine hK.out _ _ (hSw _ _ hHeld) (fun hHeld => ?_)
                clear hK K
                try simp only [Act.put, List.setIfInBounds_toArray, List.set_cons_zero, List.set_cons_succ]
                refine wpAnyH_done (by kernel_rfl) ?_ _
                go_wp2
                go_roundw
                case rel => exact ⟨k + 1, _, _, by omega, by go_num, HN⟩
                case measure => simp [intOf]; omega

              · rw [if_pos (by rfl)]
                go_simp
                obtain ⟨Wa53, hWa53⟩ : ∃ W', W' = Wa46.alloc (.cells #[] 81) := ⟨_, rfl⟩
                have E2 : Emp Wa53 W0.heap.size 81 Wa46.heap.size := by rw [hWa53]; exact emp_new _ _ Bc.size
                have Ga53 : Below Wa46.heap.size Wa46 Wa53 := by rw [hWa53]; exact (Below.refl _ _).alloc (Nat.le_refl _) _
                have za53 : Wa53.heap.size ≤ Wa46.heap.size + 1 ∧ Wa46.heap.size + 1 ≤ Wa53.heap.size := by rw [hWa53]; simp
                have Bs := Bc.size
                have Bc := Bc.trans (Ga53.mono Bs)
                rw [← hWa53]
                clear hWa53
                have EM := EM.sameH (below_sameIn Ga53 (Nat.le_refl _)) (Nat.zero_le _) (by omega)
                have RM := RM.same (below_sameIn Ga53 (Nat.le_refl _)) (Nat.zero_le _) (by omega)
                refine hK.out _ _ (hSb _ Bc) (fun hHeld => ?_)
                clear hK K
                try simp only [Act.put, List.setIfInBounds_toArray, List.set_cons_zero, List.set_cons_succ]
                refine wpAnyH_ready (rs := [8]) (by kernel_rfl) (by simp) ?_
                refine AllReadyH.cons (by simp only [List.getElem?_toArray, List.getElem?_cons_succ, List.getElem?_cons_zero]; rfl) (fun K hK => ?_) AllReadyH.nil
                rw [if_pos (by rfl)]
                go_simp
                refine (hCp _ Bc).mono ?_
                rintro e Wa54 ⟨ad1, cd1, rfl, OM, Ga54⟩
                have za54 := Ga54.size
                have Bs := Bc.size
                have Bc := Bc.trans (Ga54.mono Bs)
                have EM := EM.sameH (below_sameIn Ga54 (Nat.le_refl _)) (Nat.zero_le _) (by omega)
                have RM := RM.same (below_sameIn Ga54 (Nat.le_refl _)) (Nat.zero_le _) (by omega)
                have k2 := E2.lt
                have E2 := E2.same (Ga54.block _ E2.lt)
                try go_wp2_with (fail)
                refine hK.out _ _ (hSb _ Bc) (fun hHeld => ?_)
                clear hK K
                try simp only [Act.put, List.setIfInBounds_toArray, List.set_cons_zero, List.set_cons_succ]
                refine wpAnyH_ready (rs := [12]) (by kernel_rfl) (by simp) ?_
                refine AllReadyH.cons (by simp only [List.getElem?_toArray, List.getElem?_cons_succ, List.getElem?_cons_zero]; rfl) (fun K hK => ?_) AllReadyH.nil
                rw [if_pos (by rfl)]
                obtain ⟨gQ, cQ, Wa55, hA, HA⟩ := appQ (c := cs0) E2 Bc.size (hsQ _ Bc) hs6
                go_simp
                try go_wp2_with (fail)
                clear hA
                obtain ⟨EQ, RQ, at12, lt12, gra55⟩ := HA.out
                clear HA
                have za55 := gra55.size
                have b12 := E2.1
                have k12 := E2.lt
                have Bs := Bc.size
                have Bc := Bc.trans (grown_below gra55 b12 Bs)
                have sEM : SameIn gM (gM + 1) Wa54 Wa55 := fun j j1 j2 => gra55.block j (by omega) (by intro e; have e := Option.some.inj e; omega)
                have EM := EM.sameH sEM (Nat.le_refl _) (Nat.lt_succ_self _)
                have RM := RM.same sEM (Nat.le_refl _) (Nat.lt_succ_self _)
                have OM := OM.same (fun j j1 j2 => gra55.block j (by omega) (by intro e; have e := Option.some.inj e; omega))
                clear E2 gra55
                have hOG : OwnGuest Wa55 wr.heap.size Wa55.heap.size (.slice (some ⟨gM, 0, none⟩) 6 cM) (.slice ad1 6 cd1) (.slice (some ⟨gQ, 0, none⟩) 6 cQ) (h.guests.getD k noG) := ⟨gM, gQ, cM, cQ, ad1, cd1, _, _, by rw [hm6], by rw [hd6], by rw [hs6], EM, by rw [hm6]; exact RM, EQ, by rw [hs6]; exact RQ, by rw [hd6]; exact OM, by omega, by omega, by omega, by omega, by omega, by omega, by omega, by omega, by omega⟩
                obtain ⟨lXw, gg, capg, w9, hApp, y1, y3, yX, HN⟩ := copyUp_app hU.out (Nat.le_trans n2 (Nat.le_refl _)) n3 n4 n6 (by omega) (hWr _ Bc) hOG
                have yS := hSf _ w9 Bc (yX wr.heap.size (Nat.le_refl _) (by omega))
                clear yX
                clear hOG EM RM EQ RQ OM
                refine hK.out _ _ (hSb _ Bc) (fun hHeld => ?_)
                clear hK K
                try simp only [Act.put, List.setIfInBounds_toArray, List.set_cons_zero, List.set_cons_succ]
                refine wpAnyH_take (i := 13) (v := ?_) (by simp only [List.getElem?_toArray, List.getElem?_cons_succ, List.getElem?_cons_zero]; rfl) (by kernel_rfl) (by kernel_rfl) (by kernel_rfl) (by exact fun _ _ _ h => h) (Or.inl ⟨by rfl, ?_⟩) hHeld ?_
                rotate_left
                · intro W' hW'; go_simp <;> with_reducible rfl
                simp only [Act.put, List.setIfInBounds_toArray, List.set_cons_zero, List.set_cons_succ]
                refine wpAnyH_ready (rs := [14]) (by kernel_rfl) (by simp) ?_
                refine AllReadyH.cons (by simp only [List.getElem?_toArray, List.getElem?_cons_succ, List.getElem?_cons_zero]; rfl) (fun K hK => ?_) AllReadyH.nil
                rw [if_pos (by rfl)]
                go_simp
                refine hK.out _ _ (hSb _ (Bc.alloc Bc.size _)) (fun hHeld => ?_)
                clear hK K
                try simp only [Act.put, List.setIfInBounds_toArray, List.set_cons_zero, List.set_cons_succ]
                refine wpAnyH_ready (rs := [15]) (by kernel_rfl) (by simp) ?_
                refine AllReadyH.cons (by simp only [List.getElem?_toArray, List.getElem?_cons_succ, List.getElem?_cons_zero]; rfl) (fun K hK => ?_) AllReadyH.nil
                rw [if_pos (by rfl)]
                go_simp
                try go_wp2_with (fail)
                clear hApp
                refine hK.out _ _ yS (fun hHeld => ?_)
                clear hK K
                try simp only [Act.put, List.setIfInBounds_toArray, List.set_cons_zero, List.set_cons_succ]
                refine wpAnyH_take (i := 16) (v := ?_) (by simp only [List.getElem?_toArray, List.getElem?_cons_succ, List.getElem?_cons_zero]; rfl) (by kernel_rfl) (by kernel_rfl) (by kernel_rfl) (by exact fun _ _ _ h => h) (Or.inl ⟨by rfl, ?_⟩) hHeld ?_
                rotate_left
                · intro W' hW'; go_simp <;> with_reducible rfl
                simp only [Act.put, List.setIfInBounds_toArray, List.set_cons_zero, List.set_cons_succ]
                refine wpAnyH_ready (rs := [17]) (by kernel_rfl) (by simp) ?_
                refine AllReadyH.cons (by simp only [List.getElem?_toArray, List.getElem?_cons_succ, List.getElem?_cons_zero]; rfl) (fun K hK => ?_) AllReadyH.nil
                rw [if_pos (by rfl)]
                have lX9 : X < w9.heap.size := World.block_lt_of_cell? _ _ y1
                go_simp
                refine hK.out _ _ (hSw _ _ hHeld) (fun hHeld => ?_)
                clear hK K
                try simp only [Act.put, List.setIfInBounds_toArray, List.set_cons_zero, List.set_cons_succ]
                refine wpAnyH_done (by kernel_rfl) ?_ _
                go_wp2
                go_roundw
                case rel => exact ⟨k + 1, _, _, by omega, by go_num, HN⟩
                case measure => simp [intOf]; omega

            · rw [if_pos (by rfl)]
              go_simp
              refine (hCp _ Bc).mono ?_
              rintro e Wa58 ⟨ad1, cd1, rfl, OM, Ga58⟩
              have za58 := Ga58.size
              have Bs := Bc.size
              have Bc := Bc.trans (Ga58.mono Bs)
              have EM := EM.sameH (below_sameIn Ga58 (Nat.le_refl _)) (Nat.zero_le _) (by omega)
              have RM := RM.same (below_sameIn Ga58 (Nat.le_refl _)) (Nat.zero_le _) (by omega)
              try go_wp2_with (fail)
              refine hK.out _ _ (hSb _ Bc) (fun hHeld => ?_)
              clear hK K
              try simp only [Act.put, List.setIfInBounds_toArray, List.set_cons_zero, List.set_cons_succ]
              refine wpAnyH_ready (rs := [1, 9]) (by kernel_rfl) (by simp) ?_
              refine AllReadyH.cons (by simp only [List.getElem?_toArray, List.getElem?_cons_succ, List.getElem?_cons_zero]; rfl) (fun K hK => ?_) (AllReadyH.cons (by simp only [List.getElem?_toArray, List.getElem?_cons_succ, List.getElem?_cons_zero]; rfl) (fun K hK => ?_) AllReadyH.nil)
              · rw [if_pos (by rfl)]
                have x1c := (Bc.cell (p := ⟨X, 1, none⟩) lX0).trans x1W
                have lXc : X < Wa58.heap.size := Nat.lt_of_lt_of_le lX0 (Nat.le_trans sN Bc.size)
                go_simp
                clear x1c lXc
                refine hK.out _ _ hHeld (fun hHeld => ?_)
                clear hK K
                try simp only [Act.put, List.setIfInBounds_toArray, List.set_cons_zero, List.set_cons_succ]
                refine wpAnyH_ready (rs := [9]) (by kernel_rfl) (by simp) ?_
                refine AllReadyH.cons (by simp only [List.getElem?_toArray, List.getElem?_cons_succ, List.getElem?_cons_zero]; rfl) (fun K hK => ?_) AllReadyH.nil
                rw [if_pos (by rfl)]
                go_simp
                obtain ⟨Wa60, hWa60⟩ : ∃ W', W' = Wa58.alloc (.cells #[] 81) := ⟨_, rfl⟩
                have E2 : Emp Wa60 W0.heap.size 81 Wa58.heap.size := by rw [hWa60]; exact emp_new _ _ Bc.size
                have Ga60 : Below Wa58.heap.size Wa58 Wa60 := by rw [hWa60]; exact (Below.refl _ _).alloc (Nat.le_refl _) _
                have za60 : Wa60.heap.size ≤ Wa58.heap.size + 1 ∧ Wa58.heap.size + 1 ≤ Wa60.heap.size := by rw [hWa60]; simp
                have Bs := Bc.size
                have Bc := Bc.trans (Ga60.mono Bs)
                rw [← hWa60]
                clear hWa60
                have EM := EM.sameH (below_sameIn Ga60 (Nat.le_refl _)) (Nat.zero_le _) (by omega)
                have RM := RM.same (below_sameIn Ga60 (Nat.le_refl _)) (Nat.zero_le _) (by omega)
                have OM := OM.same (below_sameIn Ga60 (Nat.le_refl _))
                refine hK.out _ _ (hSb _ Bc) (fun hHeld => ?_)
                clear hK K
                try simp only [Act.put, List.setIfInBounds_toArray, List.set_cons_zero, List.set_cons_succ]
                refine wpAnyH_ready (rs := [12]) (by kernel_rfl) (by simp) ?_
                refine AllReadyH.cons (by simp only [List.getElem?_toArray, List.getElem?_cons_succ, List.getElem?_cons_zero]; rfl) (fun K hK => ?_) AllReadyH.nil
                rw [if_pos (by rfl)]
                obtain ⟨gQ, cQ, Wa61, hA, HA⟩ := appQ (c := cs0) E2 Bc.size (hsQ _ Bc) hs6
                go_simp
                try go_wp2_with (fail)
                clear hA
                obtain ⟨EQ, RQ, at12, lt12, gra61⟩ := HA.out
                clear HA
                have za61 := gra61.size
                have b12 := E2.1
                have k12 := E2.lt
                have Bs := Bc.size
                have Bc := Bc.trans (grown_below gra61 b12 Bs)
                have sEM : SameIn gM (gM + 1) Wa60 Wa61 := fun j j1 j2 => gra61.block j (by omega) (by intro e; have e := Option.some.inj e; omega)
                have EM := EM.sameH sEM (Nat.le_refl _) (Nat.lt_succ_self _)
                have RM := RM.same sEM (Nat.le_refl _) (Nat.lt_succ_self _)
                have OM := OM.same (fun j j1 j2 => gra61.block j (by omega) (by intro e; have e := Option.some.inj e; omega))
                clear E2 gra61
                have hOG : OwnGuest Wa61 wr.heap.size Wa61.heap.size (.slice (some ⟨gM, 0, none⟩) 6 cM) (.slice ad1 6 cd1) (.slice (some ⟨gQ, 0, none⟩) 6 cQ) (h.guests.getD k noG) := ⟨gM, gQ, cM, cQ, ad1, cd1, _, _, by rw [hm6], by rw [hd6], by rw [hs6], EM, by rw [hm6]; exact RM, EQ, by rw [hs6]; exact RQ, by rw [hd6]; exact OM, by omega, by omega, by omega, by omega, by omega, by omega, by omega, by omega, by omega⟩
                obtain ⟨lXw, gg, capg, w9, hApp, y1, y3, yX, HN⟩ := copyUp_app hU.out (Nat.le_trans n2 (Nat.le_refl _)) n3 n4 n6 (by omega) (hWr _ Bc) hOG
                have yS := hSf _ w9 Bc (yX wr.heap.size (Nat.le_refl _) (by omega))
                clear yX
                clear hOG EM RM EQ RQ OM
                refine hK.out _ _ (hSb _ Bc) (fun hHeld => ?_)
                clear hK K
                try simp only [Act.put, List.setIfInBounds_toArray, List.set_cons_zero, List.set_cons_succ]
                refine wpAnyH_take (i := 13) (v := ?_) (by simp only [List.getElem?_toArray, List.getElem?_cons_succ, List.getElem?_cons_zero]; rfl) (by kernel_rfl) (by kernel_rfl) (by kernel_rfl) (by exact fun _ _ _ h => h) (Or.inl ⟨by rfl, ?_⟩) hHeld ?_
                rotate_left
                · intro W' hW'; go_simp <;> with_reducible rfl
                simp only [Act.put, List.setIfInBounds_toArray, List.set_cons_zero, List.set_cons_succ]
                refine wpAnyH_ready (rs := [14]) (by kernel_rfl) (by simp) ?_
                refine AllReadyH.cons (by simp only [List.getElem?_toArray, List.getElem?_cons_succ, List.getElem?_cons_zero]; rfl) (fun K hK => ?_) AllReadyH.nil
                rw [if_pos (by rfl)]
                go_simp
                refine hK.out _ _ (hSb _ (Bc.alloc Bc.size _)) (fun hHeld => ?_)
                clear hK K
                try simp only [Act.put, List.setIfInBounds_toArray, List.set_cons_zero, List.set_cons_succ]
                refine wpAnyH_ready (rs := [15]) (by kernel_rfl) (by simp) ?_
                refine AllReadyH.cons (by simp only [List.getElem?_toArray, List.getElem?_cons_succ, List.getElem?_cons_zero]; rfl) (fun K hK => ?_) AllReadyH.nil
                rw [if_pos (by rfl)]
                go_simp
                try go_wp2_with (fail)
                clear hApp
                refine hK.out _ _ yS (fun hHeld => ?_)
                clear hK K
                try simp only [Act.put, List.setIfInBounds_toArray, List.set_cons_zero, List.set_cons_succ]
                refine wpAnyH_take (i := 16) (v := ?_) (by simp only [List.getElem?_toArray, List.getElem?_cons_succ, List.getElem?_cons_zero]; rfl) (by kernel_rfl) (by kernel_rfl) (by kernel_rfl) (by exact fun _ _ _ h => h) (Or.inl ⟨by rfl, ?_⟩) hHeld ?_
                rotate_left
                · intro W' hW'; go_simp <;> with_reducible rfl
                simp only [Act.put, List.setIfInBounds_toArray, List.set_cons_zero, List.set_cons_succ]
                refine wpAnyH_ready (rs := [17]) (by kernel_rfl) (by simp) ?_
                refine AllReadyH.cons (by simp only [List.getElem?_toArray, List.getElem?_cons_succ, List.getElem?_cons_zero]; rfl) (fun K hK => ?_) AllReadyH.nil
                rw [if_pos (by rfl)]
                have lX9 : X < w9.heap.size := World.block_lt_of_cell? _ _ y1
                go_simp
                refine hK.out _ _ (hSw _ _ hHeld) (fun hHeld => ?_)
                clear hK K
                try simp only [Act.put, List.setIfInBounds_toArray, List.set_cons_zero, List.set_cons_succ]
                refine wpAnyH_done (by kernel_rfl) ?_ _
                go_wp2
                go_roundw
                case rel => exact ⟨k + 1, _, _, by omega, by go_num, HN⟩
                case measure => simp [intOf]; omega

              · rw [if_pos (by rfl)]
                go_simp
                obtain ⟨Wa64, hWa64⟩ : ∃ W', W' = Wa58.alloc (.cells #[] 81) := ⟨_, rfl⟩
                have E2 : Emp Wa64 W0.heap.size 81 Wa58.heap.size := by rw [hWa64]; exact emp_new _ _ Bc.size
                have Ga64 : Below Wa58.heap.size Wa58 Wa64 := by rw [hWa64]; exact (Below.refl _ _).alloc (Nat.le_refl _) _
                have za64 : Wa64.heap.size ≤ Wa58.heap.size + 1 ∧ Wa58.heap.size + 1 ≤ Wa64.heap.size := by rw [hWa64]; simp
                have Bs := Bc.size
                have Bc := Bc.trans (Ga64.mono Bs)
                rw [← hWa64]
                clear hWa64
                have EM := EM.sameH (below_sameIn Ga64 (Nat.le_refl _)) (Nat.zero_le _) (by omega)
                have RM := RM.same (below_sameIn Ga64 (Nat.le_refl _)) (Nat.zero_le _) (by omega)
                have OM := OM.same (below_sameIn Ga64 (Nat.le_refl _))
                refine hK.out _ _ (hSb _ Bc) (fun hHeld => ?_)
                clear hK K
                try simp only [Act.put, List.setIfInBounds_toArray, List.set_cons_zero, List.set_cons_succ]
                refine wpAnyH_ready (rs := [1, 12]) (by kernel_rfl) (by simp) ?_
                refine AllReadyH.cons (by simp only [List.getElem?_toArray, List.getElem?_cons_succ, List.getElem?_cons_zero]; rfl) (fun K hK => ?_) (AllReadyH.cons (by simp only [List.getElem?_toArray, List.getElem?_cons_succ, List.getElem?_cons_zero]; rfl) (fun K hK => ?_) AllReadyH.nil)
                · rw [if_pos (by rfl)]
                  have x1c := (Bc.cell (p := ⟨X, 1, none⟩) lX0).trans x1W
                  have lXc : X < Wa64.heap.size := Nat.lt_of_lt_of_le lX0 (Nat.le_trans sN Bc.size)
                  go_simp
                  clear x1c lXc
                  refine hK.out _ _ hHeld (fun hHeld => ?_)
                  clear hK K
                  try simp only [Act.put, List.setIfInBounds_toArray, List.set_cons_zero, List.set_cons_succ]
                  refine wpAnyH_ready (rs := [12]) (by kernel_rfl) (by simp) ?_
                  refine AllReadyH.cons (by simp only [List.getElem?_toArray, List.getElem?_cons_succ, List.getElem?_cons_zero]; rfl) (fun K hK => ?_) AllReadyH.nil
                  rw [if_pos (by rfl)]
                  obtain ⟨gQ, cQ, Wa66, hA, HA⟩ := appQ (c := cs0) E2 Bc.size (hsQ _ Bc) hs6
                  go_simp
                  try go_wp2_with (fail)
                  clear hA
                  obtain ⟨EQ, RQ, at12, lt12, gra66⟩ := HA.out
                  clear HA
                  have za66 := gra66.size
                  have b12 := E2.1
                  have k12 := E2.lt
                  have Bs := Bc.size
                  have Bc := Bc.trans (grown_below gra66 b12 Bs)
                  have sEM : SameIn gM (gM + 1) Wa64 Wa66 := fun j j1 j2 => gra66.block j (by omega) (by intro e; have e := Option.some.inj e; omega)
                  have EM := EM.sameH sEM (Nat.le_refl _) (Nat.lt_succ_self _)
                  have RM := RM.same sEM (Nat.le_refl _) (Nat.lt_succ_self _)
                  have OM := OM.same (fun j j1 j2 => gra66.block j (by omega) (by intro e; have e := Option.some.inj e; omega))
                  clear E2 gra66
                  have hOG : OwnGuest Wa66 wr.heap.size Wa66.heap.size (.slice (some ⟨gM, 0, none⟩) 6 cM) (.slice ad1 6 cd1) (.slice (some ⟨gQ, 0, none⟩) 6 cQ) (h.guests.getD k noG) := ⟨gM, gQ, cM, cQ, ad1, cd1, _, _, by rw [hm6], by rw [hd6], by rw [hs6], EM, by rw [hm6]; exact RM, EQ, by rw [hs6]; exact RQ, by rw [hd6]; exact OM, by omega, by omega, by omega, by omega, by omega, by omega, by omega, by omega, by omega⟩
                  obtain ⟨lXw, gg, capg, w9, hApp, y1, y3, yX, HN⟩ := copyUp_app hU.out (Nat.le_trans n2 (Nat.le_refl _)) n3 n4 n6 (by omega) (hWr _ Bc) hOG
                  have yS := hSf _ w9 Bc (yX wr.heap.size (Nat.le_refl _) (by omega))
                  clear yX
                  clear hOG EM RM EQ RQ OM
                  refine hK.out _ _ (hSb _ Bc) (fun hHeld => ?_)
                  clear hK K
                  try simp only [Act.put, List.setIfInBounds_toArray, List.set_cons_zero, List.set_cons_succ]
                  refine wpAnyH_take (i := 13) (v := ?_) (by simp only [List.getElem?_toArray, List.getElem?_cons_succ, List.getElem?_cons_zero]; rfl) (by kernel_rfl) (by kernel_rfl) (by kernel_rfl) (by exact fun _ _ _ h => h) (Or.inl ⟨by rfl, ?_⟩) hHeld ?_
                  rotate_left
                  · intro W' hW'; go_simp <;> with_reducible rfl
                  simp only [Act.put, List.setIfInBounds_toArray, List.set_cons_zero, List.set_cons_succ]
                  refine wpAnyH_ready (rs := [14]) (by kernel_rfl) (by simp) ?_
                  refine AllReadyH.cons (by simp only [List.getElem?_toArray, List.getElem?_cons_succ, List.getElem?_cons_zero]; rfl) (fun K hK => ?_) AllReadyH.nil
                  rw [if_pos (by rfl)]
                  go_simp
                  refine hK.out _ _ (hSb _ (Bc.alloc Bc.size _)) (fun hHeld => ?_)
                  clear hK K
                  try simp only [Act.put, List.setIfInBounds_toArray, List.set_cons_zero, List.set_cons_succ]
                  refine wpAnyH_ready (rs := [15]) (by kernel_rfl) (by simp) ?_
                  refine AllReadyH.cons (by simp only [List.getElem?_toArray, List.getElem?_cons_succ, List.getElem?_cons_zero]; rfl) (fun K hK => ?_) AllReadyH.nil
                  rw [if_pos (by rfl)]
                  go_simp
                  try go_wp2_with (fail)
                  clear hApp
                  refine hK.out _ _ yS (fun hHeld => ?_)
                  clear hK K
                  try simp only [Act.put, List.setIfInBounds_toArray, List.set_cons_zero, List.set_cons_succ]
                  refine wpAnyH_take (i := 16) (v := ?_) (by simp only [List.getElem?_toArray, List.getElem?_cons_succ, List.getElem?_cons_zero]; rfl) (by kernel_rfl) (by kernel_rfl) (by kernel_rfl) (by exact fun _ _ _ h => h) (Or.inl ⟨by rfl, ?_⟩) hHeld ?_
                  rotate_left
                  · intro W' hW'; go_simp <;> with_reducible rfl
                  simp only [Act.put, List.setIfInBounds_toArray, List.set_cons_zero, List.set_cons_succ]
                  refine wpAnyH_ready (rs := [17]) (by kernel_rfl) (by simp) ?_
                  refine AllReadyH.cons (by simp only [List.getElem?_toArray, List.getElem?_cons_succ, List.getElem?_cons_zero]; rfl) (fun K hK => ?_) AllReadyH.nil
                  rw [if_pos (by rfl)]
                  have lX9 : X < w9.heap.size := World.block_lt_of_cell? _ _ y1
                  go_simp
                  refine hK.out _ _ (hSw _ _ hHeld) (fun hHeld => ?_)
                  clear hK K
                  try simp only [Act.put, List.setIfInBounds_toArray, List.set_cons_zero, List.set_cons_succ]
                  refine wpAnyH_done (by kernel_rfl) ?_ _
                  go_wp2
                  go_roundw
                  case rel => exact ⟨k + 1, _, _, by omega, by go_num, HN⟩
                  case measure => simp [intOf]; omega

                · rw [if_pos (by rfl)]
                  obtain ⟨gQ, cQ, Wa69, hA, HA⟩ := appQ (c := cs0) E2 Bc.size (hsQ _ Bc) hs6
                  go_simp
                  try go_wp2_with (fail)
                  clear hA
                  obtain ⟨EQ, RQ, at12, lt12, gra69⟩ := HA.out
                  clear HA
                  have za69 := gra69.size
                  have b12 := E2.1
                  have k12 := E2.lt
                  have Bs := Bc.size
                  have Bc := Bc.trans (grown_below gra69 b12 Bs)
                  have sEM : SameIn gM (gM + 1) Wa64 Wa69 := fun j j1 j2 => gra69.block j (by omega) (by intro e; have e := Option.some.inj e; omega)
                  have EM := EM.sameH sEM (Nat.le_refl _) (Nat.lt_succ_self _)
                  have RM := RM.same sEM (Nat.le_refl _) (Nat.lt_succ_self _)
                  have OM := OM.same (fun j j1 j2 => gra69.block j (by omega) (by intro e; have e := Option.some.inj e; omega))
                  clear E2 gra69
                  have hOG : OwnGuest Wa69 wr.heap.size Wa69.heap.size (.slice (some ⟨gM, 0, none⟩) 6 cM) (.slice ad1 6 cd1) (.slice (some ⟨gQ, 0, none⟩) 6 cQ) (h.guests.getD k noG) := ⟨gM, gQ, cM, cQ, ad1, cd1, _, _, by rw [hm6], by rw [hd6], by rw [hs6], EM, by rw [hm6]; exact RM, EQ, by rw [hs6]; exact RQ, by rw [hd6]; exact OM, by omega, by omega, by omega, by omega, by omega, by omega, by omega, by omega, by omega⟩
                  obtain ⟨lXw, gg, capg, w9, hApp, y1, y3, yX, HN⟩ := copyUp_app hU.out (Nat.le_trans n2 (Nat.le_refl _)) n3 n4 n6 (by omega) (hWr _ Bc) hOG
                  have yS := hSf _ w9 Bc (yX wr.heap.size (Nat.le_refl _) (by omega))
                  clear yX
                  clear hOG EM RM EQ RQ OM
                  refine hK.out _ _ (hSb _ Bc) (fun hHeld => ?_)
                  clear hK K
                  try simp only [Act.put, List.setIfInBounds_toArray, List.set_cons_zero, List.set_cons_succ]
                  refine wpAnyH_take (i := 13) (v := ?_) (by simp only [List.getElem?_toArray, List.getElem?_cons_succ, List.getElem?_cons_zero]; rfl) (by kernel_rfl) (by kernel_rfl) (by kernel_rfl) (by exact fun _ _ _ h => h) (Or.inl ⟨by rfl, ?_⟩) hHeld ?_
                  rotate_left
                  · intro W' hW'; go_simp <;> with_reducible rfl
                  simp only [Act.put, List.setIfInBounds_toArray, List.set_cons_zero, List.set_cons_succ]
                  refine wpAnyH_ready (rs := [1, 14]) (by kernel_rfl) (by simp) ?_
                  refine AllReadyH.cons (by simp only [List.getElem?_toArray, List.getElem?_cons_succ, List.getElem?_cons_zero]; rfl) (fun K hK => ?_) (AllReadyH.cons (by simp only [List.getElem?_toArray, List.getElem?_cons_succ, List.getElem?_cons_zero]; rfl) (fun K hK => ?_) AllReadyH.nil)
                  · rw [if_pos (by rfl)]
                    have x1c := (Bc.cell (p := ⟨X, 1, none⟩) lX0).trans x1W
                    have lXc : X < Wa69.heap.size := Nat.lt_of_lt_of_le lX0 (Nat.le_trans sN Bc.size)
                    go_simp
                    clear x1c lXc
                    refine hK.out _ _ hHeld (fun hHeld => ?_)
                    clear hK K
                    try simp only [Act.put, List.setIfInBounds_toArray, List.set_cons_zero, List.set_cons_succ]
                    refine wpAnyH_ready (rs := [14]) (by kernel_rfl) (by simp) ?_
                    refine AllReadyH.cons (by simp only [List.getElem?_toArray, List.getElem?_cons_succ, List.getElem?_cons_zero]; rfl) (fun K hK => ?_) AllReadyH.nil
                    rw [if_pos (by rfl)]
                    go_simp
                    refine hK.out _ _ (hSb _ (Bc.alloc Bc.size _)) (fun hHeld => ?_)
                    clear hK K
                    try simp only [Act.put, List.setIfInBounds_toArray, List.set_cons_zero, List.set_cons_succ]
                    refine wpAnyH_ready (rs := [15]) (by kernel_rfl) (by simp) ?_
                    refine AllReadyH.cons (by simp only [List.getElem?_toArray, List.getElem?_cons_succ, List.getElem?_cons_zero]; rfl) (fun K hK => ?_) AllReadyH.nil
                    rw [if_pos (by rfl)]
                    go_simp
                    try go_wp2_with (fail)
                    clear hApp
                    refine hK.out _ _ yS (fun hHeld => ?_)
                    clear hK K
                    try simp only [Act.put, List.setIfInBounds_toArray, List.set_cons_zero, List.set_cons_succ]
                    refine wpAnyH_take (i := 16) (v := ?_) (by simp only [List.getElem?_toArray, List.getElem?_cons_succ, List.getElem?_cons_zero]; rfl) (by kernel_rfl) (by kernel_rfl) (by kernel_rfl) (by exact fun _ _ _ h => h) (Or.inl ⟨by rfl, ?_⟩) hHeld ?_
                    rotate_left
                    · intro W' hW'; go_simp <;> with_reducible rfl
                    simp only [Act.put, List.setIfInBounds_toArray, List.set_cons_zero, List.set_cons_succ]
                    refine wpAnyH_ready (rs := [17]) (by kernel_rfl) (by simp) ?_
                    refine AllReadyH.cons (by simp only [List.getElem?_toArray, List.getElem?_cons_succ, List.getElem?_cons_zero]; rfl) (fun K hK => ?_) AllReadyH.nil
                    rw [if_pos (by rfl)]
                    have lX9 : X < w9.heap.size := World.block_lt_of_cell? _ _ y1
                    go_simp
                    refine hK.out _ _ (hSw _ _ hHeld) (fun hHeld => ?_)
                    clear hK K
                    try simp only [Act.put, List.setIfInBounds_toArray, List.set_cons_zero, List.set_cons_succ]
                    refine wpAnyH_done (by kernel_rfl) ?_ _
                    go_wp2
                    go_roundw
                    case rel => exact ⟨k + 1, _, _, by omega, by go_num, HN⟩
                    case measure => simp [intOf]; omega

                  · rw [if_pos (by rfl)]
                    go_simp
                    refine hK.out _ _ (hSb _ (Bc.alloc Bc.size _)) (fun hHeld => ?_)
                    clear hK K
                    try simp only [Act.put, List.setIfInBounds_toArray, List.set_cons_zero, List.set_cons_succ]
                    refine wpAnyH_ready (rs := [1]) (by kernel_rfl) (by simp) ?_
                    refine AllReadyH.cons (by simp only [List.getElem?_toArray, List.getElem?_cons_succ, List.getElem?_cons_zero]; rfl) (fun K hK => ?_) AllReadyH.nil
                    rw [if_pos (by rfl)]
                    have x1c := (Bc.cell (p := ⟨X, 1, none⟩) lX0).trans x1W
                    have lXc : X < Wa69.heap.size := Nat.lt_of_lt_of_le lX0 (Nat.le_trans sN Bc.size)
                    go_simp
                    clear x1c lXc
                    refine hK.out _ _ hHeld (fun hHeld => ?_)
                    clear hK K
                    try simp only [Act.put, List.setIfInBounds_toArray, List.set_cons_zero, List.set_cons_succ]
                    refine wpAnyH_ready (rs := [15]) (by kernel_rfl) (by simp) ?_
                    refine AllReadyH.cons (by simp only [List.getElem?_toArray, List.getElem?_cons_succ, List.getElem?_cons_zero]; rfl) (fun K hK => ?_) AllReadyH.nil
                    rw [if_pos (by rfl)]
                    go_simp
                    try go_wp2_with (fail)
                    clear hApp
                    refine hK.out _ _ yS (fun hHeld => ?_)
                    clear hK K
                    try simp only [Act.put, List.setIfInBounds_toArray, List.set_cons_zero, List.set_cons_succ]
                    refine wpAnyH_take (i := 16) (v := ?_) (by simp only [List.getElem?_toArray, List.getElem?_cons_succ, List.getElem?_cons_zero]; rfl) (by kernel_rfl) (by kernel_rfl) (by kernel_rfl) (by exact fun _ _ _ h => h) (Or.inl ⟨by rfl, ?_⟩) hHeld ?_
                    rotate_left
                    · intro W' hW'; go_simp <;> with_reducible rfl
                    simp only [Act.put, List.setIfInBounds_toArray, List.set_cons_zero, List.set_cons_succ]
                    refine wpAnyH_ready (rs := [17]) (by kernel_rfl) (by simp) ?_
                    refine AllReadyH.cons (by simp only [List.getElem?_toArray, List.getElem?_cons_succ, List.getElem?_cons_zero]; rfl) (fun K hK => ?_) AllReadyH.nil
                    rw [if_pos (by rfl)]
                    have lX9 : X < w9.heap.size := World.block_lt_of_cell? _ _ y1
                    go_simp
                    refine hK.out _ _ (hSw _ _ hHeld) (fun hHeld => ?_)
                    clear hK K
                    try simp only [Act.put, List.setIfInBounds_toArray, List.set_cons_zero, List.set_cons_succ]
                    refine wpAnyH_done (by kernel_rfl) ?_ _
                    go_wp2
                    go_roundw
                    case rel => exact ⟨k + 1, _, _, by omega, by go_num, HN⟩
                    case measure => simp [intOf]; omega

            · rw [if_pos (by rfl)]
              go_simp
              obtain ⟨Wa76, hWa76⟩ : ∃ W', W' = Wa46.alloc (.cells #[] 81) := ⟨_, rfl⟩
              have E2 : Emp Wa76 W0.heap.size 81 Wa46.heap.size := by rw [hWa76]; exact emp_new _ _ Bc.size
              have Ga76 : Below Wa46.heap.size Wa46 Wa76 := by rw [hWa76]; exact (Below.refl _ _).alloc (Nat.le_refl _) _
              have za76 : Wa76.heap.size ≤ Wa46.heap.size + 1 ∧ Wa46.heap.size + 1 ≤ Wa76.heap.size := by rw [hWa76]; simp
              have Bs := Bc.size
              have Bc := Bc.trans (Ga76.mono Bs)
              rw [← hWa76]
              clear hWa76
              have EM := EM.sameH (below_sameIn Ga76 (Nat.le_refl _)) (Nat.zero_le _) (by omega)
              have RM := RM.same (below_sameIn Ga76 (Nat.le_refl _)) (Nat.zero_le _) (by omega)
              refine hK.out _ _ (hSb _ Bc) (fun hHeld => ?_)
              clear hK K
              try simp only [Act.put, List.setIfInBounds_toArray, List.set_cons_zero, List.set_cons_succ]
              refine wpAnyH_ready (rs := [1, 8]) (by kernel_rfl) (by simp) ?_
              refine AllReadyH.cons (by simp only [List.getElem?_toArray, List.getElem?_cons_succ, List.getElem?_cons_zero]; rfl) (fun K hK => ?_) (AllReadyH.cons (by simp only [List.getElem?_toArray, List.getElem?_cons_succ, List.getElem?_cons_zero]; rfl) (fun K hK => ?_) AllReadyH.nil)
              · rw [if_pos (by rfl)]
                have x1c := (Bc.cell (p := ⟨X, 1, none⟩) lX0).trans x1W
                have lXc : X < Wa76.heap.size := Nat.lt_of_lt_of_le lX0 (Nat.le_trans sN Bc.size)
                go_simp
                clear x1c lXc
                refine hK.out _ _ hHeld (fun hHeld => ?_)
                clear hK K
                try simp only [Act.put, List.setIfInBounds_toArray, List.set_cons_zero, List.set_cons_succ]
                refine wpAnyH_ready (rs := [8]) (by kernel_rfl) (by simp) ?_
                refine AllReadyH.cons (by simp only [List.getElem?_toArray, List.getElem?_cons_succ, List.getElem?_cons_zero]; rfl) (fun K hK => ?_) AllReadyH.nil
                rw [if_pos (by rfl)]
                go_simp
                refine (hCp _ Bc).mono ?_
                rintro e Wa78 ⟨ad1, cd1, rfl, OM, Ga78⟩
                have za78 := Ga78.size
                have Bs := Bc.size
                have Bc := Bc.trans (Ga78.mono Bs)
                have EM := EM.sameH (below_sameIn Ga78 (Nat.le_refl _)) (Nat.zero_le _) (by omega)
                have RM := RM.same (below_sameIn Ga78 (Nat.le_refl _)) (Nat.zero_le _) (by omega)
                have k2 := E2.lt
                have E2 := E2.same (Ga78.block _ E2.lt)
                try go_wp2_with (fail)
                refine hK.out _ _ (hSb _ Bc) (fun hHeld => ?_)
                clear hK K
                try simp only [Act.put, List.setIfInBounds_toArray, List.set_cons_zero, List.set_cons_succ]
                refine wpAnyH_ready (rs := [12]) (by kernel_rfl) (by simp) ?_
                refine AllReadyH.cons (by simp only [List.getElem?_toArray, List.getElem?_cons_succ, List.getElem?_cons_zero]; rfl) (fun K hK => ?_) AllReadyH.nil
                rw [if_pos (by rfl)]
                obtain ⟨gQ, cQ, Wa79, hA, HA⟩ := appQ (c := cs0) E2 Bc.size (hsQ _ Bc) hs6
                go_simp
                try go_wp2_with (fail)
                clear hA
                obtain ⟨EQ, RQ, at12, lt12, gra79⟩ := HA.out
                clear HA
                have za79 := gra79.size
                have b12 := E2.1
                have k12 := E2.lt
                have Bs := Bc.size
                have Bc := Bc.trans (grown_below gra79 b12 Bs)
                have sEM : SameIn gM (gM + 1) Wa78 Wa79 := fun j j1 j2 => gra79.block j (by omega) (by intro e; have e := Option.some.inj e; omega)
                have EM := EM.sameH sEM (Nat.le_refl _) (Nat.lt_succ_self _)
                have RM := RM.same sEM (Nat.le_refl _) (Nat.lt_succ_self _)
                have OM := OM.same (fun j j1 j2 => gra79.block j (by omega) (by intro e; have e := Option.some.inj e; omega))
                clear E2 gra79
                have hOG : OwnGuest Wa79 wr.heap.size Wa79.heap.size (.slice (some ⟨gM, 0, none⟩) 6 cM) (.slice ad1 6 cd1) (.slice (some ⟨gQ, 0, none⟩) 6 cQ) (h.guests.getD k noG) := ⟨gM, gQ, cM, cQ, ad1, cd1, _, _, by rw [hm6], by rw [hd6], by rw [hs6], EM, by rw [hm6]; exact RM, EQ, by rw [hs6]; exact RQ, by rw [hd6]; exact OM, by omega, by omega, by omega, by omega, by omega, by omega, by omega, by omega, by omega⟩
                obtain ⟨lXw, gg, capg, w9, hApp, y1, y3, yX, HN⟩ := copyUp_app hU.out (Nat.le_trans n2 (Nat.le_refl _)) n3 n4 n6 (by omega) (hWr _ Bc) hOG
                have yS := hSf _ w9 Bc (yX wr.heap.size (Nat.le_refl _) (by omega))
                clear yX
                clear hOG EM RM EQ RQ OM
                refine hK.out _ _ (hSb _ Bc) (fun hHeld => ?_)
                clear hK K
                try simp only [Act.put, List.setIfInBounds_toArray, List.set_cons_zero, List.set_cons_succ]
                refine wpAnyH_take (i := 13) (v := ?_) (by simp only [List.getElem?_toArray, List.getElem?_cons_succ, List.getElem?_cons_zero]; rfl) (by kernel_rfl) (by kernel_rfl) (by kernel_rfl) (by exact fun _ _ _ h => h) (Or.inl ⟨by rfl, ?_⟩) hHeld ?_
                rotate_left
                · intro W' hW'; go_simp <;> with_reducible rfl
                simp only [Act.put, List.setIfInBounds_toArray, List.set_cons_zero, List.set_cons_succ]
                refine wpAnyH_ready (rs := [14]) (by kernel_rfl) (by simp) ?_
                refine AllReadyH.cons (by simp only [List.getElem?_toArray, List.getElem?_cons_succ, List.getElem?_cons_zero]; rfl) (fun K hK => ?_) AllReadyH.nil
                rw [if_pos (by rfl)]
                go_simp
                refine hK.out _ _ (hSb _ (Bc.alloc Bc.size _)) (fun hHeld => ?_)
                clear hK K
                try simp only [Act.put, List.setIfInBounds_toArray, List.set_cons_zero, List.set_cons_succ]
                refine wpAnyH_ready (rs := [15]) (by kernel_rfl) (by simp) ?_
                refine AllReadyH.cons (by simp only [List.getElem?_toArray, List.getElem?_cons_succ, List.getElem?_cons_zero]; rfl) (fun K hK => ?_) AllReadyH.nil
                rw [if_pos (by rfl)]
                go_simp
                try go_wp2_with (fail)
                clear hApp
                refine hK.out _ _ yS (fun hHeld => ?_)
                clear hK K
                try simp only [Act.put, List.setIfInBounds_toArray, List.set_cons_zero, List.set_cons_succ]
                refine wpAnyH_take (i := 16) (v := ?_) (by simp only [List.getElem?_toArray, List.getElem?_cons_succ, List.getElem?_cons_zero]; rfl) (by kernel_rfl) (by kernel_rfl) (by kernel_rfl) (by exact fun _ _ _ h => h) (Or.inl ⟨by rfl, ?_⟩) hHeld ?_
                rotate_left
                · intro W' hW'; go_simp <;> with_reducible rfl
                simp only [Act.put, List.setIfInBounds_toArray, List.set_cons_zero, List.set_cons_succ]
                refine wpAnyH_ready (rs := [17]) (by kernel_rfl) (by simp) ?_
                refine AllReadyH.cons (by simp only [List.getElem?_toArray, List.getElem?_cons_succ, List.getElem?_cons_zero]; rfl) (fun K hK => ?_) AllReadyH.nil
                rw [if_pos (by rfl)]
                have lX9 : X < w9.heap.size := World.block_lt_of_cell? _ _ y1
                go_simp
                refine hK.out _ _ (hSw _ _ hHeld) (fun hHeld => ?_)
                clear hK K
                try simp only [Act.put, List.setIfInBounds_toArray, List.set_cons_zero, List.set_cons_succ]
                refine wpAnyH_done (by kernel_rfl) ?_ _
                go_wp2
                go_roundw
                case rel => exact ⟨k + 1, _, _, by omega, by go_num, HN⟩
                case measure => simp [intOf]; omega

              · rw [if_pos (by rfl)]
                go_simp
                refine (hCp _ Bc).mono ?_
                rintro e Wa82 ⟨ad1, cd1, rfl, OM, Ga82⟩
                have za82 := Ga82.size
                have Bs := Bc.size
                have Bc := Bc.trans (Ga82.mono Bs)
                have EM := EM.sameH (below_sameIn Ga82 (Nat.le_refl _)) (Nat.zero_le _) (by omega)
                have RM := RM.same (below_sameIn Ga82 (Nat.le_refl _)) (Nat.zero_le _) (by omega)
                have k2 := E2.lt
                have E2 := E2.same (Ga82.block _ E2.lt)
                try go_wp2_with (fail)
                refine hK.out _ _ (hSb _ Bc) (fun hHeld => ?_)
                clear hK K
                try simp only [Act.put, List.setIfInBounds_toArray, List.set_cons_zero, List.set_cons_succ]
                refine wpAnyH_ready (rs := [1, 12]) (by kernel_rfl) (by simp) ?_
                refine AllReadyH.cons (by simp only [List.getElem?_toArray, List.getElem?_cons_succ, List.getElem?_cons_zero]; rfl) (fun K hK => ?_) (AllReadyH.cons (by simp only [List.getElem?_toArray, List.getElem?_cons_succ, List.getElem?_cons_zero]; rfl) (fun K hK => ?_) AllReadyH.nil)
                · rw [if_pos (by rfl)]
                  have x1c := (Bc.cell (p := ⟨X, 1, none⟩) lX0).trans x1W
                  have lXc : X < Wa82.heap.size := Nat.lt_of_lt_of_le lX0 (Nat.le_trans sN Bc.size)
                  go_simp
                  clear x1c lXc
                  refine hK.out _ _ hHeld (fun hHeld => ?_)
                  clear hK K
                  try simp only [Act.put, List.setIfInBounds_toArray, List.set_cons_zero, List.set_cons_succ]
                  refine wpAnyH_ready (rs := [12]) (by kernel_rfl) (by simp) ?_
                  refine AllReadyH.cons (by simp only [List.getElem?_toArray, List.getElem?_cons_succ, List.getElem?_cons_zero]; rfl) (fun K hK => ?_) AllReadyH.nil
                  rw [if_pos (by rfl)]
                  obtain ⟨gQ, cQ, Wa84, hA, HA⟩ := appQ (c := cs0) E2 Bc.size (hsQ _ Bc) hs6
                  go_simp
                  try go_wp2_with (fail)
                  clear hA
                  obtain ⟨EQ, RQ, at12, lt12, gra84⟩ := HA.out
                  clear HA
                  have za84 := gra84.size
                  have b12 := E2.1
                  have k12 := E2.lt
                  have Bs := Bc.size
                  have Bc := Bc.trans (grown_below gra84 b12 Bs)
                  have sEM : SameIn gM (gM + 1) Wa82 Wa84 := fun j j1 j2 => gra84.block j (by omega) (by intro e; have e := Option.some.inj e; omega)
                  have EM := EM.sameH sEM (Nat.le_refl _) (Nat.lt_succ_self _)
                  have RM := RM.same sEM (Nat.le_refl _) (Nat.lt_succ_self _)
                  have OM := OM.same (fun j j1 j2 => gra84.block j (by omega) (by intro e; have e := Option.some.inj e; omega))
                  clear E2 gra84
                  have hOG : OwnGuest Wa84 wr.heap.size Wa84.heap.size (.slice (some ⟨gM, 0, none⟩) 6 cM) (.slice ad1 6 cd1) (.slice (some ⟨gQ, 0, none⟩) 6 cQ) (h.guests.getD k noG) := ⟨gM, gQ, cM, cQ, ad1, cd1, _, _, by rw [hm6], by rw [hd6], by rw [hs6], EM, by rw [hm6]; exact RM, EQ, by rw [hs6]; exact RQ, by rw [hd6]; exact OM, by omega, by omega, by omega, by omega, by omega, by omega, by omega, by omega, by omega⟩
                  obtain ⟨lXw, gg, capg, w9, hApp, y1, y3, yX, HN⟩ := copyUp_app hU.out (Nat.le_trans n2 (Nat.le_refl _)) n3 n4 n6 (by omega) (hWr _ Bc) hOG
                  have yS := hSf _ w9 Bc (yX wr.heap.size (Nat.le_refl _) (by omega))
                  clear yX
                  clear hOG EM RM EQ RQ OM
                  refine hK.out _ _ (hSb _ Bc) (fun hHeld => ?_)
                  clear hK K
                  try simp only [Act.put, List.setIfInBounds_toArray, List.set_cons_zero, List.set_cons_succ]
                  refine wpAnyH_take (i := 13) (v := ?_) (by simp only [List.getElem?_toArray, List.getElem?_cons_succ, List.getElem?_cons_zero]; rfl) (by kernel_rfl) (by kernel_rfl) (by kernel_rfl) (by exact fun _ _ _ h => h) (Or.inl ⟨by rfl, ?_⟩) hHeld ?_
                  rotate_left
                  · intro W' hW'; go_simp <;> with_reducible rfl
                  simp only [Act.put, List.setIfInBounds_toArray, List.set_cons_zero, List.set_cons_succ]
                  refine wpAnyH_ready (rs := [14]) (by kernel_rfl) (by simp) ?_
                  refine AllReadyH.cons (by simp only [List.getElem?_toArray, List.getElem?_cons_succ, List.getElem?_cons_zero]; rfl) (fun K hK => ?_) AllReadyH.nil
                  rw [if_pos (by rfl)]
                  go_simp
                  refine hK.out _ _ (hSb _ (Bc.alloc Bc.size _)) (fun hHeld => ?_)
                  clear hK K
                  try simp only [Act.put, List.setIfInBounds_toArray, List.set_cons_zero, List.set_cons_succ]
                  refine wpAnyH_ready (rs := [15]) (by kernel_rfl) (by simp) ?_
                  refine AllReadyH.cons (by simp only [List.getElem?_toArray, List.getElem?_cons_succ, List.getElem?_cons_zero]; rfl) (fun K hK => ?_) AllReadyH.nil
                  rw [if_pos (by rfl)]
                  go_simp
                  try go_wp2_with (fail)
                  clear hApp
                  refine hK.out _ _ yS (fun hHeld => ?_)
                  clear hK K
                  try simp only [Act.put, List.setIfInBounds_toArray, List.set_cons_zero, List.set_cons_succ]
                  refine wpAnyH_take (i := 16) (v := ?_) (by simp only [List.getElem?_toArray, List.getElem?_cons_succ, List.getElem?_cons_zero]; rfl) (by kernel_rfl) (by kernel_rfl) (by kernel_rfl) (by exact fun _ _ _ h => h) (Or.inl ⟨by rfl, ?_⟩) hHeld ?_
                  rotate_left
                  · intro W' hW'; go_simp <;> with_reducible rfl
                  simp only [Act.put, List.setIfInBounds_toArray, List.set_cons_zero, List.set_cons_succ]
                  refine wpAnyH_ready (rs := [17]) (by kernel_rfl) (by simp) ?_
                  refine AllReadyH.cons (by simp only [List.getElem?_toArray, List.getElem?_cons_succ, List.getElem?_cons_zero]; rfl) (fun K hK => ?_) AllReadyH.nil
                  rw [if_pos (by rfl)]
                  have lX9 : X < w9.heap.size := World.block_lt_of_cell? _ _ y1
                  go_simp
                  refine hK.out _ _ (hSw _ _ hHeld) (fun hHeld => ?_)
                  clear hK K
                  try simp only [Act.put, List.setIfInBounds_toArray, List.set_cons_zero, List.set_cons_succ]
                  refine wpAnyH_done (by kernel_rfl) ?_ _
                  go_wp2
                  go_roundw
                  case rel => exact ⟨k + 1, _, _, by omega, by go_num, HN⟩
                  case measure => simp [intOf]; omega

                · rw [if_pos (by rfl)]
                  obtain ⟨gQ, cQ, Wa87, hA, HA⟩ := appQ (c := cs0) E2 Bc.size (hsQ _ Bc) hs6
                  go_simp
                  try go_wp2_with (fail)
                  clear hA
                  obtain ⟨EQ, RQ, at12, lt12, gra87⟩ := HA.out
                  clear HA
                  have za87 := gra87.size
                  have b12 := E2.1
                  have k12 := E2.lt
                  have Bs := Bc.size
                  have Bc := Bc.trans (grown_below gra87 b12 Bs)
                  have sEM : SameIn gM (gM + 1) Wa82 Wa87 := fun j j1 j2 => gra87.block j (by omega) (by intro e; have e := Option.some.inj e; omega)
                  have EM := EM.sameH sEM (Nat.le_refl _) (Nat.lt_succ_self _)
                  have RM := RM.same sEM (Nat.le_refl _) (Nat.lt_succ_self _)
                  have OM := OM.same (fun j j1 j2 => gra87.block j (by omega) (by intro e; have e := Option.some.inj e; omega))
                  clear E2 gra87
                  have hOG : OwnGuest Wa87 wr.heap.size Wa87.heap.size (.slice (some ⟨gM, 0, none⟩) 6 cM) (.slice ad1 6 cd1) (.slice (some ⟨gQ, 0, none⟩) 6 cQ) (h.guests.getD k noG) := ⟨gM, gQ, cM, cQ, ad1, cd1, _, _, by rw [hm6], by rw [hd6], by rw [hs6], EM, by rw [hm6]; exact RM, EQ, by rw [hs6]; exact RQ, by rw [hd6]; exact OM, by omega, by omega, by omega, by omega, by omega, by omega, by omega, by omega, by omega⟩
                  obtain ⟨lXw, gg, capg, w9, hApp, y1, y3, yX, HN⟩ := copyUp_app hU.out (Nat.le_trans n2 (Nat.le_refl _)) n3 n4 n6 (by omega) (hWr _ Bc) hOG
                  have yS := hSf _ w9 Bc (yX wr.heap.size (Nat.le_refl _) (by omega))
                  clear yX
                  clear hOG EM RM EQ RQ OM
                  refine hK.out _ _ (hSb _ Bc) (fun hHeld => ?_)
                  clear hK K
                  try simp only [Act.put, List.setIfInBounds_toArray, List.set_cons_zero, List.set_cons_succ]
                  refine wpAnyH_take (i := 13) (v := ?_) (by simp only [List.getElem?_toArray, List.getElem?_cons_succ, List.getElem?_cons_zero]; rfl) (by kernel_rfl) (by kernel_rfl) (by kernel_rfl) (by exact fun _ _ _ h => h) (Or.inl ⟨by rfl, ?_⟩) hHeld ?_
                  rotate_left
                  · intro W' hW'; go_simp <;> with_reducible rfl
                  simp only [Act.put, List.setIfInBounds_toArray, List.set_cons_zero, List.set_cons_succ]
                  refine wpAnyH_ready (rs := [1, 14]) (by kernel_rfl) (by simp) ?_
                  refine AllReadyH.cons (by simp only [List.getElem?_toArray, List.getElem?_cons_succ, List.getElem?_cons_zero]; rfl) (fun K hK => ?_) (AllReadyH.cons (by simp only [List.getElem?_toArray, List.getElem?_cons_succ, List.getElem?_cons_zero]; rfl) (fun K hK => ?_) AllReadyH.nil)
                  · rw [if_pos (by rfl)]
                    have x1c := (Bc.cell (p := ⟨X, 1, none⟩) lX0).trans x1W
                    have lXc : X < Wa87.heap.size := Nat.lt_of_lt_of_le lX0 (Nat.le_trans sN Bc.size)
                    go_simp
                    clear x1c lXc
                    refine hK.out _ _ hHeld (fun hHeld => ?_)
                    clear hK K
                    try simp only [Act.put, List.setIfInBounds_toArray, List.set_cons_zero, List.set_cons_succ]
                    refine wpAnyH_ready (rs := [14]) (by kernel_rfl) (by simp) ?_
                    refine AllReadyH.cons (by simp only [List.getElem?_toArray, List.getElem?_cons_succ, List.getElem?_cons_zero]; rfl) (fun K hK => ?_) AllReadyH.nil
                    rw [if_pos (by rfl)]
                    go_simp
                    refine hK.out _ _ (hSb _ (Bc.alloc Bc.size _)) (fun hHeld => ?_)
                    clear hK K
                    try simp only [Act.put, List.setIfInBounds_toArray, List.set_cons_zero, List.set_cons_succ]
                    refine wpAnyH_ready (rs := [15]) (by kernel_rfl) (by simp) ?_
                    refine AllReadyH.cons (by simp only [List.getElem?_toArray, List.getElem?_cons_succ, List.getElem?_cons_zero]; rfl) (fun K hK => ?_) AllReadyH.nil
                    rw [if_pos (by rfl)]
                    go_simp
                    try go_wp2_with (fail)
                    clear hApp
                    refine hK.out _ _ yS (fun hHeld => ?_)
                    clear hK K
                    try simp only [Act.put, List.setIfInBounds_toArray, List.set_cons_zero, List.set_cons_succ]
                    refine wpAnyH_take (i := 16) (v := ?_) (by simp only [List.getElem?_toArray, List.getElem?_cons_succ, List.getElem?_cons_zero]; rfl) (by kernel_rfl) (by kernel_rfl) (by kernel_rfl) (by exact fun _ _ _ h => h) (Or.inl ⟨by rfl, ?_⟩) hHeld ?_
                    rotate_left
                    · intro W' hW'; go_simp <;> with_reducible rfl
                    simp only [Act.put, List.setIfInBounds_toArray, List.set_cons_zero, List.set_cons_succ]
                    refine wpAnyH_ready (rs := [17]) (by kernel_rfl) (by simp) ?_
                    refine AllReadyH.cons (by simp only [List.getElem?_toArray, List.getElem?_cons_succ, List.getElem?_cons_zero]; rfl) (fun K hK => ?_) AllReadyH.nil
                    rw [if_pos (by rfl)]
                    have lX9 : X < w9.heap.size := World.block_lt_of_cell? _ _ y1
                    go_simp
                    refine hK.out _ _ (hSw _ _ hHeld) (fun hHeld => ?_)
                    clear hK K
                    try simp only [Act.put, List.setIfInBounds_toArray, List.set_cons_zero, List.set_cons_succ]
                    refine wpAnyH_done (by kernel_rfl) ?_ _
                    go_wp2
                    go_roundw
                    case rel => exact ⟨k + 1, _, _, by omega, by go_num, HN⟩
                    case measure => simp [intOf]; omega

                  · rw [if_pos (by rfl)]
                    go_simp
                    refine hK.out _ _ (hSb _ (Bc.alloc Bc.size _)) (fun hHeld => ?_)
                    clear hK K
                    try simp only [Act.put, List.setIfInBounds_toArray, List.set_cons_zero, List.set_cons_succ]
                    refine wpAnyH_ready (rs := [1]) (by kernel_rfl) (by simp) ?_
                    refine AllReadyH.cons (by simp only [List.getElem?_toArray, List.getElem?_cons_succ, List.getElem?_cons_zero]; rfl) (fun K hK => ?_) AllReadyH.nil
                    rw [if_pos (by rfl)]
                    have x1c := (Bc.cell (p := ⟨X, 1, none⟩) lX0).trans x1W
                    have lXc : X < Wa87.heap.size := Nat.lt_of_lt_of_le lX0 (Nat.le_trans sN Bc.size)
                    go_simp
                    clear x1c lXc
                    refine hK.out _ _ hHeld (fun hHeld => ?_)
                    clear hK K
                    try simp only [Act.put, List.setIfInBounds_toArray, List.set_cons_zero, List.set_cons_succ]
                    refine wpAnyH_ready (rs := [15]) (by kernel_rfl) (by simp) ?_
                    refine AllReadyH.cons (by simp only [List.getElem?_toArray, List.getElem?_cons_succ, List.getElem?_cons_zero]; rfl) (fun K hK => ?_) AllReadyH.nil
                    rw [if_pos (by rfl)]
                    go_simp
                    try go_wp2_with (fail)
                    clear hApp
                    refine hK.out _ _ yS (fun hHeld => ?_)
                    clear hK K
                    try simp only [Act.put, List.setIfInBounds_toArray, List.set_cons_zero, List.set_cons_succ]
                    refine wpAnyH_take (i := 16) (v := ?_) (by simp only [List.getElem?_toArray, List.getElem?_cons_succ, List.getElem?_cons_zero]; rfl) (by kernel_rfl) (by kernel_rfl) (by kernel_rfl) (by exact fun _ _ _ h => h) (Or.inl ⟨by rfl, ?_⟩) hHeld ?_
                    rotate_left
                    · intro W' hW'; go_simp <;> with_reducible rfl
                    simp only [Act.put, List.setIfInBounds_toArray, List.set_cons_zero, List.set_cons_succ]
                    refine wpAnyH_ready (rs := [17]) (by kernel_rfl) (by simp) ?_
                    refine AllReadyH.cons (by simp only [List.getElem?_toArray, List.getElem?_cons_succ, List.getElem?_cons_zero]; rfl) (fun K hK => ?_) AllReadyH.nil
                    rw [if_pos (by rfl)]
                    have lX9 : X < w9.heap.size := World.block_lt_of_cell? _ _ y1
                    go_simp
                    refine hK.out _ _ (hSw _ _ hHeld) (fun hHeld => ?_)
                    clear hK K
                    try simp only [Act.put, List.setIfInBounds_toArray, List.set_cons_zero, List.set_cons_succ]
                    refine wpAnyH_done (by kernel_rfl) ?_ _
                    go_wp2
                    go_roundw
                    case rel => exact ⟨k + 1, _, _, by omega, by go_num, HN⟩
                    case measure => simp [intOf]; omega

          · rw [if_pos (by rfl)]
            go_simp
            obtain ⟨Wa94, hWa94⟩ : ∃ W', W' = Wa27.alloc (.cells #[] 81) := ⟨_, rfl⟩
            have E2 : Emp Wa94 W0.heap.size 81 Wa27.heap.size := by rw [hWa94]; exact emp_new _ _ Bc.size
            have Ga94 : Below Wa27.heap.size Wa27 Wa94 := by rw [hWa94]; exact (Below.refl _ _).alloc (Nat.le_refl _) _
            have za94 : Wa94.heap.size ≤ Wa27.heap.size + 1 ∧ Wa27.heap.size + 1 ≤ Wa94.heap.size := by rw [hWa94]; simp
            have Bs := Bc.size
            have Bc := Bc.trans (Ga94.mono Bs)
            rw [← hWa94]
            clear hWa94
            have E1 := E1.same (Ga94.block _ E1.lt)
            refine hK.out _ _ (hSb _ Bc) (fun hHeld => ?_)
            clear hK K
            try simp only [Act.put, List.setIfInBounds_toArray, List.set_cons_zero, List.set_cons_succ]
            refine wpAnyH_ready (rs := [1, 5]) (by kernel_rfl) (by simp) ?_
            refine AllReadyH.cons (by simp only [List.getElem?_toArray, List.getElem?_cons_succ, List.getElem?_cons_zero]; rfl) (fun K hK => ?_) (AllReadyH.cons (by simp only [List.getElem?_toArray, List.getElem?_cons_succ, List.getElem?_cons_zero]; rfl) (fun K hK => ?_) AllReadyH.nil)
            · rw [if_pos (by rfl)]
              have x1c := (Bc.cell (p := ⟨X, 1, none⟩) lX0).trans x1W
              have lXc : X < Wa94.heap.size := Nat.lt_of_lt_of_le lX0 (Nat.le_trans sN Bc.size)
              go_simp
              clear x1c lXc
              refine hK.out _ _ hHeld (fun hHeld => ?_)
              clear hK K
              try simp only [Act.put, List.setIfInBounds_toArray, List.set_cons_zero, List.set_cons_succ]
              refine wpAnyH_ready (rs := [5]) (by kernel_rfl) (by simp) ?_
              refine AllReadyH.cons (by simp only [List.getElem?_toArray, List.getElem?_cons_succ, List.getElem?_cons_zero]; rfl) (fun K hK => ?_) AllReadyH.nil
              rw [if_pos (by rfl)]
              obtain ⟨gM, cM, Wa96, hA, HA⟩ := appM (c := cm0) E1 Bc.size (hsM _ Bc) hm6
              go_simp
              try go_wp2_with (fail)
              clear hA
              obtain ⟨EM, RM, at5, lt5, gra96⟩ := HA.out
              clear HA
              have za96 := gra96.size
              have b5 := E1.1
              have k5 := E1.lt
              have Bs := Bc.size
              have Bc := Bc.trans (grown_below gra96 b5 Bs)
              have E2 := E2.same (gra96.block _ E2.lt (by intro e; have e := Option.some.inj e; omega))
              clear E1 gra96
              refine hK.out _ _ (hSb _ Bc) (fun hHeld => ?_)
              clear hK K
              try simp only [Act.put, List.setIfInBounds_toArray, List.set_cons_zero, List.set_cons_succ]
              refine wpAnyH_ready (rs := [8]) (by kernel_rfl) (by simp) ?_
              refine AllReadyH.cons (by simp only [List.getElem?_toArray, List.getElem?_cons_succ, List.getElem?_cons_zero]; rfl) (fun K hK => ?_) AllReadyH.nil
              rw [if_pos (by rfl)]
              go_simp
              refine (hCp _ Bc).mono ?_
              rintro e Wa97 ⟨ad1, cd1, rfl, OM, Ga97⟩
              have za97 := Ga97.size
              have Bs := Bc.size
              have Bc := Bc.trans (Ga97.mono Bs)
              have EM := EM.sameH (below_sameIn Ga97 (Nat.le_refl _)) (Nat.zero_le _) (by omega)
              have RM := RM.same (below_sameIn Ga97 (Nat.le_refl _)) (Nat.zero_le _) (by omega)
              have k2 := E2.lt
              have E2 := E2.same (Ga97.block _ E2.lt)
              try go_wp2_with (fail)
              refine hK.out _ _ (hSb _ Bc) (fun hHeld => ?_)
              clear hK K
              try simp only [Act.put, List.setIfInBounds_toArray, List.set_cons_zero, List.set_cons_succ]
              refine wpAnyH_ready (rs := [12]) (by kernel_rfl) (by simp) ?_
              refine AllReadyH.cons (by simp only [List.getElem?_toArray, List.getElem?_cons_succ, List.getElem?_cons_zero]; rfl) (fun K hK => ?_) AllReadyH.nil
              rw [if_pos (by rfl)]
              obtain ⟨gQ, cQ, Wa98, hA, HA⟩ := appQ (c := cs0) E2 Bc.size (hsQ _ Bc) hs6
              go_simp
              try go_wp2_with (fail)
              clear hA
              obtain ⟨EQ, RQ, at12, lt12, gra98⟩ := HA.out
              clear HA
              have za98 := gra98.size
              have b12 := E2.1
              have k12 := E2.lt
              have Bs := Bc.size
              have Bc := Bc.trans (grown_below gra98 b12 Bs)
              have sEM : SameIn gM (gM + 1) Wa97 Wa98 := fun j j1 j2 => gra98.block j (by omega) (by intro e; have e := Option.some.inj e; omega)
              have EM := EM.sameH sEM (Nat.le_refl _) (Nat.lt_succ_self _)
              have RM := RM.same sEM (Nat.le_refl _) (Nat.lt_succ_self _)
              have OM := OM.same (fun j j1 j2 => gra98.block j (by omega) (by intro e; have e := Option.some.inj e; omega))
              clear E2 gra98
              have hOG : OwnGuest Wa98 wr.heap.size Wa98.heap.size (.slice (some ⟨gM, 0, none⟩) 6 cM) (.slice ad1 6 cd1) (.slice (some ⟨gQ, 0, none⟩) 6 cQ) (h.guests.getD k noG) := ⟨gM, gQ, cM, cQ, ad1, cd1, _, _, by rw [hm6], by rw [hd6], by rw [hs6], EM, by rw [hm6]; exact RM, EQ, by rw [hs6]; exact RQ, by rw [hd6]; exact OM, by omega, by omega, by omega, by omega, by omega, by omega, by omega, by omega, by omega⟩
              obtain ⟨lXw, gg, capg, w9, hApp, y1, y3, yX, HN⟩ := copyUp_app hU.out (Nat.le_trans n2 (Nat.le_refl _)) n3 n4 n6 (by omega) (hWr _ Bc) hOG
              have yS := hSf _ w9 Bc (yX wr.heap.size (Nat.le_refl _) (by omega))
              clear yX
              clear hOG EM RM EQ RQ OM
              refine hK.out _ _ (hSb _ Bc) (fun hHeld => ?_)
              clear hK K
              try simp only [Act.put, List.setIfInBounds_toArray, List.set_cons_zero, List.set_cons_succ]
              refine wpAnyH_take (i := 13) (v := ?_) (by simp only [List.getElem?_toArray, List.getElem?_cons_succ, List.getElem?_cons_zero]; rfl) (by kernel_rfl) (by kernel_rfl) (by kernel_rfl) (by exact fun _ _ _ h => h) (Or.inl ⟨by rfl, ?_⟩) hHeld ?_
              rotate_left
              · intro W' hW'; go_simp <;> with_reducible rfl
              simp only [Act.put, List.setIfInBounds_toArray, List.set_cons_zero, List.set_cons_succ]
              refine wpAnyH_ready (rs := [14]) (by kernel_rfl) (by simp) ?_
              refine AllReadyH.cons (by simp only [List.getElem?_toArray, List.getElem?_cons_succ, List.getElem?_cons_zero]; rfl) (fun K hK => ?_) AllReadyH.nil
              rw [if_pos (by rfl)]
              go_simp
              refine hK.out _ _ (hSb _ (Bc.alloc Bc.size _)) (fun hHeld => ?_)
              clear hK K
              try simp only [Act.put, List.setIfInBounds_toArray, List.set_cons_zero, List.set_cons_succ]
              refine wpAnyH_ready (rs := [15]) (by kernel_rfl) (by simp) ?_
              refine AllReadyH.cons (by simp only [List.getElem?_toArray, List.getElem?_cons_succ, List.getElem?_cons_zero]; rfl) (fun K hK => ?_) AllReadyH.nil
              rw [if_pos (by rfl)]
              go_simp
              try go_wp2_with (fail)
              clear hApp
              refine hK.out _ _ yS (fun hHeld => ?_)
              clear hK K
              try simp only [Act.put, List.setIfInBounds_toArray, List.set_cons_zero, List.set_cons_succ]
              refine wpAnyH_take (i := 16) (v := ?_) (by simp only [List.getElem?_toArray, List.getElem?_cons_succ, List.getElem?_cons_zero]; rfl) (by kernel_rfl) (by kernel_rfl) (by kernel_rfl) (by exact fun _ _ _ h => h) (Or.inl ⟨by rfl, ?_⟩) hHeld ?_
              rotate_left
              · intro W' hW'; go_simp <;> with_reducible rfl
              simp only [Act.put, List.setIfInBounds_toArray, List.set_cons_zero, List.set_cons_succ]
              refine wpAnyH_ready (rs := [17]) (by kernel_rfl) (by simp) ?_
              refine AllReadyH.cons (by simp only [List.getElem?_toArray, List.getElem?_cons_succ, List.getElem?_cons_zero]; rfl) (fun K hK => ?_) AllReadyH.nil
              rw [if_pos (by rfl)]
              have lX9 : X < w9.heap.size := World.block_lt_of_cell? _ _ y1
              go_simp
              refine hK.out _ _ (hSw _ _ hHeld) (fun hHeld => ?_)
              clear hK K
              try simp only [Act.put, List.setIfInBounds_toArray, List.set_cons_zero, List.set_cons_succ]
              refine wpAnyH_done (by kernel_rfl) ?_ _
              go_wp2
              go_roundw
              case rel => exact ⟨k + 1, _, _, by omega, by go_num, HN⟩
              case measure => simp [intOf]; omega

            · rw [if_pos (by rfl)]
              obtain ⟨gM, cM, Wa101, hA, HA⟩ := appM (c := cm0) E1 Bc.size (hsM _ Bc) hm6
              go_simp
              try go_wp2_with (fail)
              clear hA
              obtain ⟨EM, RM, at5, lt5, gra101⟩ := HA.out
              clear HA
              have za101 := gra101.size
              have b5 := E1.1
              have k5 := E1.lt
              have Bs := Bc.size
              have Bc := Bc.trans (grown_below gra101 b5 Bs)
              have E2 := E2.same (gra101.block _ E2.lt (by intro e; have e := Option.some.inj e; omega))
              clear E1 gra101
              refine hK.out _ _ (hSb _ Bc) (fun hHeld => ?_)
              clear hK K
              try simp only [Act.put, List.setIfInBounds_toArray, List.set_cons_zero, List.set_cons_succ]
              refine wpAnyH_ready (rs := [1, 8]) (by kernel_rfl) (by simp) ?_
              refine AllReadyH.cons (by simp only [List.getElem?_toArray, List.getElem?_cons_succ, List.getElem?_cons_zero]; rfl) (fun K hK => ?_) (AllReadyH.cons (by simp only [List.getElem?_toArray, List.getElem?_cons_succ, List.getElem?_cons_zero]; rfl) (fun K hK => ?_) AllReadyH.nil)
              · rw [if_pos (by rfl)]
                have x1c := (Bc.cell (p := ⟨X, 1, none⟩) lX0).trans x1W
                have lXc : X < Wa101.heap.size := Nat.lt_of_lt_of_le lX0 (Nat.le_trans sN Bc.size)
                go_simp
                clear x1c lXc
                refine hK.out _ _ hHeld (fun hHeld => ?_)
                clear hK K
                try simp only [Act.put, List.setIfInBounds_toArray, List.set_cons_zero, List.set_cons_succ]
                refine wpAnyH_ready (rs := [8]) (by kernel_rfl) (by simp) ?_
                refine AllReadyH.cons (by simp only [List.getElem?_toArray, List.getElem?_cons_succ, List.getElem?_cons_zero]; rfl) (fun K hK => ?_) AllReadyH.nil
                rw [if_pos (by rfl)]
                go_simp
                refine (hCp _ Bc).mono ?_
                rintro e Wa103 ⟨ad1, cd1, rfl, OM, Ga103⟩
                have za103 := Ga103.size
                have Bs := Bc.size
                have Bc := Bc.trans (Ga103.mono Bs)
                have EM := EM.sameH (below_sameIn Ga103 (Nat.le_refl _)) (Nat.zero_le _) (by omega)
                have RM := RM.same (below_sameIn Ga103 (Nat.le_refl _)) (Nat.zero_le _) (by omega)
                have k2 := E2.lt
                have E2 := E2.same (Ga103.block _ E2.lt)
                try go_wp2_with (fail)
                refine hK.out _ _ (hSb _ Bc) (fun hHeld => ?_)
                clear hK K
                try simp only [Act.put, List.setIfInBounds_toArray, List.set_cons_zero, List.set_cons_succ]
                refine wpAnyH_ready (rs := [12]) (by kernel_rfl) (by simp) ?_
                refine AllReadyH.cons (by simp only [List.getElem?_toArray, List.getElem?_cons_succ, List.getElem?_cons_zero]; rfl) (fun K hK => ?_) AllReadyH.nil
                rw [if_pos (by rfl)]
                obtain ⟨gQ, cQ, Wa104, hA, HA⟩ := appQ (c := cs0) E2 Bc.size (hsQ _ Bc) hs6
                go_simp
                try go_wp2_with (fail)
                clear hA
                obtain ⟨EQ, RQ, at12, lt12, gra104⟩ := HA.out
                clear HA
                have za104 := gra104.size
                have b12 := E2.1
                have k12 := E2.lt
                have Bs := Bc.size
                have Bc := Bc.trans (grown_below gra104 b12 Bs)
                have sEM : SameIn gM (gM + 1) Wa103 Wa104 := fun j j1 j2 => gra104.block j (by omega) (by intro e; have e := Option.some.inj e; omega)
                have EM := EM.sameH sEM (Nat.le_refl _) (Nat.lt_succ_self _)
                have RM := RM.same sEM (Nat.le_refl _) (Nat.lt_succ_self _)
                have OM := OM.same (fun j j1 j2 => gra104.block j (by omega) (by intro e; have e := Option.some.inj e; omega))
                clear E2 gra104
                have hOG : OwnGuest Wa104 wr.heap.size Wa104.heap.size (.slice (some ⟨gM, 0, none⟩) 6 cM) (.slice ad1 6 cd1) (.slice (some ⟨gQ, 0, none⟩) 6 cQ) (h.guests.getD k noG) := ⟨gM, gQ, cM, cQ, ad1, cd1, _, _, by rw [hm6], by rw [hd6], by rw [hs6], EM, by rw [hm6]; exact RM, EQ, by rw [hs6]; exact RQ, by rw [hd6]; exact OM, by omega, by omega, by omega, by omega, by omega, by omega, by omega, by omega, by omega⟩
                obtain ⟨lXw, gg, capg, w9, hApp, y1, y3, yX, HN⟩ := copyUp_app hU.out (Nat.le_trans n2 (Nat.le_refl _)) n3 n4 n6 (by omega) (hWr _ Bc) hOG
                have yS := hSf _ w9 Bc (yX wr.heap.size (Nat.le_refl _) (by omega))
                clear yX
                clear hOG EM RM EQ RQ OM
                refine hK.out _ _ (hSb _ Bc) (fun hHeld => ?_)
                clear hK K
                try simp only [Act.put, List.setIfInBounds_toArray, List.set_cons_zero, List.set_cons_succ]
                refine wpAnyH_take (i := 13) (v := ?_) (by simp only [List.getElem?_toArray, List.getElem?_cons_succ, List.getElem?_cons_zero]; rfl) (by kernel_rfl) (by kernel_rfl) (by kernel_rfl) (by exact fun _ _ _ h => h) (Or.inl ⟨by rfl, ?_⟩) hHeld ?_
                rotate_left
                · intro W' hW'; go_simp <;> with_reducible rfl
                simp only [Act.put, List.setIfInBounds_toArray, List.set_cons_zero, List.set_cons_succ]
                refine wpAnyH_ready (rs := [14]) (by kernel_rfl) (by simp) ?_
                refine AllReadyH.cons (by simp only [List.getElem?_toArray, List.getElem?_cons_succ, List.getElem?_cons_zero]; rfl) (fun K hK => ?_) AllReadyH.nil
                rw [if_pos (by rfl)]
                go_simp
                refine hK.out _ _ (hSb _ (Bc.alloc Bc.size _)) (fun hHeld => ?_)
                clear hK K
                try simp only [Act.put, List.setIfInBounds_toArray, List.set_cons_zero, List.set_cons_succ]
                refine wpAnyH_ready (rs := [15]) (by kernel_rfl) (by simp) ?_
                refine AllReadyH.cons (by simp only [List.getElem?_toArray, List.getElem?_cons_succ, List.getElem?_cons_zero]; rfl) (fun K hK => ?_) AllReadyH.nil
                rw [if_pos (by rfl)]
                go_simp
                try go_wp2_with (fail)
                clear hApp
                refine hK.out _ _ yS (fun hHeld => ?_)
                clear hK K
                try simp only [Act.put, List.setIfInBounds_toArray, List.set_cons_zero, List.set_cons_succ]
                refine wpAnyH_take (i := 16) (v := ?_) (by simp only [List.getElem?_toArray, List.getElem?_cons_succ, List.getElem?_cons_zero]; rfl) (by kernel_rfl) (by kernel_rfl) (by kernel_rfl) (by exact fun _ _ _ h => h) (Or.inl ⟨by rfl, ?_⟩) hHeld ?_
                rotate_left
                · intro W' hW'; go_simp <;> with_reducible rfl
                simp only [Act.put, List.setIfInBounds_toArray, List.set_cons_zero, List.set_cons_succ]
                refine wpAnyH_ready (rs := [17]) (by kernel_rfl) (by simp) ?_
                refine AllReadyH.cons (by simp only [List.getElem?_toArray, List.getElem?_cons_succ, List.getElem?_cons_zero]; rfl) (fun K hK => ?_) AllReadyH.nil
                rw [if_pos (by rfl)]
                have lX9 : X < w9.heap.size := World.block_lt_of_cell? _ _ y1
                go_simp
                refine hK.out _ _ (hSw _ _ hHeld) (fun hHeld => ?_)
                clear hK K
                try simp only [Act.put, List.setIfInBounds_toArray, List.set_cons_zero, List.set_cons_succ]
                refine wpAnyH_done (by kernel_rfl) ?_ _
                go_wp2
                go_roundw
                case rel => exact ⟨k + 1, _, _, by omega, by go_num, HN⟩
                case measure => simp [intOf]; omega

              · rw [if_pos (by rfl)]
                go_simp
                refine (hCp _ Bc).mono ?_
                rintro e Wa107 ⟨ad1, cd1, rfl, OM, Ga107⟩
                have za107 := Ga107.size
                have Bs := Bc.size
                have Bc := Bc.trans (Ga107.mono Bs)
                have EM := EM.sameH (below_sameIn Ga107 (Nat.le_refl _)) (Nat.zero_le _) (by omega)
                have RM := RM.same (below_sameIn Ga107 (Nat.le_refl _)) (Nat.zero_le _) (by omega)
                have k2 := E2.lt
                have E2 := E2.same (Ga107.block _ E2.lt)
                try go_wp2_with (fail)
                refine hK.out _ _ (hSb _ Bc) (fun hHeld => ?_)
                clear hK K
                try simp only [Act.put, List.setIfInBounds_toArray, List.set_cons_zero, List.set_cons_succ]
                refine wpAnyH_ready (rs := [1, 12]) (by kernel_rfl) (by simp) ?_
                refine AllReadyH.cons (by simp only [List.getElem?_toArray, List.getElem?_cons_succ, List.getElem?_cons_zero]; rfl) (fun K hK => ?_) (AllReadyH.cons (by simp only [List.getElem?_toArray, List.getElem?_cons_succ, List.getElem?_cons_zero]; rfl) (fun K hK => ?_) AllReadyH.nil)
                · rw [if_pos (by rfl)]
                  have x1c := (Bc.cell (p := ⟨X, 1, none⟩) lX0).trans x1W
                  have lXc : X < Wa107.heap.size := Nat.lt_of_lt_of_le lX0 (Nat.le_trans sN Bc.size)
                  go_simp
                  clear x1c lXc
                  refine hK.out _ _ hHeld (fun hHeld => ?_)
                  clear hK K
                  try simp only [Act.put, List.setIfInBounds_toArray, List.set_cons_zero, List.set_cons_succ]
                  refine wpAnyH_ready (rs := [12]) (by kernel_rfl) (by simp) ?_
                  refine AllReadyH.cons (by simp only [List.getElem?_toArray, List.getElem?_cons_succ, List.getElem?_cons_zero]; rfl) (fun K hK => ?_) AllReadyH.nil
                  rw [if_pos (by rfl)]
                  obtain ⟨gQ, cQ, Wa109, hA, HA⟩ := appQ (c := cs0) E2 Bc.size (hsQ _ Bc) hs6
                  go_simp
                  try go_wp2_with (fail)
                  clear hA
                  obtain ⟨EQ, RQ, at12, lt12, gra109⟩ := HA.out
                  clear HA
                  have za109 := gra109.size
                  have b12 := E2.1
                  have k12 := E2.lt
                  have Bs := Bc.size
                  have Bc := Bc.trans (grown_below gra109 b12 Bs)
                  have sEM : SameIn gM (gM + 1) Wa107 Wa109 := fun j j1 j2 => gra109.block j (by omega) (by intro e; have e := Option.some.inj e; omega)
                  have EM := EM.sameH sEM (Nat.le_refl _) (Nat.lt_succ_self _)
                  have RM := RM.same sEM (Nat.le_refl _) (Nat.lt_succ_self _)
                  have OM := OM.same (fun j j1 j2 => gra109.block j (by omega) (by intro e; have e := Option.some.inj e; omega))
                  clear E2 gra109
                  have hOG : OwnGuest Wa109 wr.heap.size Wa109.heap.size (.slice (some ⟨gM, 0, none⟩) 6 cM) (.slice ad1 6 cd1) (.slice (some ⟨gQ, 0, none⟩) 6 cQ) (h.guests.getD k noG) := ⟨gM, gQ, cM, cQ, ad1, cd1, _, _, by rw [hm6], by rw [hd6], by rw [hs6], EM, by rw [hm6]; exact RM, EQ, by rw [hs6]; exact RQ, by rw [hd6]; exact OM, by omega, by omega, by omega, by omega, by omega, by omega, by omega, by omega, by omega⟩
                  obtain ⟨lXw, gg, capg, w9, hApp, y1, y3, yX, HN⟩ := copyUp_app hU.out (Nat.le_trans n2 (Nat.le_refl _)) n3 n4 n6 (by omega) (hWr _ Bc) hOG
                  have yS := hSf _ w9 Bc (yX wr.heap.size (Nat.le_refl _) (by omega))
                  clear yX
                  clear hOG EM RM EQ RQ OM
                  refine hK.out _ _ (hSb _ Bc) (fun hHeld => ?_)
                  clear hK K
                  try simp only [Act.put, List.setIfInBounds_toArray, List.set_cons_zero, List.set_cons_succ]
                  refine wpAnyH_take (i := 13) (v := ?_) (by simp only [List.getElem?_toArray, List.getElem?_cons_succ, List.getElem?_cons_zero]; rfl) (by kernel_rfl) (by kernel_rfl) (by kernel_rfl) (by exact fun _ _ _ h => h) (Or.inl ⟨by rfl, ?_⟩) hHeld ?_
                  rotate_left
                  · intro W' hW'; go_simp <;> with_reducible rfl
                  simp only [Act.put, List.setIfInBounds_toArray, List.set_cons_zero, List.set_cons_succ]
                  refine wpAnyH_ready (rs := [14]) (by kernel_rfl) (by simp) ?_
                  refine AllReadyH.cons (by simp only [List.getElem?_toArray, List.getElem?_cons_succ, List.getElem?_cons_zero]; rfl) (fun K hK => ?_) AllReadyH.nil
                  rw [if_pos (by rfl)]
                  go_simp
                  refine hK.out _ _ (hSb _ (Bc.alloc Bc.size _)) (fun hHeld => ?_)
                  clear hK K
                  try simp only [Act.put, List.setIfInBounds_toArray, List.set_cons_zero, List.set_cons_succ]
                  refine wpAnyH_ready (rs := [15]) (by kernel_rfl) (by simp) ?_
                  refine AllReadyH.cons (by simp only [List.getElem?_toArray, List.getElem?_cons_succ, List.getElem?_cons_zero]; rfl) (fun K hK => ?_) AllReadyH.nil
                  rw [if_pos (by rfl)]
                  go_simp
                  try go_wp2_with (fail)
                  clear hApp
                  refine hK.out _ _ yS (fun hHeld => ?_)
                  clear hK K
                  try simp only [Act.put, List.setIfInBounds_toArray, List.set_cons_zero, List.set_cons_succ]
                  refine wpAnyH_take (i := 16) (v := ?_) (by simp only [List.getElem?_toArray, List.getElem?_cons_succ, List.getElem?_cons_zero]; rfl) (by kernel_rfl) (by kernel_rfl) (by kernel_rfl) (by exact fun _ _ _ h => h) (Or.inl ⟨by rfl, ?_⟩) hHeld ?_
                  rotate_left
                  · intro W' hW'; go_simp <;> with_reducible rfl
                  simp only [Act.put, List.setIfInBounds_toArray, List.set_cons_zero, List.set_cons_succ]
                  refine wpAnyH_ready (rs := [17]) (by kernel_rfl) (by simp) ?_
                  refine AllReadyH.cons (by simp only [List.getElem?_toArray, List.getElem?_cons_succ, List.getElem?_cons_zero]; rfl) (fun K hK => ?_) AllReadyH.nil
                  rw [if_pos (by rfl)]
                  have lX9 : X < w9.heap.size := World.block_lt_of_cell? _ _ y1
                  go_simp
                  refine hK.out _ _ (hSw _ _ hHeld) (fun hHeld => ?_)
                  clear hK K
                  try simp only [Act.put, List.setIfInBounds_toArray, List.set_cons_zero, List.set_cons_succ]
                  refine wpAnyH_done (by kernel_rfl) ?_ _
                  go_wp2
                  go_roundw
                  case rel => exact ⟨k + 1, _, _, by omega, by go_num, HN⟩
                  case measure => simp [intOf]; omega

                · rw [if_pos (by rfl)]
                  obtain ⟨gQ, cQ, Wa112, hA, HA⟩ := appQ (c := cs0) E2 Bc.size (hsQ _ Bc) hs6
                  go_simp
                  try go_wp2_with (fail)
                  clear hA
                  obtain ⟨EQ, RQ, at12, lt12, gra112⟩ := HA.out
                  clear HA
                  have za112 := gra112.size
                  have b12 := E2.1
                  have k12 := E2.lt
                  have Bs := Bc.size
                  have Bc := Bc.trans (grown_below gra112 b12 Bs)
                  have sEM : SameIn gM (gM + 1) Wa107 Wa112 := fun j j1 j2 => gra112.block j (by omega) (by intro e; have e := Option.some.inj e; omega)
                  have EM := EM.sameH sEM (Nat.le_refl _) (Nat.lt_succ_self _)
                  have RM := RM.same sEM (Nat.le_refl _) (Nat.lt_succ_self _)
                  have OM := OM.same (fun j j1 j2 => gra112.block j (by omega) (by intro e; have e := Option.some.inj e; omega))
                  clear E2 gra112
                  have hOG : OwnGuest Wa112 wr.heap.size Wa112.heap.size (.slice (some ⟨gM, 0, none⟩) 6 cM) (.slice ad1 6 cd1) (.slice (some ⟨gQ, 0, none⟩) 6 cQ) (h.guests.getD k noG) := ⟨gM, gQ, cM, cQ, ad1, cd1, _, _, by rw [hm6], by rw [hd6], by rw [hs6], EM, by rw [hm6]; exact RM, EQ, by rw [hs6]; exact RQ, by rw [hd6]; exact OM, by omega, by omega, by omega, by omega, by omega, by omega, by omega, by omega, by omega⟩
                  obtain ⟨lXw, gg, capg, w9, hApp, y1, y3, yX, HN⟩ := copyUp_app hU.out (Nat.le_trans n2 (Nat.le_refl _)) n3 n4 n6 (by omega) (hWr _ Bc) hOG
                  have yS := hSf _ w9 Bc (yX wr.heap.size (Nat.le_refl _) (by omega))
                  clear yX
                  clear hOG EM RM EQ RQ OM
                  refine hK.out _ _ (hSb _ Bc) (fun hHeld => ?_)
                  clear hK K
                  try simp only [Act.put, List.setIfInBounds_toArray, List.set_cons_zero, List.set_cons_succ]
                  refine wpAnyH_take (i := 13) (v := ?_) (by simp only [List.getElem?_toArray, List.getElem?_cons_succ, List.getElem?_cons_zero]; rfl) (by kernel_rfl) (by kernel_rfl) (by kernel_rfl) (by exact fun _ _ _ h => h) (Or.inl ⟨by rfl, ?_⟩) hHeld ?_
                  rotate_left
                  · intro W' hW'; go_simp <;> with_reducible rfl
                  simp only [Act.put, List.setIfInBounds_toArray, List.set_cons_zero, List.set_cons_succ]
                  refine wpAnyH_ready (rs := [1, 14]) (by kernel_rfl) (by simp) ?_
                  refine AllReadyH.cons (by simp only [List.getElem?_toArray, List.getElem?_cons_succ, List.getElem?_cons_zero]; rfl) (fun K hK => ?_) (AllReadyH.cons (by simp only [List.getElem?_toArray, List.getElem?_cons_succ, List.getElem?_cons_zero]; rfl) (fun K hK => ?_) AllReadyH.nil)
                  · rw [if_pos (by rfl)]
                    have x1c := (Bc.cell (p := ⟨X, 1, none⟩) lX0).trans x1W
                    have lXc : X < Wa112.heap.size := Nat.lt_of_lt_of_le lX0 (Nat.le_trans sN Bc.size)
                    go_simp
                    clear x1c lXc
                    refine hK.out _ _ hHeld (fun hHeld => ?_)
                    clear hK K
                    try simp only [Act.put, List.setIfInBounds_toArray, List.set_cons_zero, List.set_cons_succ]
                    refine wpAnyH_ready (rs := [14]) (by kernel_rfl) (by simp) ?_
                    refine AllReadyH.cons (by simp only [List.getElem?_toArray, List.getElem?_cons_succ, List.getElem?_cons_zero]; rfl) (fun K hK => ?_) AllReadyH.nil
                    rw [if_pos (by rfl)]
                    go_simp
                    refine hK.out _ _ (hSb _ (Bc.alloc Bc.size _)) (fun hHeld => ?_)
                    clear hK K
                    try simp only [Act.put, List.setIfInBounds_toArray, List.set_cons_zero, List.set_cons_succ]
                    refine wpAnyH_ready (rs := [15]) (by kernel_rfl) (by simp) ?_
                    refine AllReadyH.cons (by simp only [List.getElem?_toArray, List.getElem?_cons_succ, List.getElem?_cons_zero]; rfl) (fun K hK => ?_) AllReadyH.nil
                    rw [if_pos (by rfl)]
                    go_simp
                    try go_wp2_with (fail)
                    clear hApp
                    refine hK.out _ _ yS (fun hHeld => ?_)
                    clear hK K
                    try simp only [Act.put, List.setIfInBounds_toArray, List.set_cons_zero, List.set_cons_succ]
                    refine wpAnyH_take (i := 16) (v := ?_) (by simp only [List.getElem?_toArray, List.getElem?_cons_succ, List.getElem?_cons_zero]; rfl) (by kernel_rfl) (by kernel_rfl) (by kernel_rfl) (by exact fun _ _ _ h => h) (Or.inl ⟨by rfl, ?_⟩) hHeld ?_
                    rotate_left
                    · intro W' hW'; go_simp <;> with_reducible rfl
                    simp only [Act.put, List.setIfInBounds_toArray, List.set_cons_zero, List.set_cons_succ]
                    refine wpAnyH_ready (rs := [17]) (by kernel_rfl) (by simp) ?_
                    refine AllReadyH.cons (by simp only [List.getElem?_toArray, List.getElem?_cons_succ, List.getElem?_cons_zero]; rfl) (fun K hK => ?_) AllReadyH.nil
                    rw [if_pos (by rfl)]
                    have lX9 : X < w9.heap.size := World.block_lt_of_cell? _ _ y1
                    go_simp
                    refine hK.out _ _ (hSw _ _ hHeld) (fun hHeld => ?_)
                    clear hK K
                    try simp only [Act.put, List.setIfInBounds_toArray, List.set_cons_zero, List.set_cons_succ]
                    refine wpAnyH_done (by kernel_rfl) ?_ _
                    go_wp2
                    go_roundw
                    case rel => exact ⟨k + 1, _, _, by omega, by go_num, HN⟩
                    case measure => simp [intOf]; omega

                  · rw [if_pos (by rfl)]
                    go_simp
                    refine hK.out _ _ (hSb _ (Bc.alloc Bc.size _)) (fun hHeld => ?_)
                    clear hK K
                    try simp only [Act.put, List.setIfInBounds_toArray, List.set_cons_zero, List.set_cons_succ]
                    refine wpAnyH_ready (rs := [1]) (by kernel_rfl) (by simp) ?_
                    refine AllReadyH.cons (by simp only [List.getElem?_toArray, List.getElem?_cons_succ, List.getElem?_cons_zero]; rfl) (fun K hK => ?_) AllReadyH.nil
                    rw [if_pos (by rfl)]
                    have x1c := (Bc.cell (p := ⟨X, 1, none⟩) lX0).trans x1W
                    have lXc : X < Wa112.heap.size := Nat.lt_of_lt_of_le lX0 (Nat.le_trans sN Bc.size)
                    go_simp
                    clear x1c lXc
                    refine hK.out _ _ hHeld (fun hHeld => ?_)
                    clear hK K
                    try simp only [Act.put, List.setIfInBounds_toArray, List.set_cons_zero, List.set_cons_succ]
                    refine wpAnyH_ready (rs := [15]) (by kernel_rfl) (by simp) ?_
                    refine AllReadyH.cons (by simp only [List.getElem?_toArray, List.getElem?_cons_succ, List.getElem?_cons_zero]; rfl) (fun K hK => ?_) AllReadyH.nil
                    rw [if_pos (by rfl)]
                    go_simp
                    try go_wp2_with (fail)
                    clear hApp
                    refine hK.out _ _ yS (fun hHeld => ?_)
                    clear hK K
                    try simp only [Act.put, List.setIfInBounds_toArray, List.set_cons_zero, List.set_cons_succ]
                    refine wpAnyH_take (i := 16) (v := ?_) (by simp only [List.getElem?_toArray, List.getElem?_cons_succ, List.getElem?_cons_zero]; rfl) (by kernel_rfl) (by kernel_rfl) (by kernel_rfl) (by exact fun _ _ _ h => h) (Or.inl ⟨by rfl, ?_⟩) hHeld ?_
                    rotate_left
                    · intro W' hW'; go_simp <;> with_reducible rfl
                    simp only [Act.put, List.setIfInBounds_toArray, List.set_cons_zero, List.set_cons_succ]
                    refine wpAnyH_ready (rs := [17]) (by kernel_rfl) (by simp) ?_
                    refine AllReadyH.cons (by simp only [List.getElem?_toArray, List.getElem?_cons_succ, List.getElem?_cons_zero]; rfl) (fun K hK => ?_) AllReadyH.nil
                    rw [if_pos (by rfl)]
                    have lX9 : X < w9.heap.size := World.block_lt_of_cell? _ _ y1
                    go_simp
                    refine hK.out _ _ (hSw _ _ hHeld) (fun hHeld => ?_)
                    clear hK K
                    try simp only [Act.put, List.setIfInBounds_toArray, List.set_cons_zero, List.set_cons_succ]
                    refine wpAnyH_done (by kernel_rfl) ?_ _
                    go_wp2
                    go_roundw
                    case rel => exact ⟨k + 1, _, _, by omega, by go_num, HN⟩
                    case measure => simp [intOf]; omega

        · rw [if_pos (by rfl)]
          go_simp
          obtain ⟨Wa119, hWa119⟩ : ∃ W', W' = Wd.alloc (.cells #[] 81) := ⟨_, rfl⟩
          have E2 : Emp Wa119 W0.heap.size 81 Wd.heap.size := by rw [hWa119]; exact emp_new _ _ Bc.size
          have Ga119 : Below Wd.heap.size Wd Wa119 := by rw [hWa119]; exact (Below.refl _ _).alloc (Nat.le_refl _) _
          have za119 : Wa119.heap.size ≤ Wd.heap.size + 1 ∧ Wd.heap.size + 1 ≤ Wa119.heap.size := by rw [hWa119]; simp
          have Bs := Bc.size
          have Bc := Bc.trans (Ga119.mono Bs)
          rw [← hWa119]
          clear hWa119
          refine hK.out _ _ (hSb _ Bc) (fun hHeld => ?_)
          clear hK K
          try simp only [Act.put, List.setIfInBounds_toArray, List.set_cons_zero, List.set_cons_succ]
          refine wpAnyH_ready (rs := [1, 2]) (by kernel_rfl) (by simp) ?_
          refine AllReadyH.cons (by simp only [List.getElem?_toArray, List.getElem?_cons_succ, List.getElem?_cons_zero]; rfl) (fun K hK => ?_) (AllReadyH.cons (by simp only [List.getElem?_toArray, List.getElem?_cons_succ, List.getElem?_cons_zero]; rfl) (fun K hK => ?_) AllReadyH.nil)
          · rw [if_pos (by rfl)]
            have x1c := (Bc.cell (p := ⟨X, 1, none⟩) lX0).trans x1W
            have lXc : X < Wa119.heap.size := Nat.lt_of_lt_of_le lX0 (Nat.le_trans sN Bc.size)
            go_simp
            clear x1c lXc
            refine hK.out _ _ hHeld (fun hHeld => ?_)
            clear hK K
            try simp only [Act.put, List.setIfInBounds_toArray, List.set_cons_zero, List.set_cons_succ]
            refine wpAnyH_ready (rs := [2]) (by kernel_rfl) (by simp) ?_
            refine AllReadyH.cons (by simp only [List.getElem?_toArray, List.getElem?_cons_succ, List.getElem?_cons_zero]; rfl) (fun K hK => ?_) AllReadyH.nil
            rw [if_pos (by rfl)]
            go_simp
            obtain ⟨Wa121, hWa121⟩ : ∃ W', W' = Wa119.alloc (.cells #[] 76) := ⟨_, rfl⟩
            have E1 : Emp Wa121 W0.heap.size 76 Wa119.heap.size := by rw [hWa121]; exact emp_new _ _ Bc.size
            have Ga121 : Below Wa119.heap.size Wa119 Wa121 := by rw [hWa121]; exact (Below.refl _ _).alloc (Nat.le_refl _) _
            have za121 : Wa121.heap.size ≤ Wa119.heap.size + 1 ∧ Wa119.heap.size + 1 ≤ Wa121.heap.size := by rw [hWa121]; simp
            have Bs := Bc.size
            have Bc := Bc.trans (Ga121.mono Bs)
            rw [← hWa121]
            clear hWa121
            have k2 := E2.lt
            have E2 := E2.same (Ga121.block _ E2.lt)
            refine hK.out _ _ (hSb _ Bc) (fun hHeld => ?_)
            clear hK K
            try simp only [Act.put, List.setIfInBounds_toArray, List.set_cons_zero, List.set_cons_succ]
            refine wpAnyH_ready (rs := [5]) (by kernel_rfl) (by simp) ?_
            refine AllReadyH.cons (by simp only [List.getElem?_toArray, List.getElem?_cons_succ, List.getElem?_cons_zero]; rfl) (fun K hK => ?_) AllReadyH.nil
            rw [if_pos (by rfl)]
            obtain ⟨gM, cM, Wa122, hA, HA⟩ := appM (c := cm0) E1 Bc.size (hsM _ Bc) hm6
            go_simp
            try go_wp2_with (fail)
            clear hA
            obtain ⟨EM, RM, at5, lt5, gra122⟩ := HA.out
            clear HA
            have za122 := gra122.size
            have b5 := E1.1
            have k5 := E1.lt
            have Bs := Bc.size
            have Bc := Bc.trans (grown_below gra122 b5 Bs)
            have E2 := E2.same (gra122.block _ E2.lt (by intro e; have e := Option.some.inj e; omega))
            clear E1 gra122
            refine hK.out _ _ (hSb _ Bc) (fun hHeld => ?_)
            clear hK K
            try simp only [Act.put, List.setIfInBounds_toArray, List.set_cons_zero, List.set_cons_succ]
            refine wpAnyH_ready (rs := [8]) (by kernel_rfl) (by simp) ?_
            refine AllReadyH.cons (by simp only [List.getElem?_toArray, List.getElem?_cons_succ, List.getElem?_cons_zero]; rfl) (fun K hK => ?_) AllReadyH.nil
            rw [if_pos (by rfl)]
            go_simp
            refine (hCp _ Bc).mono ?_
            rintro e Wa123 ⟨ad1, cd1, rfl, OM, Ga123⟩
            have za123 := Ga123.size
            have Bs := Bc.size
            have Bc := Bc.trans (Ga123.mono Bs)
            have EM := EM.sameH (below_sameIn Ga123 (Nat.le_refl _)) (Nat.zero_le _) (by omega)
            have RM := RM.same (below_sameIn Ga123 (Nat.le_refl _)) (Nat.zero_le _) (by omega)
            have k2 := E2.lt
            have E2 := E2.same (Ga123.block _ E2.lt)
            try go_wp2_with (fail)
            refine hK.out _ _ (hSb _ Bc) (fun hHeld => ?_)
            clear hK K
            try simp only [Act.put, List.setIfInBounds_toArray, List.set_cons_zero, List.set_cons_succ]
            refine wpAnyH_ready (rs := [12]) (by kernel_rfl) (by simp) ?_
            refine AllReadyH.cons (by simp only [List.getElem?_toArray, List.getElem?_cons_succ, List.getElem?_cons_zero]; rfl) (fun K hK => ?_) AllReadyH.nil
            rw [if_pos (by rfl)]
            obtain ⟨gQ, cQ, Wa124, hA, HA⟩ := appQ (c := cs0) E2 Bc.size (hsQ _ Bc) hs6
            go_simp
            try go_wp2_with (fail)
            clear hA
            obtain ⟨EQ, RQ, at12, lt12, gra124⟩ := HA.out
            clear HA
            have za124 := gra124.size
            have b12 := E2.1
            have k12 := E2.lt
            have Bs := Bc.size
            have Bc := Bc.trans (grown_below gra124 b12 Bs)
            have sEM : SameIn gM (gM + 1) Wa123 Wa124 := fun j j1 j2 => gra124.block j (by omega) (by intro e; have e := Option.some.inj e; omega)
            have EM := EM.sameH sEM (Nat.le_refl _) (Nat.lt_succ_self _)
            have RM := RM.same sEM (Nat.le_refl _) (Nat.lt_succ_self _)
            have OM := OM.same (fun j j1 j2 => gra124.block j (by omega) (by intro e; have e := Option.some.inj e; omega))
            clear E2 gra124
            have hOG : OwnGuest Wa124 wr.heap.size Wa124.heap.size (.slice (some ⟨gM, 0, none⟩) 6 cM) (.slice ad1 6 cd1) (.slice (some ⟨gQ, 0, none⟩) 6 cQ) (h.guests.getD k noG) := ⟨gM, gQ, cM, cQ, ad1, cd1, _, _, by rw [hm6], by rw [hd6], by rw [hs6], EM, by rw [hm6]; exact RM, EQ, by rw [hs6]; exact RQ, by rw [hd6]; exact OM, by omega, by omega, by omega, by omega, by omega, by omega, by omega, by omega, by omega⟩
            obtain ⟨lXw, gg, capg, w9, hApp, y1, y3, yX, HN⟩ := copyUp_app hU.out (Nat.le_trans n2 (Nat.le_refl _)) n3 n4 n6 (by omega) (hWr _ Bc) hOG
            have yS := hSf _ w9 Bc (yX wr.heap.size (Nat.le_refl _) (by omega))
            clear yX
            clear hOG EM RM EQ RQ OM
            refine hK.out _ _ (hSb _ Bc) (fun hHeld => ?_)
            clear hK K
            try simp only [Act.put, List.setIfInBounds_toArray, List.set_cons_zero, List.set_cons_succ]
            refine wpAnyH_take (i := 13) (v := ?_) (by simp only [List.getElem?_toArray, List.getElem?_cons_succ, List.getElem?_cons_zero]; rfl) (by kernel_rfl) (by kernel_rfl) (by kernel_rfl) (by exact fun _ _ _ h => h) (Or.inl ⟨by rfl, ?_⟩) hHeld ?_
            rotate_left
            · intro W' hW'; go_simp <;> with_reducible rfl
            simp only [Act.put, List.setIfInBounds_toArray, List.set_cons_zero, List.set_cons_succ]
            refine wpAnyH_ready (rs := [14]) (by kernel_rfl) (by simp) ?_
            refine AllReadyH.cons (by simp only [List.getElem?_toArray, List.getElem?_cons_succ, List.getElem?_cons_zero]; rfl) (fun K hK => ?_) AllReadyH.nil
            rw [if_pos (by rfl)]
            go_simp
            refine hK.out _ _ (hSb _ (Bc.alloc Bc.size _)) (fun hHeld => ?_)
            clear hK K
            try simp only [Act.put, List.setIfInBounds_toArray, List.set_cons_zero, List.set_cons_succ]
            refine wpAnyH_ready (rs := [15]) (by kernel_rfl) (by simp) ?_
            refine AllReadyH.cons (by simp only [List.getElem?_toArray, List.getElem?_cons_succ, List.getElem?_cons_zero]; rfl) (fun K hK => ?_) AllReadyH.nil
            rw [if_pos (by rfl)]
            go_simp
            try go_wp2_with (fail)
            clear hApp
            refine hK.out _ _ yS (fun hHeld => ?_)
            clear hK K
            try simp only [Act.put, List.setIfInBounds_toArray, List.set_cons_zero, List.set_cons_succ]
            refine wpAnyH_take (i := 16) (v := ?_) (by simp only [List.getElem?_toArray, List.getElem?_cons_succ, List.getElem?_cons_zero]; rfl) (by kernel_rfl) (by kernel_rfl) (by kernel_rfl) (by exact fun _ _ _ h => h) (Or.inl ⟨by rfl, ?_⟩) hHeld ?_
            rotate_left
            · intro W' hW'; go_simp <;> with_reducible rfl
            simp only [Act.put, List.setIfInBounds_toArray, List.set_cons_zero, List.set_cons_succ]
            refine wpAnyH_ready (rs := [17]) (by kernel_rfl) (by simp) ?_
            refine AllReadyH.cons (by simp only [List.getElem?_toArray, List.getElem?_cons_succ, List.getElem?_cons_zero]; rfl) (fun K hK => ?_) AllReadyH.nil
            rw [if_pos (by rfl)]
            have lX9 : X < w9.heap.size := World.block_lt_of_cell? _ _ y1
            go_simp
            refine hK.out _ _ (hSw _ _ hHeld) (fun hHeld => ?_)
            clear hK K
            try simp only [Act.put, List.setIfInBounds_toArray, List.set_cons_zero, List.set_cons_succ]
            refine wpAnyH_done (by kernel_rfl) ?_ _
            go_wp2
            go_roundw
            case rel => exact ⟨k + 1, _, _, by omega, by go_num, HN⟩
            case measure => simp [intOf]; omega

          · rw [if_pos (by rfl)]
            go_simp
            obtain ⟨Wa127, hWa127⟩ : ∃ W', W' = Wa119.alloc (.cells #[] 76) := ⟨_, rfl⟩
            have E1 : Emp Wa127 W0.heap.size 76 Wa119.heap.size := by rw [hWa127]; exact emp_new _ _ Bc.size
            have Ga127 : Below Wa119.heap.size Wa119 Wa127 := by rw [hWa127]; exact (Below.refl _ _).alloc (Nat.le_refl _) _
            have za127 : Wa127.heap.size ≤ Wa119.heap.size + 1 ∧ Wa119.heap.size + 1 ≤ Wa127.heap.size := by rw [hWa127]; simp
            have Bs := Bc.size
            have Bc := Bc.trans (Ga127.mono Bs)
            rw [← hWa127]
            clear hWa127
            have k2 := E2.lt
            have E2 := E2.same (Ga127.block _ E2.lt)
            refine hK.out _ _ (hSb _ Bc) (fun hHeld => ?_)
            clear hK K
            try simp only [Act.put, List.setIfInBounds_toArray, List.set_cons_zero, List.set_cons_succ]
            refine wpAnyH_ready (rs := [1, 5]) (by kernel_rfl) (by simp) ?_
            refine AllReadyH.cons (by simp only [List.getElem?_toArray, List.getElem?_cons_succ, List.getElem?_cons_zero]; rfl) (fun K hK => ?_) (AllReadyH.cons (by simp only [List.getElem?_toArray, List.getElem?_cons_succ, List.getElem?_cons_zero]; rfl) (fun K hK => ?_) AllReadyH.nil)
            · rw [if_pos (by rfl)]
              have x1c := (Bc.cell (p := ⟨X, 1, none⟩) lX0).trans x1W
              have lXc : X < Wa127.heap.size := Nat.lt_of_lt_of_le lX0 (Nat.le_trans sN Bc.size)
              go_simp
              clear x1c lXc
              refine hK.out _ _ hHeld (fun hHeld => ?_)
              clear hK K
              try simp only [Act.put, List.setIfInBounds_toArray, List.set_cons_zero, List.set_cons_succ]
              refine wpAnyH_ready (rs := [5]) (by kernel_rfl) (by simp) ?_
              refine AllReadyH.cons (by simp only [List.getElem?_toArray, List.getElem?_cons_succ, List.getElem?_cons_zero]; rfl) (fun K hK => ?_) AllReadyH.nil
              rw [if_pos (by rfl)]
              obtain ⟨gM, cM, Wa129, hA, HA⟩ := appM (c := cm0) E1 Bc.size (hsM _ Bc) hm6
              go_simp
              try go_wp2_with (fail)
              clear hA
              obtain ⟨EM, RM, at5, lt5, gra129⟩ := HA.out
              clear HA
              have za129 := gra129.size
              have b5 := E1.1
              have k5 := E1.lt
              have Bs := Bc.size
              have Bc := Bc.trans (grown_below gra129 b5 Bs)
              have E2 := E2.same (gra129.block _ E2.lt (by intro e; have e := Option.some.inj e; omega))
              clear E1 gra129
              refine hK.out _ _ (hSb _ Bc) (fun hHeld => ?_)
              clear hK K
              try simp only [Act.put, List.setIfInBounds_toArray, List.set_cons_zero, List.set_cons_succ]
              refine wpAnyH_ready (rs := [8]) (by kernel_rfl) (by simp) ?_
              refine AllReadyH.cons (by simp only [List.getElem?_toArray, List.getElem?_cons_succ, List.getElem?_cons_zero]; rfl) (fun K hK => ?_) AllReadyH.nil
              rw [if_pos (by rfl)]
              go_simp
              refine (hCp _ Bc).mono ?_
              rintro e Wa130 ⟨ad1, cd1, rfl, OM, Ga130⟩
              have za130 := Ga130.size
              have Bs := Bc.size
              have Bc := Bc.trans (Ga130.mono Bs)
              have EM := EM.sameH (below_sameIn Ga130 (Nat.le_refl _)) (Nat.zero_le _) (by omega)
              have RM := RM.same (below_sameIn Ga130 (Nat.le_refl _)) (Nat.zero_le _) (by omega)
              have k2 := E2.lt
              have E2 := E2.same (Ga130.block _ E2.lt)
              try go_wp2_with (fail)
              refine hK.out _ _ (hSb _ Bc) (fun hHeld => ?_)
              clear hK K
              try simp only [Act.put, List.setIfInBounds_toArray, List.set_cons_zero, List.set_cons_succ]
              refine wpAnyH_ready (rs := [12]) (by kernel_rfl) (by simp) ?_
              refine AllReadyH.cons (by simp only [List.getElem?_toArray, List.getElem?_cons_succ, List.getElem?_cons_zero]; rfl) (fun K hK => ?_) AllReadyH.nil
              rw [if_pos (by rfl)]
              obtain ⟨gQ, cQ, Wa131, hA, HA⟩ := appQ (c := cs0) E2 Bc.size (hsQ _ Bc) hs6
              go_simp
              try go_wp2_with (fail)
              clear hA
              obtain ⟨EQ, RQ, at12, lt12, gra131⟩ := HA.out
              clear HA
              have za131 := gra131.size
              have b12 := E2.1
              have k12 := E2.lt
              have Bs := Bc.size
              have Bc := Bc.trans (grown_below gra131 b12 Bs)
              have sEM : SameIn gM (gM + 1) Wa130 Wa131 := fun j j1 j2 => gra131.block j (by omega) (by intro e; have e := Option.some.inj e; omega)
              have EM := EM.sameH sEM (Nat.le_refl _) (Nat.lt_succ_self _)
              have RM := RM.same sEM (Nat.le_refl _) (Nat.lt_succ_self _)
              have OM := OM.same (fun j j1 j2 => gra131.block j (by omega) (by intro e; have e := Option.some.inj e; omega))
              clear E2 gra131
              have hOG : OwnGuest Wa131 wr.heap.size Wa131.heap.size (.slice (some ⟨gM, 0, none⟩) 6 cM) (.slice ad1 6 cd1) (.slice (some ⟨gQ, 0, none⟩) 6 cQ) (h.guests.getD k noG) := ⟨gM, gQ, cM, cQ, ad1, cd1, _, _, by rw [hm6], by rw [hd6], by rw [hs6], EM, by rw [hm6]; exact RM, EQ, by rw [hs6]; exact RQ, by rw [hd6]; exact OM, by omega, by omega, by omega, by omega, by omega, by omega, by omega, by omega, by omega⟩
              obtain ⟨lXw, gg, capg, w9, hApp, y1, y3, yX, HN⟩ := copyUp_app hU.out (Nat.le_trans n2 (Nat.le_refl _)) n3 n4 n6 (by omega) (hWr _ Bc) hOG
              have yS := hSf _ w9 Bc (yX wr.heap.size (Nat.le_refl _) (by omega))
              clear yX
              clear hOG EM RM EQ RQ OM
              refine hK.out _ _ (hSb _ Bc) (fun hHeld => ?_)
              clear hK K
              try simp only [Act.put, List.setIfInBounds_toArray, List.set_cons_zero, List.set_cons_succ]
              refine wpAnyH_take (i := 13) (v := ?_) (by simp only [List.getElem?_toArray, List.getElem?_cons_succ, List.getElem?_cons_zero]; rfl) (by kernel_rfl) (by kernel_rfl) (by kernel_rfl) (by exact fun _ _ _ h => h) (Or.inl ⟨by rfl, ?_⟩) hHeld ?_
              rotate_left
              · intro W' hW'; go_simp <;> with_reducible rfl
              simp only [Act.put, List.setIfInBounds_toArray, List.set_cons_zero, List.set_cons_succ]
              refine wpAnyH_ready (rs := [14]) (by kernel_rfl) (by simp) ?_
              refine AllReadyH.cons (by simp only [List.getElem?_toArray, List.getElem?_cons_succ, List.getElem?_cons_zero]; rfl) (fun K hK => ?_) AllReadyH.nil
              rw [if_pos (by rfl)]
              go_simp
              refine hK.out _ _ (hSb _ (Bc.alloc Bc.size _)) (fun hHeld => ?_)
              clear hK K
              try simp only [Act.put, List.setIfInBounds_toArray, List.set_cons_zero, List.set_cons_succ]
              refine wpAnyH_ready (rs := [15]) (by kernel_rfl) (by simp) ?_
              refine AllReadyH.cons (by simp only [List.getElem?_toArray, List.getElem?_cons_succ, List.getElem?_cons_zero]; rfl) (fun K hK => ?_) AllReadyH.nil
              rw [if_pos (by rfl)]
              go_simp
              try go_wp2_with (fail)
              clear hApp
              refine hK.out _ _ yS (fun hHeld => ?_)
              clear hK K
              try simp only [Act.put, List.setIfInBounds_toArray, List.set_cons_zero, List.set_cons_succ]
              refine wpAnyH_take (i := 16) (v := ?_) (by simp only [List.getElem?_toArray, List.getElem?_cons_succ, List.getElem?_cons_zero]; rfl) (by kernel_rfl) (by kernel_rfl) (by kernel_rfl) (by exact fun _ _ _ h => h) (Or.inl ⟨by rfl, ?_⟩) hHeld ?_
              rotate_left
              · intro W' hW'; go_simp <;> with_reducible rfl
              simp only [Act.put, List.setIfInBounds_toArray, List.set_cons_zero, List.set_cons_succ]
              refine wpAnyH_ready (rs := [17]) (by kernel_rfl) (by simp) ?_
              refine AllReadyH.cons (by simp only [List.getElem?_toArray, List.getElem?_cons_succ, List.getElem?_cons_zero]; rfl) (fun K hK => ?_) AllReadyH.nil
              rw [if_pos (by rfl)]
              have lX9 : X < w9.heap.size := World.block_lt_of_cell? _ _ y1
              go_simp
              refine hK.out _ _ (hSw _ _ hHeld) (fun hHeld => ?_)
              clear hK K
              try simp only [Act.put, List.setIfInBounds_toArray, List.set_cons_zero, List.set_cons_succ]
              refine wpAnyH_done (by kernel_rfl) ?_ _
              go_wp2
              go_roundw
              case rel => exact ⟨k + 1, _, _, by omega, by go_num, HN⟩
              case measure => simp [intOf]; omega

            · rw [if_pos (by rfl)]
              obtain ⟨gM, cM, Wa134, hA, HA⟩ := appM (c := cm0) E1 Bc.size (hsM _ Bc) hm6
              go_simp
              try go_wp2_with (fail)
              clear hA
              obtain ⟨EM, RM, at5, lt5, gra134⟩ := HA.out
              clear HA
              have za134 := gra134.size
              have b5 := E1.1
              have k5 := E1.lt
              have Bs := Bc.size
              have Bc := Bc.trans (grown_below gra134 b5 Bs)
              have E2 := E2.same (gra134.block _ E2.lt (by intro e; have e := Option.some.inj e; omega))
              clear E1 gra134
              refine hK.out _ _ (hSb _ Bc) (fun hHeld => ?_)
              clear hK K
              try simp only [Act.put, List.setIfInBounds_toArray, List.set_cons_zero, List.set_cons_succ]
              refine wpAnyH_ready (rs := [1, 8]) (by kernel_rfl) (by simp) ?_
              refine AllReadyH.cons (by simp only [List.getElem?_toArray, List.getElem?_cons_succ, List.getElem?_cons_zero]; rfl) (fun K hK => ?_) (AllReadyH.cons (by simp only [List.getElem?_toArray, List.getElem?_cons_succ, List.getElem?_cons_zero]; rfl) (fun K hK => ?_) AllReadyH.nil)
              · rw [if_pos (by rfl)]
                have x1c := (Bc.cell (p := ⟨X, 1, none⟩) lX0).trans x1W
                have lXc : X < Wa134.heap.size := Nat.lt_of_lt_of_le lX0 (Nat.le_trans sN Bc.size)
                go_simp
                clear x1c lXc
                refine hK.out _ _ hHeld (fun hHeld => ?_)
                clear hK K
                try simp only [Act.put, List.setIfInBounds_toArray, List.set_cons_zero, List.set_cons_succ]
                refine wpAnyH_ready (rs := [8]) (by kernel_rfl) (by simp) ?_
                refine AllReadyH.cons (by simp only [List.getElem?_toArray, List.getElem?_cons_succ, List.getElem?_cons_zero]; rfl) (fun K hK => ?_) AllReadyH.nil
                rw [if_pos (by rfl)]
                go_simp
                refine (hCp _ Bc).mono ?_
                rintro e Wa136 ⟨ad1, cd1, rfl, OM, Ga136⟩
                have za136 := Ga136.size
                have Bs := Bc.size
                have Bc := Bc.trans (Ga136.mono Bs)
                have EM := EM.sameH (below_sameIn Ga136 (Nat.le_refl _)) (Nat.zero_le _) (by omega)
                have RM := RM.same (below_sameIn Ga136 (Nat.le_refl _)) (Nat.zero_le _) (by omega)
                have k2 := E2.lt
                have E2 := E2.same (Ga136.block _ E2.lt)
                try go_wp2_with (fail)
                refine hK.out _ _ (hSb _ Bc) (fun hHeld => ?_)
                clear hK K
                try simp only [Act.put, List.setIfInBounds_toArray, List.set_cons_zero, List.set_cons_succ]
                refine wpAnyH_ready (rs := [12]) (by kernel_rfl) (by simp) ?_
                refine AllReadyH.cons (by simp only [List.getElem?_toArray, List.getElem?_cons_succ, List.getElem?_cons_zero]; rfl) (fun K hK => ?_) AllReadyH.nil
                rw [if_pos (by rfl)]
                obtain ⟨gQ, cQ, Wa137, hA, HA⟩ := appQ (c := cs0) E2 Bc.size (hsQ _ Bc) hs6
                go_simp
                try go_wp2_with (fail)
                clear hA
                obtain ⟨EQ, RQ, at12, lt12, gra137⟩ := HA.out
                clear HA
                have za137 := gra137.size
                have b12 := E2.1
                have k12 := E2.lt
                have Bs := Bc.size
                have Bc := Bc.trans (grown_below gra137 b12 Bs)
                have sEM : SameIn gM (gM + 1) Wa136 Wa137 := fun j j1 j2 => gra137.block j (by omega) (by intro e; have e := Option.some.inj e; omega)
                have EM := EM.sameH sEM (Nat.le_refl _) (Nat.lt_succ_self _)
                have RM := RM.same sEM (Nat.le_refl _) (Nat.lt_succ_self _)
                have OM := OM.same (fun j j1 j2 => gra137.block j (by omega) (by intro e; have e := Option.some.inj e; omega))
                clear E2 gra137
                have hOG : OwnGuest Wa137 wr.heap.size Wa137.heap.size (.slice (some ⟨gM, 0, none⟩) 6 cM) (.slice ad1 6 cd1) (.slice (some ⟨gQ, 0, none⟩) 6 cQ) (h.guests.getD k noG) := ⟨gM, gQ, cM, cQ, ad1, cd1, _, _, by rw [hm6], by rw [hd6], by rw [hs6], EM, by rw [hm6]; exact RM, EQ, by rw [hs6]; exact RQ, by rw [hd6]; exact OM, by omega, by omega, by omega, by omega, by omega, by omega, by omega, by omega, by omega⟩
                obtain ⟨lXw, gg, capg, w9, hApp, y1, y3, yX, HN⟩ := copyUp_app hU.out (Nat.le_trans n2 (Nat.le_refl _)) n3 n4 n6 (by omega) (hWr _ Bc) hOG
                have yS := hSf _ w9 Bc (yX wr.heap.size (Nat.le_refl _) (by omega))
                clear yX
                clear hOG EM RM EQ RQ OM
                refine hK.out _ _ (hSb _ Bc) (fun hHeld => ?_)
                clear hK K
                try simp only [Act.put, List.setIfInBounds_toArray, List.set_cons_zero, List.set_cons_succ]
                refine wpAnyH_take (i := 13) (v := ?_) (by simp only [List.getElem?_toArray, List.getElem?_cons_succ, List.getElem?_cons_zero]; rfl) (by kernel_rfl) (by kernel_rfl) (by kernel_rfl) (by exact fun _ _ _ h => h) (Or.inl ⟨by rfl, ?_⟩) hHeld ?_
                rotate_left
                · intro W' hW'; go_simp <;> with_reducible rfl
                simp only [Act.put, List.setIfInBounds_toArray, List.set_cons_zero, List.set_cons_succ]
                refine wpAnyH_ready (rs := [14]) (by kernel_rfl) (by simp) ?_
                refine AllReadyH.cons (by simp only [List.getElem?_toArray, List.getElem?_cons_succ, List.getElem?_cons_zero]; rfl) (fun K hK => ?_) AllReadyH.nil
                rw [if_pos (by rfl)]
                go_simp
                refine hK.out _ _ (hSb _ (Bc.alloc Bc.size _)) (fun hHeld => ?_)
                clear hK K
                try simp only [Act.put, List.setIfInBounds_toArray, List.set_cons_zero, List.set_cons_succ]
                refine wpAnyH_ready (rs := [15]) (by kernel_rfl) (by simp) ?_
                refine AllReadyH.cons (by simp only [List.getElem?_toArray, List.getElem?_cons_succ, List.getElem?_cons_zero]; rfl) (fun K hK => ?_) AllReadyH.nil
                rw [if_pos (by rfl)]
                go_simp
                try go_wp2_with (fail)
                clear hApp
                refine hK.out _ _ yS (fun hHeld => ?_)
                clear hK K
                try simp only [Act.put, List.setIfInBounds_toArray, List.set_cons_zero, List.set_cons_succ]
                refine wpAnyH_take (i := 16) (v := ?_) (by simp only [List.getElem?_toArray, List.getElem?_cons_succ, List.getElem?_cons_zero]; rfl) (by kernel_rfl) (by kernel_rfl) (by kernel_rfl) (by exact fun _ _ _ h => h) (Or.inl ⟨by rfl, ?_⟩) hHeld ?_
                rotate_left
                · intro W' hW'; go_simp <;> with_reducible rfl
                simp only [Act.put, List.setIfInBounds_toArray, List.set_cons_zero, List.set_cons_succ]
                refine wpAnyH_ready (rs := [17]) (by kernel_rfl) (by simp) ?_
                refine AllReadyH.cons (by simp only [List.getElem?_toArray, List.getElem?_cons_succ, List.getElem?_cons_zero]; rfl) (fun K hK => ?_) AllReadyH.nil
                rw [if_pos (by rfl)]
                have lX9 : X < w9.heap.size := World.block_lt_of_cell? _ _ y1
                go_simp
                refine hK.out _ _ (hSw _ _ hHeld) (fun hHeld => ?_)
                clear hK K
                try simp only [Act.put, List.setIfInBounds_toArray, List.set_cons_zero, List.set_cons_succ]
                refine wpAnyH_done (by kernel_rfl) ?_ _
                go_wp2
                go_roundw
                case rel => exact ⟨k + 1, _, _, by omega, by go_num, HN⟩
                case measure => simp [intOf]; omega

              · rw [if_pos (by rfl)]
                go_simp
                refine (hCp _ Bc).mono ?_
                rintro e Wa140 ⟨ad1, cd1, rfl, OM, Ga140⟩
                have za140 := Ga140.size
                have Bs := Bc.size
                have Bc := Bc.trans (Ga140.mono Bs)
                have EM := EM.sameH (below_sameIn Ga140 (Nat.le_refl _)) (Nat.zero_le _) (by omega)
                have RM := RM.same (below_sameIn Ga140 (Nat.le_refl _)) (Nat.zero_le _) (by omega)
                have k2 := E2.lt
                have E2 := E2.same (Ga140.block _ E2.lt)
                try go_wp2_with (fail)
                refine hK.out _ _ (hSb _ Bc) (fun hHeld => ?_)
                clear hK K
                try simp only [Act.put, List.setIfInBounds_toArray, List.set_cons_zero, List.set_cons_succ]
                refine wpAnyH_ready (rs := [1, 12]) (by kernel_rfl) (by simp) ?_
                refine AllReadyH.cons (by simp only [List.getElem?_toArray, List.getElem?_cons_succ, List.getElem?_cons_zero]; rfl) (fun K hK => ?_) (AllReadyH.cons (by simp only [List.getElem?_toArray, List.getElem?_cons_succ, List.getElem?_cons_zero]; rfl) (fun K hK => ?_) AllReadyH.nil)
                · rw [if_pos (by rfl)]
                  have x1c := (Bc.cell (p := ⟨X, 1, none⟩) lX0).trans x1W
                  have lXc : X < Wa140.heap.size := Nat.lt_of_lt_of_le lX0 (Nat.le_trans sN Bc.size)
                  go_simp
                  clear x1c lXc
                  refine hK.out _ _ hHeld (fun hHeld => ?_)
                  clear hK K
                  try simp only [Act.put, List.setIfInBounds_toArray, List.set_cons_zero, List.set_cons_succ]
                  refine wpAnyH_ready (rs := [12]) (by kernel_rfl) (by simp) ?_
                  refine AllReadyH.cons (by simp only [List.getElem?_toArray, List.getElem?_cons_succ, List.getElem?_cons_zero]; rfl) (fun K hK => ?_) AllReadyH.nil
                  rw [if_pos (by rfl)]
                  obtain ⟨gQ, cQ, Wa142, hA, HA⟩ := appQ (c := cs0) E2 Bc.size (hsQ _ Bc) hs6
                  go_simp
                  try go_wp2_with (fail)
                  clear hA
                  obtain ⟨EQ, RQ, at12, lt12, gra142⟩ := HA.out
                  clear HA
                  have za142 := gra142.size
                  have b12 := E2.1
                  have k12 := E2.lt
                  have Bs := Bc.size
                  have Bc := Bc.trans (grown_below gra142 b12 Bs)
                  have sEM : SameIn gM (gM + 1) Wa140 Wa142 := fun j j1 j2 => gra142.block j (by omega) (by intro e; have e := Option.some.inj e; omega)
                  have EM := EM.sameH sEM (Nat.le_refl _) (Nat.lt_succ_self _)
                  have RM := RM.same sEM (Nat.le_refl _) (Nat.lt_succ_self _)
                  have OM := OM.same (fun j j1 j2 => gra142.block j (by omega) (by intro e; have e := Option.some.inj e; omega))
                  clear E2 gra142
                  have hOG : OwnGuest Wa142 wr.heap.size Wa142.heap.size (.slice (some ⟨gM, 0, none⟩) 6 cM) (.slice ad1 6 cd1) (.slice (some ⟨gQ, 0, none⟩) 6 cQ) (h.guests.getD k noG) := ⟨gM, gQ, cM, cQ, ad1, cd1, _, _, by rw [hm6], by rw [hd6], by rw [hs6], EM, by rw [hm6]; exact RM, EQ, by rw [hs6]; exact RQ, by rw [hd6]; exact OM, by omega, by omega, by omega, by omega, by omega, by omega, by omega, by omega, by omega⟩
                  obtain ⟨lXw, gg, capg, w9, hApp, y1, y3, yX, HN⟩ := copyUp_app hU.out (Nat.le_trans n2 (Nat.le_refl _)) n3 n4 n6 (by omega) (hWr _ Bc) hOG
                  have yS := hSf _ w9 Bc (yX wr.heap.size (Nat.le_refl _) (by omega))
                  clear yX
                  clear hOG EM RM EQ RQ OM
                  refine hK.out _ _ (hSb _ Bc) (fun hHeld => ?_)
                  clear hK K
                  try simp only [Act.put, List.setIfInBounds_toArray, List.set_cons_zero, List.set_cons_succ]
                  refine wpAnyH_take (i := 13) (v := ?_) (by simp only [List.getElem?_toArray, List.getElem?_cons_succ, List.getElem?_cons_zero]; rfl) (by kernel_rfl) (by kernel_rfl) (by kernel_rfl) (by exact fun _ _ _ h => h) (Or.inl ⟨by rfl, ?_⟩) hHeld ?_
                  rotate_left
                  · intro W' hW'; go_simp <;> with_reducible rfl
                  simp only [Act.put, List.setIfInBounds_toArray, List.set_cons_zero, List.set_cons_succ]
                  refine wpAnyH_ready (rs := [14]) (by kernel_rfl) (by simp) ?_
                  refine AllReadyH.cons (by simp only [List.getElem?_toArray, List.getElem?_cons_succ, List.getElem?_cons_zero]; rfl) (fun K hK => ?_) AllReadyH.nil
                  rw [if_pos (by rfl)]
                  go_simp
                  refine hK.out _ _ (hSb _ (Bc.alloc Bc.size _)) (fun hHeld => ?_)
                  clear hK K
                  try simp only [Act.put, List.setIfInBounds_toArray, List.set_cons_zero, List.set_cons_succ]
                  refine wpAnyH_ready (rs := [15]) (by kernel_rfl) (by simp) ?_
                  refine AllReadyH.cons (by simp only [List.getElem?_toArray, List.getElem?_cons_succ, List.getElem?_cons_zero]; rfl) (fun K hK => ?_) AllReadyH.nil
                  rw [if_pos (by rfl)]
                  go_simp
                  try go_wp2_with (fail)
                  clear hApp
                  refine hK.out _ _ yS (fun hHeld => ?_)
                  clear hK K
                  try simp only [Act.put, List.setIfInBounds_toArray, List.set_cons_zero, List.set_cons_succ]
                  refine wpAnyH_take (i := 16) (v := ?_) (by simp only [List.getElem?_toArray, List.getElem?_cons_succ, List.getElem?_cons_zero]; rfl) (by kernel_rfl) (by kernel_rfl) (by kernel_rfl) (by exact fun _ _ _ h => h) (Or.inl ⟨by rfl, ?_⟩) hHeld ?_
                  rotate_left
                  · intro W' hW'; go_simp <;> with_reducible rfl
                  simp only [Act.put, List.setIfInBounds_toArray, List.set_cons_zero, List.set_cons_succ]
                  refine wpAnyH_ready (rs := [17]) (by kernel_rfl) (by simp) ?_
                  refine AllReadyH.cons (by simp only [List.getElem?_toArray, List.getElem?_cons_succ, List.getElem?_cons_zero]; rfl) (fun K hK => ?_) AllReadyH.nil
                  rw [if_pos (by rfl)]
                  have lX9 : X < w9.heap.size := World.block_lt_of_cell? _ _ y1
                  go_simp
                  refine hK.out _ _ (hSw _ _ hHeld) (fun hHeld => ?_)
                  clear hK K
                  try simp only [Act.put, List.setIfInBounds_toArray, List.set_cons_zero, List.set_cons_succ]
                  refine wpAnyH_done (by kernel_rfl) ?_ _
                  go_wp2
                  go_roundw
                  case rel => exact ⟨k + 1, _, _, by omega, by go_num, HN⟩
                  case measure => simp [intOf]; omega

                · rw [if_pos (by rfl)]
                  obtain ⟨gQ, cQ, Wa145, hA, HA⟩ := appQ (c := cs0) E2 Bc.size (hsQ _ Bc) hs6
                  go_simp
                  try go_wp2_with (fail)
                  clear hA
                  obtain ⟨EQ, RQ, at12, lt12, gra145⟩ := HA.out
                  clear HA
                  have za145 := gra145.size
                  have b12 := E2.1
                  have k12 := E2.lt
                  have Bs := Bc.size
                  have Bc := Bc.trans (grown_below gra145 b12 Bs)
                  have sEM : SameIn gM (gM + 1) Wa140 Wa145 := fun j j1 j2 => gra145.block j (by omega) (by intro e; have e := Option.some.inj e; omega)
                  have EM := EM.sameH sEM (Nat.le_refl _) (Nat.lt_succ_self _)
                  have RM := RM.same sEM (Nat.le_refl _) (Nat.lt_succ_self _)
                  have OM := OM.same (fun j j1 j2 => gra145.block j (by omega) (by intro e; have e := Option.some.inj e; omega))
                  clear E2 gra145
                  have hOG : OwnGuest Wa145 wr.heap.size Wa145.heap.size (.slice (some ⟨gM, 0, none⟩) 6 cM) (.slice ad1 6 cd1) (.slice (some ⟨gQ, 0, none⟩) 6 cQ) (h.guests.getD k noG) := ⟨gM, gQ, cM, cQ, ad1, cd1, _, _, by rw [hm6], by rw [hd6], by rw [hs6], EM, by rw [hm6]; exact RM, EQ, by rw [hs6]; exact RQ, by rw [hd6]; exact OM, by omega, by omega, by omega, by omega, by omega, by omega, by omega, by omega, by omega⟩
                  obtain ⟨lXw, gg, capg, w9, hApp, y1, y3, yX, HN⟩ := copyUp_app hU.out (Nat.le_trans n2 (Nat.le_refl _)) n3 n4 n6 (by omega) (hWr _ Bc) hOG
                  have yS := hSf _ w9 Bc (yX wr.heap.size (Nat.le_refl _) (by omega))
                  clear yX
                  clear hOG EM RM EQ RQ OM
                  refine hK.out _ _ (hSb _ Bc) (fun hHeld => ?_)
                  clear hK K
                  try simp only [Act.put, List.setIfInBounds_toArray, List.set_cons_zero, List.set_cons_succ]
                  refine wpAnyH_take (i := 13) (v := ?_) (by simp only [List.getElem?_toArray, List.getElem?_cons_succ, List.getElem?_cons_zero]; rfl) (by kernel_rfl) (by kernel_rfl) (by kernel_rfl) (by exact fun _ _ _ h => h) (Or.inl ⟨by rfl, ?_⟩) hHeld ?_
                  rotate_left
                  · intro W' hW'; go_simp <;> with_reducible rfl
                  simp only [Act.put, List.setIfInBounds_toArray, List.set_cons_zero, List.set_cons_succ]
                  refine wpAnyH_ready (rs := [1, 14]) (by kernel_rfl) (by simp) ?_
                  refine AllReadyH.cons (by simp only [List.getElem?_toArray, List.getElem?_cons_succ, List.getElem?_cons_zero]; rfl) (fun K hK => ?_) (AllReadyH.cons (by simp only [List.getElem?_toArray, List.getElem?_cons_succ, List.getElem?_cons_zero]; rfl) (fun K hK => ?_) AllReadyH.nil)
                  · rw [if_pos (by rfl)]
                    have x1c := (Bc.cell (p := ⟨X, 1, none⟩) lX0).trans x1W
                    have lXc : X < Wa145.heap.size := Nat.lt_of_lt_of_le lX0 (Nat.le_trans sN Bc.size)
                    go_simp
                    clear x1c lXc
                    refine hK.out _ _ hHeld (fun hHeld => ?_)
                    clear hK K
                    try simp only [Act.put, List.setIfInBounds_toArray, List.set_cons_zero, List.set_cons_succ]
                    refine wpAnyH_ready (rs := [14]) (by kernel_rfl) (by simp) ?_
                    refine AllReadyH.cons (by simp only [List.getElem?_toArray, List.getElem?_cons_succ, List.getElem?_cons_zero]; rfl) (fun K hK => ?_) AllReadyH.nil
                    rw [if_pos (by rfl)]
                    go_simp
                    refine hK.out _ _ (hSb _ (Bc.alloc Bc.size _)) (fun hHeld => ?_)
                    clear hK K
                    try simp only [Act.put, List.setIfInBounds_toArray, List.set_cons_zero, List.set_cons_succ]
                    refine wpAnyH_ready (rs := [15]) (by kernel_rfl) (by simp) ?_
                    refine AllReadyH.cons (by simp only [List.getElem?_toArray, List.getElem?_cons_succ, List.getElem?_cons_zero]; rfl) (fun K hK => ?_) AllReadyH.nil
                    rw [if_pos (by rfl)]
                    go_simp
                    try go_wp2_with (fail)
                    clear hApp
                    refine hK.out _ _ yS (fun hHeld => ?_)
                    clear hK K
                    try simp only [Act.put, List.setIfInBounds_toArray, List.set_cons_zero, List.set_cons_succ]
                    refine wpAnyH_take (i := 16) (v := ?_) (by simp only [List.getElem?_toArray, List.getElem?_cons_succ, List.getElem?_cons_zero]; rfl) (by kernel_rfl) (by kernel_rfl) (by kernel_rfl) (by exact fun _ _ _ h => h) (Or.inl ⟨by rfl, ?_⟩) hHeld ?_
                    rotate_left
                    · intro W' hW'; go_simp <;> with_reducible rfl
                    simp only [Act.put, List.setIfInBounds_toArray, List.set_cons_zero, List.set_cons_succ]
                    refine wpAnyH_ready (rs := [17]) (by kernel_rfl) (by simp) ?_
                    refine AllReadyH.cons (by simp only [List.getElem?_toArray, List.getElem?_cons_succ, List.getElem?_cons_zero]; rfl) (fun K hK => ?_) AllReadyH.nil
                    rw [if_pos (by rfl)]
                    have lX9 : X < w9.heap.size := World.block_lt_of_cell? _ _ y1
                    go_simp
                    refine hK.out _ _ (hSw _ _ hHeld) (fun hHeld => ?_)
                    clear hK K
                    try simp only [Act.put, List.setIfInBounds_toArray, List.set_cons_zero, List.set_cons_succ]
                    refine wpAnyH_done (by kernel_rfl) ?_ _
                    go_wp2
                    go_roundw
                    case rel => exact ⟨k + 1, _, _, by omega, by go_num, HN⟩
                    case measure => simp [intOf]; omega

                  · rw [if_pos (by rfl)]
                    go_simp
                    refine hK.out _ _ (hSb _ (Bc.alloc Bc.size _)) (fun hHeld => ?_)
                    clear hK K
                    try simp only [Act.put, List.setIfInBounds_toArray, List.set_cons_zero, List.set_cons_succ]
                    refine wpAnyH_ready (rs := [1]) (by kernel_rfl) (by simp) ?_
                    refine AllReadyH.cons (by simp only [List.getElem?_toArray, List.getElem?_cons_succ, List.getElem?_cons_zero]; rfl) (fun K hK => ?_) AllReadyH.nil
                    rw [if_pos (by rfl)]
                    have x1c := (Bc.cell (p := ⟨X, 1, none⟩) lX0).trans x1W
                    have lXc : X < Wa145.heap.size := Nat.lt_of_lt_of_le lX0 (Nat.le_trans sN Bc.size)
                    go_simp
                    clear x1c lXc
                    refine hK.out _ _ hHeld (fun hHeld => ?_)
                    clear hK K
                    try simp only [Act.put, List.setIfInBounds_toArray, List.set_cons_zero, List.set_cons_succ]
                    refine wpAnyH_ready (rs := [15]) (by kernel_rfl) (by simp) ?_
                    refine AllReadyH.cons (by simp only [List.getElem?_toArray, List.getElem?_cons_succ, List.getElem?_cons_zero]; rfl) (fun K hK => ?_) AllReadyH.nil
                    rw [if_pos (by rfl)]
                    go_simp
                    try go_wp2_with (fail)
                    clear hApp
                    refine hK.out _ _ yS (fun hHeld => ?_)
                    clear hK K
                    try simp only [Act.put, List.setIfInBounds_toArray, List.set_cons_zero, List.set_cons_succ]
                    refine wpAnyH_take (i := 16) (v := ?_) (by simp only [List.getElem?_toArray, List.getElem?_cons_succ, List.getElem?_cons_zero]; rfl) (by kernel_rfl) (by kernel_rfl) (by kernel_rfl) (by exact fun _ _ _ h => h) (Or.inl ⟨by rfl, ?_⟩) hHeld ?_
                    rotate_left
                    · intro W' hW'; go_simp <;> with_reducible rfl
                    simp only [Act.put, List.setIfInBounds_toArray, List.set_cons_zero, List.set_cons_succ]
                    refine wpAnyH_ready (rs := [17]) (by kernel_rfl) (by simp) ?_
                    refine AllReadyH.cons (by simp only [List.getElem?_toArray, List.getElem?_cons_succ, List.getElem?_cons_zero]; rfl) (fun K hK => ?_) AllReadyH.nil
                    rw [if_pos (by rfl)]
                    have lX9 : X < w9.heap.size := World.block_lt_of_cell? _ _ y1
                    go_simp
                    refine hK.out _ _ (hSw _ _ hHeld) (fun hHeld => ?_)
                    clear hK K
                    try simp only [Act.put, List.setIfInBounds_toArray, List.set_cons_zero, List.set_cons_succ]
                    refine wpAnyH_done (by kernel_rfl) ?_ _
                    go_wp2
                    go_roundw
                    case rel => exact ⟨k + 1, _, _, by omega, by go_num, HN⟩
                    case measure => simp [intOf]; omega

      · have hkk : k = n := by omega
        obtain ⟨_, ⟨d0, d1, d2, e0, e1, e2⟩, _, hM, _, _, vs, hown, hgv⟩ := hU.out
        obtain ⟨T, cg2, e, hT1, hT2⟩ := hown.form (by omega)
        cases e
        have hr1 : w.heap.size + 1 < wr.heap.size := by omega
        have HO : Hid (OwnHost wr (w.heap.size + 2) wr.heap.size (.slice af' 8 cf') (.slice (some ⟨T, 0, none⟩) k cg') h) :=
          ⟨af', cf', m0, m1, by rw [hf8], by rw [hf8]; exact hM, n1, by omega, _, cg', by rw [hn, hkk], Or.inr ⟨T, wc.heap.size, rfl, by omega, hT2, Or.inr (by omega), n2, by omega, by rw [hn, ← hkk]; exact hgv.guests hown⟩⟩
        have HBw : Hid (Below w.heap.size w wr) := hBw
        have HRT : Hid (Room wr T (k * 3)) := own_room hown
        have Hkk : Hid (k = n) := hkk
        clear hM hown hgv hU hkk hBw hF hG
        go_wp2
        refine bodyPost_ret (v := .agg #[.slice af' 8 cf', .slice (some ⟨T, 0, none⟩) k cg', .int .i64 h.hand]) (by simp [results, Try.results60, go_sem, *]) rfl ?_
        have s5 : SameIn (w.heap.size + 2) wr.heap.size wr (((wr.setCell ⟨w.heap.size + 1, 0, none⟩ (.slice af' 8 cf')).setCell ⟨w.heap.size + 1, 1, none⟩ (.slice (some ⟨T, 0, none⟩) k cg')).setCell ⟨w.heap.size + 1, 2, none⟩ (.int .i64 h.hand)) := fun j k1 k2 => by
          rw [Below.heap_setCell _ _ _ _ (by simp; omega), Below.heap_setCell _ _ _ _ (by simp; omega), Below.heap_setCell _ _ _ _ (by simp; omega)]
        rw [← Hkk.out]
        refine ⟨_, T, cg', rfl, OwnHost.wide (lo := w.heap.size + 2) (hi := wr.heap.size) (OwnHost.same s5 HO.out) (by omega) (by simp), HRT.out.same s5 (by omega) hT2, ?_⟩
        exact ((HBw.out.setCell (p := ⟨w.heap.size + 1, 0, none⟩) (Nat.le_succ _) _).setCell (p := ⟨w.heap.size + 1, 1, none⟩) (Nat.le_succ _) _).setCell (p := ⟨w.heap.size + 1, 2, none⟩) (Nat.le_succ _) _
end Go.Proofs.Ytdamdjhnhkmncaa
