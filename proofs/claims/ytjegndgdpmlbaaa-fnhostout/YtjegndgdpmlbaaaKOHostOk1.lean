/-
  What the given HostOk does: the whole.
-/
import Derived.Test.YtjegndgdpmlbaaaKOI
import Derived.Test.YtjegndgdpmlbaaaKOHB
import Derived.Deep.RegionHeld3
set_option linter.unusedSimpArgs false
namespace Go.Proofs.Ytjegndgdpmlbaaa
open Go.RowKit

set_option maxHeartbeats 4000000 in
theorem hostOk_core (lo hi : Nat) (af ag : Option Addr) (lf cf n cg : Nat) (h : Hst) (w : World) (hlf : h.frames.length = lf) (hF : IsMem w lo hi af lf h.frames) (hn : h.guests.length = n) (hG : IsGuests w lo hi ag n h.guests) (hh : hi ≤ w.heap.size) (hS : SmallH h) :
    Calls Try.prog 19 #[.agg #[.slice af lf cf, .slice ag n cg, .int .i64 h.hand]] w fun e w' => e = .returned (.bool (okHost h)) ∧ Below w.heap.size w w' := by
  obtain ⟨S1, S2, S3, S4⟩ := hS
  rw [hlf] at S1 S2
  rw [hn] at S3 S4
  obtain ⟨W, hW⟩ : ∃ W, W = w.alloc (.cells #[.slice af lf cf, .slice ag n cg, .int .i64 h.hand] 26) := ⟨_, rfl⟩
  have B0 : Below w.heap.size w W := by rw [hW]; exact (Below.refl _ _).alloc (Nat.le_refl _) _
  have sW : W.heap.size = w.heap.size + 1 := by rw [hW]; simp
  have hF0 := hF.same (below_sameIn B0 hh)
  have hG0 := hG.same (below_sameIn B0 hh)
  have hMk := specMemOk lo hi af lf cf h.frames W hF0 S1 S2
  have hI1 := specIn n 1 2
  have hI2 := specIn h.hand 0 7
  have c0 : W.cell? ⟨w.heap.size, 0, none⟩ = some (.slice af lf cf) := by rw [hW]; simp
  have c1 : W.cell? ⟨w.heap.size, 1, none⟩ = some (.slice ag n cg) := by rw [hW]; simp
  have c2 : W.cell? ⟨w.heap.size, 2, none⟩ = some (.int .i64 h.hand) := by rw [hW]; simp
  have hwW : w.heap.size < W.heap.size := by omega
  cases h0 : okHost0 h
  · rw [show okHost h = false by rw [okHost, h0]; rfl]
    have hno : okM h.frames = false ∨ (okM h.frames = true ∧ ((lf : Int) == 8) = false) ∨ (okM h.frames = true ∧ lf = 8 ∧ (decide ((1 : Int) ≤ n) && decide ((n : Int) ≤ 2)) = false) ∨ (okM h.frames = true ∧ lf = 8 ∧ (decide ((1 : Int) ≤ n) && decide ((n : Int) ≤ 2)) = true ∧ (decide (0 ≤ h.hand) && decide (h.hand ≤ 7)) = false) := by
      unfold okHost0 at h0
      rw [hlf, hn] at h0
      cases k1 : okM h.frames
      · exact Or.inl rfl
      · right
        by_cases k2 : lf = 8
        · right
          cases k3 : (decide ((1 : Int) ≤ n) && decide ((n : Int) ≤ 2))
          · exact Or.inl ⟨rfl, k2, rfl⟩
          · refine Or.inr ⟨rfl, k2, rfl, ?_⟩
            have k3' : (decide (1 ≤ n) && decide (n ≤ 2)) = true := by simp at k3 ⊢; omega
            rw [k1, k2, k3'] at h0
            simpa using h0
        · left
          refine ⟨rfl, ?_⟩
          simp
          omega
    clear h0
    rcases hno with k1 | ⟨k1, k2⟩ | ⟨k1, k2, k3⟩ | ⟨k1, k2, k3, k4⟩
    · rw [k1] at hMk
      go_enter Try.func19, Try.ntmps19
      go_wp2_with (fail)
      rw [← hW]
      clear hW
      refine hMk.mono ?_
      rintro e w1 ⟨rfl, rfl⟩
      go_wp2
      go_ret
      exact ⟨rfl, B0⟩
    · rw [k1] at hMk
      have k2a : ((lf : Int) != 8) = true := by rw [bne, k2]; rfl
      go_enter Try.func19, Try.ntmps19
      go_wp2_with (fail)
      rw [← hW]
      clear hW
      refine hMk.mono ?_
      rintro e w1 ⟨rfl, rfl⟩
      go_wp2
      go_ret
      exact ⟨rfl, B0⟩
    · rw [k1] at hMk
      rw [k3] at hI1
      subst k2
      go_enter Try.func19, Try.ntmps19
      go_wp2_with (fail)
      rw [← hW]
      clear hW
      refine hMk.mono ?_
      rintro e w1 ⟨rfl, rfl⟩
      go_wp2_with (fail)
      refine (hI1 _).mono ?_
      rintro e w2 ⟨rfl, rfl⟩
      go_wp2
      go_ret
      exact ⟨rfl, B0⟩
    · rw [k1] at hMk
      rw [k3] at hI1
      rw [k4] at hI2
      subst k2
      go_enter Try.func19, Try.ntmps19
      go_wp2_with (fail)
      rw [← hW]
      clear hW
      refine hMk.mono ?_
      rintro e w1 ⟨rfl, rfl⟩
      go_wp2_with (fail)
      refine (hI1 _).mono ?_
      rintro e w2 ⟨rfl, rfl⟩
      go_wp2_with (fail)
      refine (hI2 _).mono ?_
      rintro e w3 ⟨rfl, rfl⟩
      go_wp2
      go_ret
      exact ⟨rfl, B0⟩
  · have hyes : okM h.frames = true ∧ lf = 8 ∧ (decide ((1 : Int) ≤ n) && decide ((n : Int) ≤ 2)) = true ∧ (decide (0 ≤ h.hand) && decide (h.hand ≤ 7)) = true ∧ n ≤ 2 := by
      unfold okHost0 at h0
      rw [hlf, hn] at h0
      simp only [Bool.and_eq_true, beq_iff_eq, decide_eq_true_eq] at h0 ⊢
      obtain ⟨a1, a2, ⟨a3, a4⟩, a5, a6⟩ := h0
      exact ⟨a1, a2, ⟨by omega, by omega⟩, ⟨a5, a6⟩, a4⟩
    obtain ⟨k1, k2, k3, k4, hn2⟩ := hyes
    have hO : okHost h = (h.guests.all okGuest0 && h.guests.all (okGuest h)) := by rw [okHost, h0]; rfl
    rw [hO]
    rw [k1] at hMk
    rw [k3] at hI1
    rw [k4] at hI2
    subst k2
    clear h0 hO k1 k3 k4
    go_enter Try.func19, Try.ntmps19
    go_wp2_with (fail)
    rw [← hW]
    clear hW
    refine hMk.mono ?_
    rintro e w1 ⟨rfl, rfl⟩
    go_wp2_with (fail)
    refine (hI1 _).mono ?_
    rintro e w2 ⟨rfl, rfl⟩
    go_wp2_with (fail)
    refine (hI2 _).mono ?_
    rintro e w3 ⟨rfl, rfl⟩
    go_wp2
    go_loopw [3, 4] (fun g _ wr => ∃ k : Nat, k ≤ n ∧ g = .int .i64 k ∧ Hid ((h.guests.take k).all okGuest0 = true) ∧ Below w3.heap.size w3 wr) (fun g _ _ => n - (intOf g).toNat)
    case atStart => exact ⟨0, Nat.zero_le _, rfl, rfl, Below.refl _ _⟩
    case round =>
      obtain ⟨k, hk, rfl, hA, hB⟩ := hrel
      by_cases hkl : k < n
      · have hG1 := hG0.same (below_sameIn hB (by omega))
        obtain ⟨b, o, am, cm, ad, cd, aS, cs, rfl, hb1, hb2, q1, q2, q3, hM, hD, hSh⟩ := hG1.get hkl
        have hki : (k : Int) < (n : Int) := by omega
        have d1 := (hB.cell (p := ⟨w.heap.size, 1, none⟩) hwW).trans c1
        have hbw : b < wr.heap.size := by have := hB.size; omega
        have hlt : k < h.guests.length := by omega
        have hgd : h.guests.getD k noG = h.guests[k] := getD_lt hlt
        obtain ⟨m1, m2, m3, m4⟩ := S4 k hkl
        have hsB := hB.size
        have hB0 := B0.trans (hB.mono B0.size)
        have hsB0 := hB0.size
        have hOG : okGuest0 (h.guests.getD k noG) = ((((h.guests.getD k noG).maps.length == 6) && (((h.guests.getD k noG).shades.length == 6) && guestB (h.guests.getD k noG).disk))) := rfl
        have hNo : okGuest0 (h.guests.getD k noG) = false → h.guests.all okGuest0 = false := fun e => all_no hlt (by rw [← hgd]; exact e)
        have hYes : okGuest0 (h.guests.getD k noG) = true → (h.guests.take (k + 1)).all okGuest0 = true := fun e => all_more hlt hA.out (by rw [← hgd]; exact e)
        have HGu := specGuestB lo hi ad _ cd (h.guests.getD k noG).disk (wr.alloc (.cells #[.slice am (h.guests.getD k noG).maps.length cm, .slice ad (h.guests.getD k noG).disk.length cd, .slice aS (h.guests.getD k noG).shades.length cs] 39)) (hD.same (below_sameIn ((Below.refl wr.heap.size wr).alloc (Nat.le_refl _) _) (by omega))) m3 m4
        clear hgd hM hD hSh hG1 hA
        generalize (h.guests.getD k noG).maps.length = lm at q1 m1 hOG HGu
        generalize (h.guests.getD k noG).shades.length = ls at q3 m2 hOG HGu
        generalize hdl : (h.guests.getD k noG).disk.length = ld at q2 m3 m4 HGu
        clear hdl m4
        by_cases hlm : lm = 6
        · subst hlm
          by_cases hls : ls = 6
          · subst hls
            cases hgu : guestB (h.guests.getD k noG).disk
            · have HF : Hid ((h.guests.all okGuest0 && h.guests.all (okGuest h)) = false) := by rw [Hid, hNo (by rw [hOG, hgu]; rfl)]; rfl
              rw [hgu] at HGu
              clear hNo hYes hOG hgu
              go_wp2_with (fail)
              refine HGu.mono ?_
              rintro e w5 ⟨rfl, rfl⟩
              go_wp2
              go_ret
              refine ⟨by rw [HF.out]; rfl, ?_⟩
              (repeat' (with_reducible (first | exact Below.refl _ _ | apply Below.setCell | apply Below.alloc | apply below_drewN | apply Below.drew | refine Below.trans ?_ (Below.mono (by assumption) ?_)))) <;> (first | exact Nat.le_refl _ | (simp; done) | (simp; omega) | (simp at *; omega))
            · have HY : Hid ((h.guests.take (k + 1)).all okGuest0 = true) := hYes (by rw [hOG, hgu]; rfl)
              rw [hgu] at HGu
              clear hNo hYes hOG hgu
              go_wp2_with (fail)
              refine HGu.mono ?_
              rintro e w5 ⟨rfl, rfl⟩
              go_wp2
              go_roundw
              case rel => exact ⟨k + 1, by omega, by go_num, HY, hB.alloc hsB _⟩
              case measure => simp [intOf]; omega
          · have hls1 : ((ls : Int) != 6) = true := by simp; omega
            have hls2 : ((ls : Int) == 6) = false := by simp; omega
            have HF : Hid ((h.guests.all okGuest0 && h.guests.all (okGuest h)) = false) := by rw [Hid, hNo (by rw [hOG, show (ls == 6) = false by simpa using hls]; rfl)]; rfl
            clear hNo hYes hOG HGu
            go_wp2
            go_ret
            refine ⟨by rw [HF.out]; rfl, ?_⟩
            (repeat' (with_reducible (first | exact Below.refl _ _ | apply Below.setCell | apply Below.alloc | apply below_drewN | apply Below.drew | refine Below.trans ?_ (Below.mono (by assumption) ?_)))) <;> (first | exact Nat.le_refl _ | (simp; done) | (simp; omega) | (simp at *; omega))
        · have hlm1 : ((lm : Int) != 6) = true := by simp; omega
          have hlm2 : ((lm : Int) == 6) = false := by simp; omega
          have HF : Hid ((h.guests.all okGuest0 && h.guests.all (okGuest h)) = false) := by rw [Hid, hNo (by rw [hOG, show (lm == 6) = false by simpa using hlm]; rfl)]; rfl
          clear hNo hYes hOG HGu
          go_wp2
          go_ret
          refine ⟨by rw [HF.out]; rfl, ?_⟩
          (repeat' (with_reducible (first | exact Below.refl _ _ | apply Below.setCell | apply Below.alloc | apply below_drewN | apply Below.drew | refine Below.trans ?_ (Below.mono (by assumption) ?_)))) <;> (first | exact Nat.le_refl _ | (simp; done) | (simp; omega) | (simp at *; omega))
      · have hAll : h.guests.all okGuest0 = true := by
          have := hA.out
          rwa [List.take_of_length_le (by omega)] at this
        have hEach : ∀ i, i < n → okGuest0 (h.guests.getD i noG) = true := fun i hi => by
          rw [List.all_eq_true] at hAll
          rw [getD_lt (by omega)]
          exact hAll _ (List.getElem_mem _)
        have HAll : Hid (h.guests.all okGuest0 = true) := hAll
        obtain rfl : k = n := by omega
        clear hA hAll
        have d1 := (hB.cell (p := ⟨w.heap.size, 1, none⟩) hwW).trans c1
        have hm6 : ∀ i, i < k → (h.guests.getD i noG).maps.length ≤ 1000 := fun i hi => by
          have := hEach i hi
          unfold okGuest0 at this
          simp only [Bool.and_eq_true, beq_iff_eq] at this
          have := this.1
          omega
        go_wp2
        go_loopw [5, 6, 7] (fun g _ _ wq => ∃ j : Nat, j ≤ k ∧ g = .int .i64 j ∧ Hid ((h.guests.take j).all (okGuest h) = true) ∧ Below w3.heap.size w3 wq) (fun g _ _ _ => k - (intOf g).toNat)
        case atStart => exact ⟨0, Nat.zero_le _, rfl, rfl, hB⟩
        case round =>
          clear hB d1
          obtain ⟨j, hj, rfl, hA, hB⟩ := hrel
          by_cases hjl : j < k
          · have hG1 := hG0.same (below_sameIn hB (by omega))
            obtain ⟨b, o, am, cm, ad, cd, aS, cs, hag, hb1, hb2, q1, q2, q3, hM, hD, hSh⟩ := hG1.get hjl
            have hki : (j : Int) < (k : Int) := by omega
            have d0 := (hB.cell (p := ⟨w.heap.size, 0, none⟩) hwW).trans c0
            have d1 := (hB.cell (p := ⟨w.heap.size, 1, none⟩) hwW).trans c1
            have d2 := (hB.cell (p := ⟨w.heap.size, 2, none⟩) hwW).trans c2
            have hsB := hB.size
            have hbw : b < wr.heap.size := by omega
            have hlt : j < h.guests.length := by omega
            have hgd : h.guests.getD j noG = h.guests[j] := getD_lt hlt
            have he := hEach j hjl
            have hB0 := B0.trans (hB.mono B0.size)
            have hNo : okGuest h (h.guests.getD j noG) = false → h.guests.all (okGuest h) = false := fun e => all_no hlt (by rw [← hgd]; exact e)
            have hYes : okGuest h (h.guests.getD j noG) = true → (h.guests.take (j + 1)).all (okGuest h) = true := fun e => all_more hlt hA.out (by rw [← hgd]; exact e)
            clear hgd hA
            generalize h.guests.getD j noG = g at q1 q2 q3 hM hD hSh he hNo hYes
            have hl3 : g.maps.length = 6 ∧ g.shades.length = 6 ∧ okM g.disk = true ∧ g.disk.length = 6 := by simpa [okGuest0] using he
            obtain ⟨lm, ls, ok, ld⟩ := hl3
            rw [lm] at q1 hM
            rw [ls] at q3 hSh
            rw [ld] at q2 hD
            have HNo : Hid (okGuest h g = false → h.guests.all (okGuest h) = false) := hNo
            have HYes : Hid (okGuest h g = true → (h.guests.take (j + 1)).all (okGuest h) = true) := hYes
            clear he hNo hYes
            have hwr : w.heap.size < wr.heap.size := by omega
            subst hag
            obtain ⟨V, hV⟩ : ∃ V, V = wr.alloc (.cells #[.slice am 6 cm, .slice ad 6 cd, .slice aS 6 cs] 39) := ⟨_, rfl⟩
            have BV : Below wr.heap.size wr V := by rw [hV]; exact (Below.refl _ _).alloc (Nat.le_refl _) _
            have x0 : V.cell? ⟨wr.heap.size, 0, none⟩ = some (.slice am 6 cm) := by rw [hV]; simp
            have x1 : V.cell? ⟨wr.heap.size, 1, none⟩ = some (.slice ad 6 cd) := by rw [hV]; simp
            have x2 : V.cell? ⟨wr.heap.size, 2, none⟩ = some (.slice aS 6 cs) := by rw [hV]; simp
            have sV : V.heap.size = wr.heap.size + 1 := by rw [hV]; simp
            have hBV : Below w3.heap.size w3 V := hB.trans (BV.mono hsB)
            have hGV := hG0.same (below_sameIn hBV (by omega))
            have hMV := hM.same (below_sameIn BV (by omega))
            have hDV := hD.same (below_sameIn BV (by omega))
            have hSV := hSh.same (below_sameIn BV (by omega))
            have v0 := (BV.cell (p := ⟨w.heap.size, 0, none⟩) hwr).trans d0
            have v1 := (BV.cell (p := ⟨w.heap.size, 1, none⟩) hwr).trans d1
            have v2 := (BV.cell (p := ⟨w.heap.size, 2, none⟩) hwr).trans d2
            have hXV : wr.heap.size < V.heap.size := by omega
            have hwV : w.heap.size < V.heap.size := by omega
            have hB0V := B0.trans (hBV.mono B0.size)
            clear hM hD hSh hG1
            go_wp2
            rw [← hV]
            have hBX : Below w3.heap.size w3 wr := hB
            clear hV BV hB hB0 d0 d1 d2 q1 q2 q3 hsB hbw
            generalize wr.heap.size = X at x0 x1 x2 hXV sV hwr
            go_loopw [7] (fun p wq => ∃ i : Nat, i ≤ 6 ∧ p = .int .i64 i ∧ Hid (∀ r, r < i → (okMap h (g.maps.getD r noM) (g.disk.getD r []) && okShade g (g.shades.getD r noS)) = true) ∧ Below V.heap.size V wq) (fun p _ => 6 - (intOf p).toNat)
            case atStart => exact ⟨0, Nat.zero_le _, rfl, fun r hr => by omega, Below.refl _ _⟩
            case round =>
              obtain ⟨i, hi6, rfl, hUp, hQ⟩ := hrel
              by_cases hil : i < 6
              · have hii : (i : Int) < 6 := by omega
                obtain ⟨bm, om, ham, hbm1, hbm2, r0, r1, r2⟩ := hMV.get hil
                obtain ⟨bS, oS, haS, hbS1, hbS2, t0, t1, t2, t3⟩ := hSV.get hil
                obtain ⟨bd, od, ap, lp, cp, had, hbd1, hbd2, u0, hPg⟩ := hDV.get hil
                have hlp : lp ≤ 1048576 := by
                  have := (okM_get ok (k := i) (by omega)).1
                  rw [hPg.1] at this
                  omega
                have HNext : Hid ((okMap h (g.maps.getD i noM) (g.disk.getD i []) && okShade g (g.shades.getD i noS)) = true → ∀ r, r < i + 1 → (okMap h (g.maps.getD r noM) (g.disk.getD r []) && okShade g (g.shades.getD r noS)) = true) := fun e r hr => by
                  by_cases hri : r = i
                  · subst hri; exact e
                  · exact hUp.out r (by omega)
                have HStop : Hid ((okMap h (g.maps.getD i noM) (g.disk.getD i []) && okShade g (g.shades.getD i noS)) = false → (h.guests.all okGuest0 && h.guests.all (okGuest h)) = false) := fun e => by
                  rw [HNo.out (by rw [okGuest]; exact all_no (k := i) (by simpa using hil) (by simpa using e))]
                  simp
                clear hUp
                generalize g.maps.getD i noM = mm at r0 r1 r2 HNext HStop
                generalize g.shades.getD i noS = ss at t0 t1 t2 t3 HNext HStop
                generalize g.disk.getD i [] = zs at hPg HNext HStop
                obtain ⟨mi, mf, mw⟩ := mm
                obtain ⟨sh, sp, sf, sw⟩ := ss
                simp only at r0 r1 r2 t0 t1 t2 t3
                subst ham haS had
                obtain ⟨S, hSE⟩ : ∃ S : World → Prop, S = fun W' => Below V.heap.size V W' := ⟨_, rfl⟩
                have hcells : ∀ W', S W' → W'.cell? ⟨w.heap.size, 0, none⟩ = some (.slice af 8 cf) ∧ W'.cell? ⟨w.heap.size, 1, none⟩ = some (.slice (some ⟨b, o, none⟩) k cg) ∧ W'.cell? ⟨w.heap.size, 2, none⟩ = some (.int .i64 h.hand) ∧ W'.cell? ⟨X, 0, none⟩ = some (.slice (some ⟨bm, om, none⟩) 6 cm) ∧ W'.cell? ⟨X, 1, none⟩ = some (.slice (some ⟨bd, od, none⟩) 6 cd) ∧ W'.cell? ⟨X, 2, none⟩ = some (.slice (some ⟨bS, oS, none⟩) 6 cs) ∧ W'.cell? ⟨bm, om + i * 3, none⟩ = some (.bool mi) ∧ W'.cell? ⟨bm, om + i * 3 + 1, none⟩ = some (.int .i64 mf) ∧ W'.cell? ⟨bm, om + i * 3 + 2, none⟩ = some (.bool mw) ∧ W'.cell? ⟨bd, od + i, none⟩ = some (.slice ap lp cp) ∧ W'.cell? ⟨bS, oS + i * 4, none⟩ = some (.bool sh) ∧ W'.cell? ⟨bS, oS + i * 4 + 1, none⟩ = some (.int .i64 sp) ∧ W'.cell? ⟨bS, oS + i * 4 + 2, none⟩ = some (.int .i64 sf) ∧ W'.cell? ⟨bS, oS + i * 4 + 3, none⟩ = some (.bool sw) := fun W' B => by
                  rw [hSE] at B
                  exact ⟨(B.cell (p := ⟨w.heap.size, 0, none⟩) (show w.heap.size < V.heap.size by omega)).trans v0, (B.cell (p := ⟨w.heap.size, 1, none⟩) (show w.heap.size < V.heap.size by omega)).trans v1, (B.cell (p := ⟨w.heap.size, 2, none⟩) (show w.heap.size < V.heap.size by omega)).trans v2, (B.cell (p := ⟨X, 0, none⟩) (show X < V.heap.size by omega)).trans x0, (B.cell (p := ⟨X, 1, none⟩) (show X < V.heap.size by omega)).trans x1, (B.cell (p := ⟨X, 2, none⟩) (show X < V.heap.size by omega)).trans x2, (B.cell (p := ⟨bm, om + i * 3, none⟩) (show bm < V.heap.size by omega)).trans r0, (B.cell (p := ⟨bm, om + i * 3 + 1, none⟩) (show bm < V.heap.size by omega)).trans r1, (B.cell (p := ⟨bm, om + i * 3 + 2, none⟩) (show bm < V.heap.size by omega)).trans r2, (B.cell (p := ⟨bd, od + i, none⟩) (show bd < V.heap.size by omega)).trans u0, (B.cell (p := ⟨bS, oS + i * 4, none⟩) (show bS < V.heap.size by omega)).trans t0, (B.cell (p := ⟨bS, oS + i * 4 + 1, none⟩) (show bS < V.heap.size by omega)).trans t1, (B.cell (p := ⟨bS, oS + i * 4 + 2, none⟩) (show bS < V.heap.size by omega)).trans t2, (B.cell (p := ⟨bS, oS + i * 4 + 3, none⟩) (show bS < V.heap.size by omega)).trans t3⟩
                have hSd : ∀ W', S W' → S W'.drew := fun W' B => by rw [hSE] at B ⊢; exact B.drew
                have hS0 : S wr := by rw [hSE]; exact hQ
                have hC1 : ∀ W', S W' → Calls Try.prog 51 #[.agg #[.slice af 8 cf, .slice (some ⟨b, o, none⟩) k cg, .int .i64 h.hand], .agg #[.bool mi, .int .i64 mf, .bool mw], .slice ap lp cp] W' fun e w' => e = .returned (.bool (okMap h (mi, mf, mw) zs)) ∧ S w' := fun W' B => by
                  rw [hSE] at B ⊢
                  have sml := below_sameIn (lo := lo) (hi := hi) B (by omega)
                  have sB := B.size
                  refine (specMapOk lo hi af _ ap 8 cf k cg lp cp h mi mf mw zs W' hn (hGV.same sml) (hPg.same sml) (by omega) (by omega) hm6 hlp).mono ?_
                  rintro e w' ⟨rfl, B'⟩
                  exact ⟨rfl, B.trans (B'.mono sB)⟩
                have hC2 : ∀ W', S W' → Calls Try.prog 52 #[.agg #[.slice (some ⟨bm, om, none⟩) 6 cm, .slice (some ⟨bd, od, none⟩) 6 cd, .slice (some ⟨bS, oS, none⟩) 6 cs], .agg #[.bool sh, .int .i64 sp, .int .i64 sf, .bool sw]] W' fun e w' => e = .returned (.bool (okShade g (sh, sp, sf, sw))) ∧ S w' := fun W' B => by
                  rw [hSE] at B ⊢
                  have sml := below_sameIn (lo := lo) (hi := hi) B (by omega)
                  have sB := B.size
                  refine (specShadeOk lo hi _ _ _ cm 6 cd 6 cs g sh sp sf sw W' (hMV.same sml) (by omega)).mono ?_
                  rintro e w' ⟨rfl, B'⟩
                  exact ⟨rfl, B.trans (B'.mono sB)⟩
                have HEnd : Hid (∀ W', S W' → Below w.heap.size w W' ∧ Below V.heap.size V W') := fun W' B => by
                  rw [hSE] at B
                  exact ⟨hB0V.trans (B.mono hB0V.size), B⟩
                clear hSE hPg hGV hMV hDV hSV hQ v0 v1 v2 x0 x1 x2 r0 r1 r2 t0 t1 t2 t3 u0 hG0 hF0 hF hG S2 S4 hEach hm6 c0 c1 c2 hMk hI1 hI2 lm ls ok ld hlp hbm1 hbm2 hbS1 hbS2 hbd1 hbd2 hb1 hb2
                cases e1 : okMap h (mi, mf, mw) zs
                · rw [e1] at hC1
                  have HF : Hid ((h.guests.all okGuest0 && h.guests.all (okGuest h)) = false) := HStop.out (by rw [e1]; rfl)
                  clear HStop HNext HNo HYes HAll e1 hC2
                  go_wp2_with (fail)
                  refine wp_region_held_drew (S := S) (by kernel_rfl) (hSd _ hS0) (fun hHeld => ?_)
                  clear hS0
                  refine wpAnyH_take (i := 0) (v := ?_) (by simp only [List.getElem?_toArray, List.getElem?_cons_succ, List.getElem?_cons_zero]; rfl) (by kernel_rfl) (by kernel_rfl) (by kernel_rfl) (by exact fun _ _ _ h => h) (Or.inl ⟨by rfl, ?_⟩) hHeld ?_
                  rotate_left
                  · intro W' hW'; obtain ⟨y0, y1, y2, y3, y4, y5, y6, y7, y8, y9, y10, y11, y12, y13⟩ := hcells W' hW'; go_simp <;> with_reducible rfl
                  simp only [Act.put, List.setIfInBounds_toArray, List.set_cons_zero, List.set_cons_succ]
                  refine wpAnyH_take (i := 1) (v := ?_) (by simp only [List.getElem?_toArray, List.getElem?_cons_succ, List.getElem?_cons_zero]; rfl) (by kernel_rfl) (by kernel_rfl) (by kernel_rfl) (by exact fun _ _ _ h => h) (Or.inl ⟨by rfl, ?_⟩) hHeld ?_
                  rotate_left
                  · intro W' hW'; go_simp <;> with_reducible rfl
                  simp only [Act.put, List.setIfInBounds_toArray, List.set_cons_zero, List.set_cons_succ]
                  refine wpAnyH_take (i := 2) (v := ?_) (by simp only [List.getElem?_toArray, List.getElem?_cons_succ, List.getElem?_cons_zero]; rfl) (by kernel_rfl) (by kernel_rfl) (by kernel_rfl) (by exact fun _ _ _ h => h) (Or.inl ⟨by rfl, ?_⟩) hHeld ?_
                  rotate_left
                  · intro W' hW'; obtain ⟨y0, y1, y2, y3, y4, y5, y6, y7, y8, y9, y10, y11, y12, y13⟩ := hcells W' hW'; go_simp <;> with_reducible rfl
                  simp only [Act.put, List.setIfInBounds_toArray, List.set_cons_zero, List.set_cons_succ]
                  refine wpAnyH_take (i := 3) (v := ?_) (by simp only [List.getElem?_toArray, List.getElem?_cons_succ, List.getElem?_cons_zero]; rfl) (by kernel_rfl) (by kernel_rfl) (by kernel_rfl) (by exact fun _ _ _ h => h) (Or.inl ⟨by rfl, ?_⟩) hHeld ?_
                  rotate_left
                  · intro W' hW'; go_simp <;> with_reducible rfl
                  simp only [Act.put, List.setIfInBounds_toArray, List.set_cons_zero, List.set_cons_succ]
                  refine wpAnyH_take (i := 4) (v := ?_) (by simp only [List.getElem?_toArray, List.getElem?_cons_succ, List.getElem?_cons_zero]; rfl) (by kernel_rfl) (by kernel_rfl) (by kernel_rfl) (by exact fun _ _ _ h => h) (Or.inl ⟨by rfl, ?_⟩) hHeld ?_
                  rotate_left
                  · intro W' hW'; go_simp <;> with_reducible rfl
                  simp only [Act.put, List.setIfInBounds_toArray, List.set_cons_zero, List.set_cons_succ]
                  refine wpAnyH_take (i := 5) (v := ?_) (by simp only [List.getElem?_toArray, List.getElem?_cons_succ, List.getElem?_cons_zero]; rfl) (by kernel_rfl) (by kernel_rfl) (by kernel_rfl) (by exact fun _ _ _ h => h) (Or.inl ⟨by rfl, ?_⟩) hHeld ?_
                  rotate_left
                  · intro W' hW'; obtain ⟨y0, y1, y2, y3, y4, y5, y6, y7, y8, y9, y10, y11, y12, y13⟩ := hcells W' hW'; go_simp <;> with_reducible rfl
                  simp only [Act.put, List.setIfInBounds_toArray, List.set_cons_zero, List.set_cons_succ]
                  refine wpAnyH_take (i := 6) (v := ?_) (by simp only [List.getElem?_toArray, List.getElem?_cons_succ, List.getElem?_cons_zero]; rfl) (by kernel_rfl) (by kernel_rfl) (by kernel_rfl) (by exact fun _ _ _ h => h) (Or.inl ⟨by rfl, ?_⟩) hHeld ?_
                  rotate_left
                  · intro W' hW'; go_simp <;> with_reducible rfl
                  simp only [Act.put, List.setIfInBounds_toArray, List.set_cons_zero, List.set_cons_succ]
                  refine wpAnyH_take (i := 7) (v := ?_) (by simp only [List.getElem?_toArray, List.getElem?_cons_succ, List.getElem?_cons_zero]; rfl) (by kernel_rfl) (by kernel_rfl) (by kernel_rfl) (by exact fun _ _ _ h => h) (Or.inl ⟨by rfl, ?_⟩) hHeld ?_
                  rotate_left
                  · intro W' hW'; obtain ⟨y0, y1, y2, y3, y4, y5, y6, y7, y8, y9, y10, y11, y12, y13⟩ := hcells W' hW'; go_simp <;> with_reducible rfl
                  simp only [Act.put, List.setIfInBounds_toArray, List.set_cons_zero, List.set_cons_succ]
                  refine wpAnyH_take (i := 8) (v := ?_) (by simp only [List.getElem?_toArray, List.getElem?_cons_succ, List.getElem?_cons_zero]; rfl) (by kernel_rfl) (by kernel_rfl) (by kernel_rfl) (by exact fun _ _ _ h => h) (Or.inl ⟨by rfl, ?_⟩) hHeld ?_
                  rotate_left
                  · intro W' hW'; go_simp <;> with_reducible rfl
                  simp only [Act.put, List.setIfInBounds_toArray, List.set_cons_zero, List.set_cons_succ]
                  refine wpAnyH_take (i := 9) (v := ?_) (by simp only [List.getElem?_toArray, List.getElem?_cons_succ, List.getElem?_cons_zero]; rfl) (by kernel_rfl) (by kernel_rfl) (by kernel_rfl) (by exact fun _ _ _ h => h) (Or.inl ⟨by rfl, ?_⟩) hHeld ?_
                  rotate_left
                  · intro W' hW'; go_simp <;> with_reducible rfl
                  simp only [Act.put, List.setIfInBounds_toArray, List.set_cons_zero, List.set_cons_succ]
                  refine wpAnyH_take (i := 10) (v := ?_) (by simp only [List.getElem?_toArray, List.getElem?_cons_succ, List.getElem?_cons_zero]; rfl) (by kernel_rfl) (by kernel_rfl) (by kernel_rfl) (by exact fun _ _ _ h => h) (Or.inl ⟨by rfl, ?_⟩) hHeld ?_
                  rotate_left
                  · intro W' hW'; obtain ⟨y0, y1, y2, y3, y4, y5, y6, y7, y8, y9, y10, y11, y12, y13⟩ := hcells W' hW'; go_simp <;> with_reducible rfl
                  simp only [Act.put, List.setIfInBounds_toArray, List.set_cons_zero, List.set_cons_succ]
                  refine wpAnyH_ready (rs := [11]) (by kernel_rfl) (by simp) ?_
                  refine AllReadyH.cons (by simp only [List.getElem?_toArray, List.getElem?_cons_succ, List.getElem?_cons_zero]; rfl) (fun K hK => ?_) AllReadyH.nil
                  rw [if_pos (by rfl)]
                  go_simp
                  refine (hC1 _ hHeld).mono ?_
                  clear hHeld
                  rintro e W1 ⟨rfl, hS1⟩
                  try go_wp2_with (fail)
                  refine hK.out _ _ hS1 (fun hHeld => ?_)
                  clear hK K hS1
                  try simp only [Act.put, List.setIfInBounds_toArray, List.set_cons_zero, List.set_cons_succ]
                  refine wpAnyH_take (i := 12) (v := ?_) (by simp only [List.getElem?_toArray, List.getElem?_cons_succ, List.getElem?_cons_zero]; rfl) (by kernel_rfl) (by kernel_rfl) (by kernel_rfl) (by exact fun _ _ _ h => h) (Or.inl ⟨by rfl, ?_⟩) hHeld ?_
                  rotate_left
                  · intro W' hW'; go_simp <;> with_reducible rfl
                  simp only [Act.put, List.setIfInBounds_toArray, List.set_cons_zero, List.set_cons_succ]
                  refine wpAnyH_take (i := 13) (v := ?_) (by simp only [List.getElem?_toArray, List.getElem?_cons_succ, List.getElem?_cons_zero]; rfl) (by kernel_rfl) (by kernel_rfl) (by kernel_rfl) (by exact fun _ _ _ h => h) (Or.inl ⟨by rfl, ?_⟩) hHeld ?_
                  rotate_left
                  · intro W' hW'; go_simp <;> with_reducible rfl
                  simp only [Act.put, List.setIfInBounds_toArray, List.set_cons_zero, List.set_cons_succ]
                  refine wpAnyH_take (i := 14) (v := undef) (by simp only [List.getElem?_toArray, List.getElem?_cons_succ, List.getElem?_cons_zero]; rfl) (by kernel_rfl) (by kernel_rfl) (by kernel_rfl) (by exact fun _ _ _ h => h) (Or.inr ⟨by rfl, rfl⟩) hHeld ?_
                  simp only [Act.put, List.setIfInBounds_toArray, List.set_cons_zero, List.set_cons_succ]
                  refine wpAnyH_take (i := 15) (v := undef) (by simp only [List.getElem?_toArray, List.getElem?_cons_succ, List.getElem?_cons_zero]; rfl) (by kernel_rfl) (by kernel_rfl) (by kernel_rfl) (by exact fun _ _ _ h => h) (Or.inr ⟨by rfl, rfl⟩) hHeld ?_
                  simp only [Act.put, List.setIfInBounds_toArray, List.set_cons_zero, List.set_cons_succ]
                  refine wpAnyH_take (i := 16) (v := undef) (by simp only [List.getElem?_toArray, List.getElem?_cons_succ, List.getElem?_cons_zero]; rfl) (by kernel_rfl) (by kernel_rfl) (by kernel_rfl) (by exact fun _ _ _ h => h) (Or.inr ⟨by rfl, rfl⟩) hHeld ?_
                  simp only [Act.put, List.setIfInBounds_toArray, List.set_cons_zero, List.set_cons_succ]
                  refine wpAnyH_take (i := 17) (v := undef) (by simp only [List.getElem?_toArray, List.getElem?_cons_succ, List.getElem?_cons_zero]; rfl) (by kernel_rfl) (by kernel_rfl) (by kernel_rfl) (by exact fun _ _ _ h => h) (Or.inr ⟨by rfl, rfl⟩) hHeld ?_
                  simp only [Act.put, List.setIfInBounds_toArray, List.set_cons_zero, List.set_cons_succ]
                  refine wpAnyH_take (i := 18) (v := undef) (by simp only [List.getElem?_toArray, List.getElem?_cons_succ, List.getElem?_cons_zero]; rfl) (by kernel_rfl) (by kernel_rfl) (by kernel_rfl) (by exact fun _ _ _ h => h) (Or.inr ⟨by rfl, rfl⟩) hHeld ?_
                  simp only [Act.put, List.setIfInBounds_toArray, List.set_cons_zero, List.set_cons_succ]
                  refine wpAnyH_take (i := 19) (v := undef) (by simp only [List.getElem?_toArray, List.getElem?_cons_succ, List.getElem?_cons_zero]; rfl) (by kernel_rfl) (by kernel_rfl) (by kernel_rfl) (by exact fun _ _ _ h => h) (Or.inr ⟨by rfl, rfl⟩) hHeld ?_
                  simp only [Act.put, List.setIfInBounds_toArray, List.set_cons_zero, List.set_cons_succ]
                  refine wpAnyH_take (i := 20) (v := undef) (by simp only [List.getElem?_toArray, List.getElem?_cons_succ, List.getElem?_cons_zero]; rfl) (by kernel_rfl) (by kernel_rfl) (by kernel_rfl) (by exact fun _ _ _ h => h) (Or.inr ⟨by rfl, rfl⟩) hHeld ?_
                  simp only [Act.put, List.setIfInBounds_toArray, List.set_cons_zero, List.set_cons_succ]
                  refine wpAnyH_take (i := 21) (v := undef) (by simp only [List.getElem?_toArray, List.getElem?_cons_succ, List.getElem?_cons_zero]; rfl) (by kernel_rfl) (by kernel_rfl) (by kernel_rfl) (by exact fun _ _ _ h => h) (Or.inr ⟨by rfl, rfl⟩) hHeld ?_
                  simp only [Act.put, List.setIfInBounds_toArray, List.set_cons_zero, List.set_cons_succ]
                  refine wpAnyH_take (i := 22) (v := ?_) (by simp only [List.getElem?_toArray, List.getElem?_cons_succ, List.getElem?_cons_zero]; rfl) (by kernel_rfl) (by kernel_rfl) (by kernel_rfl) (by exact fun _ _ _ h => h) (Or.inl ⟨by rfl, ?_⟩) hHeld ?_
                  rotate_left
                  · intro W' hW'; go_simp <;> with_reducible rfl
                  simp only [Act.put, List.setIfInBounds_toArray, List.set_cons_zero, List.set_cons_succ]
                  refine wpAnyH_done (by kernel_rfl) ?_ _
                  go_wp2
                  go_ret
                  exact ⟨by rw [HF.out]; rfl, (HEnd.out _ hHeld).1⟩
                · rw [e1] at hC1 HNext HStop
                  simp only [Bool.true_and] at HNext HStop
                  cases e2 : okShade g (sh, sp, sf, sw)
                  · rw [e2] at hC2 HNext HStop
                    have HF : Hid ((h.guests.all okGuest0 && h.guests.all (okGuest h)) = false) := HStop.out rfl
                    clear HStop HNext HNo HYes HAll e1 e2
                    go_wp2_with (fail)
                    refine wp_region_held_drew (S := S) (by kernel_rfl) (hSd _ hS0) (fun hHeld => ?_)
                    clear hS0
                    refine wpAnyH_take (i := 0) (v := ?_) (by simp only [List.getElem?_toArray, List.getElem?_cons_succ, List.getElem?_cons_zero]; rfl) (by kernel_rfl) (by kernel_rfl) (by kernel_rfl) (by exact fun _ _ _ h => h) (Or.inl ⟨by rfl, ?_⟩) hHeld ?_
                    rotate_left
                    · intro W' hW'; obtain ⟨y0, y1, y2, y3, y4, y5, y6, y7, y8, y9, y10, y11, y12, y13⟩ := hcells W' hW'; go_simp <;> with_reducible rfl
                    simp only [Act.put, List.setIfInBounds_toArray, List.set_cons_zero, List.set_cons_succ]
                    refine wpAnyH_take (i := 1) (v := ?_) (by simp only [List.getElem?_toArray, List.getElem?_cons_succ, List.getElem?_cons_zero]; rfl) (by kernel_rfl) (by kernel_rfl) (by kernel_rfl) (by exact fun _ _ _ h => h) (Or.inl ⟨by rfl, ?_⟩) hHeld ?_
                    rotate_left
                    · intro W' hW'; go_simp <;> with_reducible rfl
                    simp only [Act.put, List.setIfInBounds_toArray, List.set_cons_zero, List.set_cons_succ]
                    refine wpAnyH_take (i := 2) (v := ?_) (by simp only [List.getElem?_toArray, List.getElem?_cons_succ, List.getElem?_cons_zero]; rfl) (by kernel_rfl) (by kernel_rfl) (by kernel_rfl) (by exact fun _ _ _ h => h) (Or.inl ⟨by rfl, ?_⟩) hHeld ?_
                    rotate_left
                    · intro W' hW'; obtain ⟨y0, y1, y2, y3, y4, y5, y6, y7, y8, y9, y10, y11, y12, y13⟩ := hcells W' hW'; go_simp <;> with_reducible rfl
                    simp only [Act.put, List.setIfInBounds_toArray, List.set_cons_zero, List.set_cons_succ]
                    refine wpAnyH_take (i := 3) (v := ?_) (by simp only [List.getElem?_toArray, List.getElem?_cons_succ, List.getElem?_cons_zero]; rfl) (by kernel_rfl) (by kernel_rfl) (by kernel_rfl) (by exact fun _ _ _ h => h) (Or.inl ⟨by rfl, ?_⟩) hHeld ?_
                    rotate_left
                    · intro W' hW'; go_simp <;> with_reducible rfl
                    simp only [Act.put, List.setIfInBounds_toArray, List.set_cons_zero, List.set_cons_succ]
                    refine wpAnyH_take (i := 4) (v := ?_) (by simp only [List.getElem?_toArray, List.getElem?_cons_succ, List.getElem?_cons_zero]; rfl) (by kernel_rfl) (by kernel_rfl) (by kernel_rfl) (by exact fun _ _ _ h => h) (Or.inl ⟨by rfl, ?_⟩) hHeld ?_
                    rotate_left
                    · intro W' hW'; go_simp <;> with_reducible rfl
                    simp only [Act.put, List.setIfInBounds_toArray, List.set_cons_zero, List.set_cons_succ]
                    refine wpAnyH_take (i := 5) (v := ?_) (by simp only [List.getElem?_toArray, List.getElem?_cons_succ, List.getElem?_cons_zero]; rfl) (by kernel_rfl) (by kernel_rfl) (by kernel_rfl) (by exact fun _ _ _ h => h) (Or.inl ⟨by rfl, ?_⟩) hHeld ?_
                    rotate_left
                    · intro W' hW'; obtain ⟨y0, y1, y2, y3, y4, y5, y6, y7, y8, y9, y10, y11, y12, y13⟩ := hcells W' hW'; go_simp <;> with_reducible rfl
                    simp only [Act.put, List.setIfInBounds_toArray, List.set_cons_zero, List.set_cons_succ]
                    refine wpAnyH_take (i := 6) (v := ?_) (by simp only [List.getElem?_toArray, List.getElem?_cons_succ, List.getElem?_cons_zero]; rfl) (by kernel_rfl) (by kernel_rfl) (by kernel_rfl) (by exact fun _ _ _ h => h) (Or.inl ⟨by rfl, ?_⟩) hHeld ?_
                    rotate_left
                    · intro W' hW'; go_simp <;> with_reducible rfl
                    simp only [Act.put, List.setIfInBounds_toArray, List.set_cons_zero, List.set_cons_succ]
                    refine wpAnyH_take (i := 7) (v := ?_) (by simp only [List.getElem?_toArray, List.getElem?_cons_succ, List.getElem?_cons_zero]; rfl) (by kernel_rfl) (by kernel_rfl) (by kernel_rfl) (by exact fun _ _ _ h => h) (Or.inl ⟨by rfl, ?_⟩) hHeld ?_
                    rotate_left
                    · intro W' hW'; obtain ⟨y0, y1, y2, y3, y4, y5, y6, y7, y8, y9, y10, y11, y12, y13⟩ := hcells W' hW'; go_simp <;> with_reducible rfl
                    simp only [Act.put, List.setIfInBounds_toArray, List.set_cons_zero, List.set_cons_succ]
                    refine wpAnyH_take (i := 8) (v := ?_) (by simp only [List.getElem?_toArray, List.getElem?_cons_succ, List.getElem?_cons_zero]; rfl) (by kernel_rfl) (by kernel_rfl) (by kernel_rfl) (by exact fun _ _ _ h => h) (Or.inl ⟨by rfl, ?_⟩) hHeld ?_
                    rotate_left
                    · intro W' hW'; go_simp <;> with_reducible rfl
                    simp only [Act.put, List.setIfInBounds_toArray, List.set_cons_zero, List.set_cons_succ]
                    refine wpAnyH_take (i := 9) (v := ?_) (by simp only [List.getElem?_toArray, List.getElem?_cons_succ, List.getElem?_cons_zero]; rfl) (by kernel_rfl) (by kernel_rfl) (by kernel_rfl) (by exact fun _ _ _ h => h) (Or.inl ⟨by rfl, ?_⟩) hHeld ?_
                    rotate_left
                    · intro W' hW'; go_simp <;> with_reducible rfl
                    simp only [Act.put, List.setIfInBounds_toArray, List.set_cons_zero, List.set_cons_succ]
                    refine wpAnyH_take (i := 10) (v := ?_) (by simp only [List.getElem?_toArray, List.getElem?_cons_succ, List.getElem?_cons_zero]; rfl) (by kernel_rfl) (by kernel_rfl) (by kernel_rfl) (by exact fun _ _ _ h => h) (Or.inl ⟨by rfl, ?_⟩) hHeld ?_
                    rotate_left
                    · intro W' hW'; obtain ⟨y0, y1, y2, y3, y4, y5, y6, y7, y8, y9, y10, y11, y12, y13⟩ := hcells W' hW'; go_simp <;> with_reducible rfl
                    simp only [Act.put, List.setIfInBounds_toArray, List.set_cons_zero, List.set_cons_succ]
                    refine wpAnyH_ready (rs := [11]) (by kernel_rfl) (by simp) ?_
                    refine AllReadyH.cons (by simp only [List.getElem?_toArray, List.getElem?_cons_succ, List.getElem?_cons_zero]; rfl) (fun K hK => ?_) AllReadyH.nil
                    rw [if_pos (by rfl)]
                    go_simp
                    refine (hC1 _ hHeld).mono ?_
                    clear hHeld
                    rintro e W1 ⟨rfl, hS1⟩
                    try go_wp2_with (fail)
                    refine hK.out _ _ hS1 (fun hHeld => ?_)
                    clear hK K hS1
                    try simp only [Act.put, List.setIfInBounds_toArray, List.set_cons_zero, List.set_cons_succ]
                    refine wpAnyH_take (i := 12) (v := ?_) (by simp only [List.getElem?_toArray, List.getElem?_cons_succ, List.getElem?_cons_zero]; rfl) (by kernel_rfl) (by kernel_rfl) (by kernel_rfl) (by exact fun _ _ _ h => h) (Or.inl ⟨by rfl, ?_⟩) hHeld ?_
                    rotate_left
                    · intro W' hW'; go_simp <;> with_reducible rfl
                    simp only [Act.put, List.setIfInBounds_toArray, List.set_cons_zero, List.set_cons_succ]
                    refine wpAnyH_take (i := 13) (v := ?_) (by simp only [List.getElem?_toArray, List.getElem?_cons_succ, List.getElem?_cons_zero]; rfl) (by kernel_rfl) (by kernel_rfl) (by kernel_rfl) (by exact fun _ _ _ h => h) (Or.inl ⟨by rfl, ?_⟩) hHeld ?_
                    rotate_left
                    · intro W' hW'; go_simp <;> with_reducible rfl
                    simp only [Act.put, List.setIfInBounds_toArray, List.set_cons_zero, List.set_cons_succ]
                    refine wpAnyH_take (i := 14) (v := ?_) (by simp only [List.getElem?_toArray, List.getElem?_cons_succ, List.getElem?_cons_zero]; rfl) (by kernel_rfl) (by kernel_rfl) (by kernel_rfl) (by exact fun _ _ _ h => h) (Or.inl ⟨by rfl, ?_⟩) hHeld ?_
                    rotate_left
                    · intro W' hW'; obtain ⟨y0, y1, y2, y3, y4, y5, y6, y7, y8, y9, y10, y11, y12, y13⟩ := hcells W' hW'; go_simp <;> with_reducible rfl
                    simp only [Act.put, List.setIfInBounds_toArray, List.set_cons_zero, List.set_cons_succ]
                    refine wpAnyH_take (i := 15) (v := ?_) (by simp only [List.getElem?_toArray, List.getElem?_cons_succ, List.getElem?_cons_zero]; rfl) (by kernel_rfl) (by kernel_rfl) (by kernel_rfl) (by exact fun _ _ _ h => h) (Or.inl ⟨by rfl, ?_⟩) hHeld ?_
                    rotate_left
                    · intro W' hW'; go_simp <;> with_reducible rfl
                    simp only [Act.put, List.setIfInBounds_toArray, List.set_cons_zero, List.set_cons_succ]
                    refine wpAnyH_take (i := 16) (v := ?_) (by simp only [List.getElem?_toArray, List.getElem?_cons_succ, List.getElem?_cons_zero]; rfl) (by kernel_rfl) (by kernel_rfl) (by kernel_rfl) (by exact fun _ _ _ h => h) (Or.inl ⟨by rfl, ?_⟩) hHeld ?_
                    rotate_left
                    · intro W' hW'; obtain ⟨y0, y1, y2, y3, y4, y5, y6, y7, y8, y9, y10, y11, y12, y13⟩ := hcells W' hW'; go_simp <;> with_reducible rfl
                    simp only [Act.put, List.setIfInBounds_toArray, List.set_cons_zero, List.set_cons_succ]
                    refine wpAnyH_take (i := 17) (v := ?_) (by simp only [List.getElem?_toArray, List.getElem?_cons_succ, List.getElem?_cons_zero]; rfl) (by kernel_rfl) (by kernel_rfl) (by kernel_rfl) (by exact fun _ _ _ h => h) (Or.inl ⟨by rfl, ?_⟩) hHeld ?_
                    rotate_left
                    · intro W' hW'; go_simp <;> with_reducible rfl
                    simp only [Act.put, List.setIfInBounds_toArray, List.set_cons_zero, List.set_cons_succ]
                    refine wpAnyH_take (i := 18) (v := ?_) (by simp only [List.getElem?_toArray, List.getElem?_cons_succ, List.getElem?_cons_zero]; rfl) (by kernel_rfl) (by kernel_rfl) (by kernel_rfl) (by exact fun _ _ _ h => h) (Or.inl ⟨by rfl, ?_⟩) hHeld ?_
                    rotate_left
                    · intro W' hW'; go_simp <;> with_reducible rfl
                    simp only [Act.put, List.setIfInBounds_toArray, List.set_cons_zero, List.set_cons_succ]
                    refine wpAnyH_take (i := 19) (v := ?_) (by simp only [List.getElem?_toArray, List.getElem?_cons_succ, List.getElem?_cons_zero]; rfl) (by kernel_rfl) (by kernel_rfl) (by kernel_rfl) (by exact fun _ _ _ h => h) (Or.inl ⟨by rfl, ?_⟩) hHeld ?_
                    rotate_left
                    · intro W' hW'; obtain ⟨y0, y1, y2, y3, y4, y5, y6, y7, y8, y9, y10, y11, y12, y13⟩ := hcells W' hW'; go_simp <;> with_reducible rfl
                    simp only [Act.put, List.setIfInBounds_toArray, List.set_cons_zero, List.set_cons_succ]
                    refine wpAnyH_ready (rs := [20]) (by kernel_rfl) (by simp) ?_
                    refine AllReadyH.cons (by simp only [List.getElem?_toArray, List.getElem?_cons_succ, List.getElem?_cons_zero]; rfl) (fun K hK => ?_) AllReadyH.nil
                    rw [if_pos (by rfl)]
                    go_simp
                    refine (hC2 _ hHeld).mono ?_
                    clear hHeld
                    rintro e W1 ⟨rfl, hS1⟩
                    try go_wp2_with (fail)
                    refine hK.out _ _ hS1 (fun hHeld => ?_)
                    clear hK K hS1
                    try simp only [Act.put, List.setIfInBounds_toArray, List.set_cons_zero, List.set_cons_succ]
                    refine wpAnyH_take (i := 21) (v := ?_) (by simp only [List.getElem?_toArray, List.getElem?_cons_succ, List.getElem?_cons_zero]; rfl) (by kernel_rfl) (by kernel_rfl) (by kernel_rfl) (by exact fun _ _ _ h => h) (Or.inl ⟨by rfl, ?_⟩) hHeld ?_
                    rotate_left
                    · intro W' hW'; go_simp <;> with_reducible rfl
                    simp only [Act.put, List.setIfInBounds_toArray, List.set_cons_zero, List.set_cons_succ]
                    refine wpAnyH_take (i := 22) (v := ?_) (by simp only [List.getElem?_toArray, List.getElem?_cons_succ, List.getElem?_cons_zero]; rfl) (by kernel_rfl) (by kernel_rfl) (by kernel_rfl) (by exact fun _ _ _ h => h) (Or.inl ⟨by rfl, ?_⟩) hHeld ?_
                    rotate_left
                    · intro W' hW'; go_simp <;> with_reducible rfl
                    simp only [Act.put, List.setIfInBounds_toArray, List.set_cons_zero, List.set_cons_succ]
                    refine wpAnyH_done (by kernel_rfl) ?_ _
                    go_wp2
                    go_ret
                    exact ⟨by rw [HF.out]; rfl, (HEnd.out _ hHeld).1⟩
                  · rw [e2] at hC2 HNext HStop
                    have HN : Hid (∀ r, r < i + 1 → (okMap h (g.maps.getD r noM) (g.disk.getD r []) && okShade g (g.shades.getD r noS)) = true) := HNext.out rfl
                    clear HStop HNext e1 e2
                    go_wp2_with (fail)
                    refine wp_region_held_drew (S := S) (by kernel_rfl) (hSd _ hS0) (fun hHeld => ?_)
                    clear hS0
                    refine wpAnyH_take (i := 0) (v := ?_) (by simp only [List.getElem?_toArray, List.getElem?_cons_succ, List.getElem?_cons_zero]; rfl) (by kernel_rfl) (by kernel_rfl) (by kernel_rfl) (by exact fun _ _ _ h => h) (Or.inl ⟨by rfl, ?_⟩) hHeld ?_
                    rotate_left
                    · intro W' hW'; obtain ⟨y0, y1, y2, y3, y4, y5, y6, y7, y8, y9, y10, y11, y12, y13⟩ := hcells W' hW'; go_simp <;> with_reducible rfl
                    simp only [Act.put, List.setIfInBounds_toArray, List.set_cons_zero, List.set_cons_succ]
                    refine wpAnyH_take (i := 1) (v := ?_) (by simp only [List.getElem?_toArray, List.getElem?_cons_succ, List.getElem?_cons_zero]; rfl) (by kernel_rfl) (by kernel_rfl) (by kernel_rfl) (by exact fun _ _ _ h => h) (Or.inl ⟨by rfl, ?_⟩) hHeld ?_
                    rotate_left
                    · intro W' hW'; go_simp <;> with_reducible rfl
                    simp only [Act.put, List.setIfInBounds_toArray, List.set_cons_zero, List.set_cons_succ]
                    refine wpAnyH_take (i := 2) (v := ?_) (by simp only [List.getElem?_toArray, List.getElem?_cons_succ, List.getElem?_cons_zero]; rfl) (by kernel_rfl) (by kernel_rfl) (by kernel_rfl) (by exact fun _ _ _ h => h) (Or.inl ⟨by rfl, ?_⟩) hHeld ?_
                    rotate_left
                    · intro W' hW'; obtain ⟨y0, y1, y2, y3, y4, y5, y6, y7, y8, y9, y10, y11, y12, y13⟩ := hcells W' hW'; go_simp <;> with_reducible rfl
                    simp only [Act.put, List.setIfInBounds_toArray, List.set_cons_zero, List.set_cons_succ]
                    refine wpAnyH_take (i := 3) (v := ?_) (by simp only [List.getElem?_toArray, List.getElem?_cons_succ, List.getElem?_cons_zero]; rfl) (by kernel_rfl) (by kernel_rfl) (by kernel_rfl) (by exact fun _ _ _ h => h) (Or.inl ⟨by rfl, ?_⟩) hHeld ?_
                    rotate_left
                    · intro W' hW'; go_simp <;> with_reducible rfl
                    simp only [Act.put, List.setIfInBounds_toArray, List.set_cons_zero, List.set_cons_succ]
                    refine wpAnyH_take (i := 4) (v := ?_) (by simp only [List.getElem?_toArray, List.getElem?_cons_succ, List.getElem?_cons_zero]; rfl) (by kernel_rfl) (by kernel_rfl) (by kernel_rfl) (by exact fun _ _ _ h => h) (Or.inl ⟨by rfl, ?_⟩) hHeld ?_
                    rotate_left
                    · intro W' hW'; go_simp <;> with_reducible rfl
                    simp only [Act.put, List.setIfInBounds_toArray, List.set_cons_zero, List.set_cons_succ]
                    refine wpAnyH_take (i := 5) (v := ?_) (by simp only [List.getElem?_toArray, List.getElem?_cons_succ, List.getElem?_cons_zero]; rfl) (by kernel_rfl) (by kernel_rfl) (by kernel_rfl) (by exact fun _ _ _ h => h) (Or.inl ⟨by rfl, ?_⟩) hHeld ?_
                    rotate_left
                    · intro W' hW'; obtain ⟨y0, y1, y2, y3, y4, y5, y6, y7, y8, y9, y10, y11, y12, y13⟩ := hcells W' hW'; go_simp <;> with_reducible rfl
                    simp only [Act.put, List.setIfInBounds_toArray, List.set_cons_zero, List.set_cons_succ]
                    refine wpAnyH_take (i := 6) (v := ?_) (by simp only [List.getElem?_toArray, List.getElem?_cons_succ, List.getElem?_cons_zero]; rfl) (by kernel_rfl) (by kernel_rfl) (by kernel_rfl) (by exact fun _ _ _ h => h) (Or.inl ⟨by rfl, ?_⟩) hHeld ?_
                    rotate_left
                    · intro W' hW'; go_simp <;> with_reducible rfl
                    simp only [Act.put, List.setIfInBounds_toArray, List.set_cons_zero, List.set_cons_succ]
                    refine wpAnyH_take (i := 7) (v := ?_) (by simp only [List.getElem?_toArray, List.getElem?_cons_succ, List.getElem?_cons_zero]; rfl) (by kernel_rfl) (by kernel_rfl) (by kernel_rfl) (by exact fun _ _ _ h => h) (Or.inl ⟨by rfl, ?_⟩) hHeld ?_
                    rotate_left
                    · intro W' hW'; obtain ⟨y0, y1, y2, y3, y4, y5, y6, y7, y8, y9, y10, y11, y12, y13⟩ := hcells W' hW'; go_simp <;> with_reducible rfl
                    simp only [Act.put, List.setIfInBounds_toArray, List.set_cons_zero, List.set_cons_succ]
                    refine wpAnyH_take (i := 8) (v := ?_) (by simp only [List.getElem?_toArray, List.getElem?_cons_succ, List.getElem?_cons_zero]; rfl) (by kernel_rfl) (by kernel_rfl) (by kernel_rfl) (by exact fun _ _ _ h => h) (Or.inl ⟨by rfl, ?_⟩) hHeld ?_
                    rotate_left
                    · intro W' hW'; go_simp <;> with_reducible rfl
                    simp only [Act.put, List.setIfInBounds_toArray, List.set_cons_zero, List.set_cons_succ]
                    refine wpAnyH_take (i := 9) (v := ?_) (by simp only [List.getElem?_toArray, List.getElem?_cons_succ, List.getElem?_cons_zero]; rfl) (by kernel_rfl) (by kernel_rfl) (by kernel_rfl) (by exact fun _ _ _ h => h) (Or.inl ⟨by rfl, ?_⟩) hHeld ?_
                    rotate_left
                    · intro W' hW'; go_simp <;> with_reducible rfl
                    simp only [Act.put, List.setIfInBounds_toArray, List.set_cons_zero, List.set_cons_succ]
                    refine wpAnyH_take (i := 10) (v := ?_) (by simp only [List.getElem?_toArray, List.getElem?_cons_succ, List.getElem?_cons_zero]; rfl) (by kernel_rfl) (by kernel_rfl) (by kernel_rfl) (by exact fun _ _ _ h => h) (Or.inl ⟨by rfl, ?_⟩) hHeld ?_
                    rotate_left
                    · intro W' hW'; obtain ⟨y0, y1, y2, y3, y4, y5, y6, y7, y8, y9, y10, y11, y12, y13⟩ := hcells W' hW'; go_simp <;> with_reducible rfl
                    simp only [Act.put, List.setIfInBounds_toArray, List.set_cons_zero, List.set_cons_succ]
                    refine wpAnyH_ready (rs := [11]) (by kernel_rfl) (by simp) ?_
                    refine AllReadyH.cons (by simp only [List.getElem?_toArray, List.getElem?_cons_succ, List.getElem?_cons_zero]; rfl) (fun K hK => ?_) AllReadyH.nil
                    rw [if_pos (by rfl)]
                    go_simp
                    refine (hC1 _ hHeld).mono ?_
                    clear hHeld
                    rintro e W1 ⟨rfl, hS1⟩
                    try go_wp2_with (fail)
                    refine hK.out _ _ hS1 (fun hHeld => ?_)
                    clear hK K hS1
                    try simp only [Act.put, List.setIfInBounds_toArray, List.set_cons_zero, List.set_cons_succ]
                    refine wpAnyH_take (i := 12) (v := ?_) (by simp only [List.getElem?_toArray, List.getElem?_cons_succ, List.getElem?_cons_zero]; rfl) (by kernel_rfl) (by kernel_rfl) (by kernel_rfl) (by exact fun _ _ _ h => h) (Or.inl ⟨by rfl, ?_⟩) hHeld ?_
                    rotate_left
                    · intro W' hW'; go_simp <;> with_reducible rfl
                    simp only [Act.put, List.setIfInBounds_toArray, List.set_cons_zero, List.set_cons_succ]
                    refine wpAnyH_take (i := 13) (v := ?_) (by simp only [List.getElem?_toArray, List.getElem?_cons_succ, List.getElem?_cons_zero]; rfl) (by kernel_rfl) (by kernel_rfl) (by kernel_rfl) (by exact fun _ _ _ h => h) (Or.inl ⟨by rfl, ?_⟩) hHeld ?_
                    rotate_left
                    · intro W' hW'; go_simp <;> with_reducible rfl
                    simp only [Act.put, List.setIfInBounds_toArray, List.set_cons_zero, List.set_cons_succ]
                    refine wpAnyH_take (i := 14) (v := ?_) (by simp only [List.getElem?_toArray, List.getElem?_cons_succ, List.getElem?_cons_zero]; rfl) (by kernel_rfl) (by kernel_rfl) (by kernel_rfl) (by exact fun _ _ _ h => h) (Or.inl ⟨by rfl, ?_⟩) hHeld ?_
                    rotate_left
                    · intro W' hW'; obtain ⟨y0, y1, y2, y3, y4, y5, y6, y7, y8, y9, y10, y11, y12, y13⟩ := hcells W' hW'; go_simp <;> with_reducible rfl
                    simp only [Act.put, List.setIfInBounds_toArray, List.set_cons_zero, List.set_cons_succ]
                    refine wpAnyH_take (i := 15) (v := ?_) (by simp only [List.getElem?_toArray, List.getElem?_cons_succ, List.getElem?_cons_zero]; rfl) (by kernel_rfl) (by kernel_rfl) (by kernel_rfl) (by exact fun _ _ _ h => h) (Or.inl ⟨by rfl, ?_⟩) hHeld ?_
                    rotate_left
                    · intro W' hW'; go_simp <;> with_reducible rfl
                    simp only [Act.put, List.setIfInBounds_toArray, List.set_cons_zero, List.set_cons_succ]
                    refine wpAnyH_take (i := 16) (v := ?_) (by simp only [List.getElem?_toArray, List.getElem?_cons_succ, List.getElem?_cons_zero]; rfl) (by kernel_rfl) (by kernel_rfl) (by kernel_rfl) (by exact fun _ _ _ h => h) (Or.inl ⟨by rfl, ?_⟩) hHeld ?_
                    rotate_left
                    · intro W' hW'; obtain ⟨y0, y1, y2, y3, y4, y5, y6, y7, y8, y9, y10, y11, y12, y13⟩ := hcells W' hW'; go_simp <;> with_reducible rfl
                    simp only [Act.put, List.setIfInBounds_toArray, List.set_cons_zero, List.set_cons_succ]
                    refine wpAnyH_take (i := 17) (v := ?_) (by simp only [List.getElem?_toArray, List.getElem?_cons_succ, List.getElem?_cons_zero]; rfl) (by kernel_rfl) (by kernel_rfl) (by kernel_rfl) (by exact fun _ _ _ h => h) (Or.inl ⟨by rfl, ?_⟩) hHeld ?_
                    rotate_left
                    · intro W' hW'; go_simp <;> with_reducible rfl
                    simp only [Act.put, List.setIfInBounds_toArray, List.set_cons_zero, List.set_cons_succ]
                    refine wpAnyH_take (i := 18) (v := ?_) (by simp only [List.getElem?_toArray, List.getElem?_cons_succ, List.getElem?_cons_zero]; rfl) (by kernel_rfl) (by kernel_rfl) (by kernel_rfl) (by exact fun _ _ _ h => h) (Or.inl ⟨by rfl, ?_⟩) hHeld ?_
                    rotate_left
                    · intro W' hW'; go_simp <;> with_reducible rfl
                    simp only [Act.put, List.setIfInBounds_toArray, List.set_cons_zero, List.set_cons_succ]
                    refine wpAnyH_take (i := 19) (v := ?_) (by simp only [List.getElem?_toArray, List.getElem?_cons_succ, List.getElem?_cons_zero]; rfl) (by kernel_rfl) (by kernel_rfl) (by kernel_rfl) (by exact fun _ _ _ h => h) (Or.inl ⟨by rfl, ?_⟩) hHeld ?_
                    rotate_left
                    · intro W' hW'; obtain ⟨y0, y1, y2, y3, y4, y5, y6, y7, y8, y9, y10, y11, y12, y13⟩ := hcells W' hW'; go_simp <;> with_reducible rfl
                    simp only [Act.put, List.setIfInBounds_toArray, List.set_cons_zero, List.set_cons_succ]
                    refine wpAnyH_ready (rs := [20]) (by kernel_rfl) (by simp) ?_
                    refine AllReadyH.cons (by simp only [List.getElem?_toArray, List.getElem?_cons_succ, List.getElem?_cons_zero]; rfl) (fun K hK => ?_) AllReadyH.nil
                    rw [if_pos (by rfl)]
                    go_simp
                    refine (hC2 _ hHeld).mono ?_
                    clear hHeld
                    rintro e W1 ⟨rfl, hS1⟩
                    try go_wp2_with (fail)
                    refine hK.out _ _ hS1 (fun hHeld => ?_)
                    clear hK K hS1
                    try simp only [Act.put, List.setIfInBounds_toArray, List.set_cons_zero, List.set_cons_succ]
                    refine wpAnyH_take (i := 21) (v := ?_) (by simp only [List.getElem?_toArray, List.getElem?_cons_succ, List.getElem?_cons_zero]; rfl) (by kernel_rfl) (by kernel_rfl) (by kernel_rfl) (by exact fun _ _ _ h => h) (Or.inl ⟨by rfl, ?_⟩) hHeld ?_
                    rotate_left
                    · intro W' hW'; go_simp <;> with_reducible rfl
                    simp only [Act.put, List.setIfInBounds_toArray, List.set_cons_zero, List.set_cons_succ]
                    refine wpAnyH_take (i := 22) (v := ?_) (by simp only [List.getElem?_toArray, List.getElem?_cons_succ, List.getElem?_cons_zero]; rfl) (by kernel_rfl) (by kernel_rfl) (by kernel_rfl) (by exact fun _ _ _ h => h) (Or.inl ⟨by rfl, ?_⟩) hHeld ?_
                    rotate_left
                    · intro W' hW'; go_simp <;> with_reducible rfl
                    simp only [Act.put, List.setIfInBounds_toArray, List.set_cons_zero, List.set_cons_succ]
                    refine wpAnyH_done (by kernel_rfl) ?_ _
                    go_wp2
                    go_roundw
                    case rel => exact ⟨i + 1, by omega, by go_num, HN, (HEnd.out _ hHeld).2⟩
                    case measure => simp [intOf]; omega
              · have hGd : okGuest h g = true := by
                  rw [okGuest, List.all_eq_true]
                  intro r hr
                  exact hUp.out r (by have := List.mem_range.1 hr; omega)
                have HY : Hid ((h.guests.take (j + 1)).all (okGuest h) = true) := HYes.out hGd
                have hBQ : Below w3.heap.size w3 wr := hBV.trans (hQ.mono hBV.size)
                clear hUp hGd
                go_wp2
                go_roundw
                case rel => exact ⟨j + 1, by omega, by go_num, HY, hBQ⟩
                case measure => simp [intOf]; omega
          · have HAl : Hid (h.guests.all (okGuest h) = true) := by
              have := hA.out
              rwa [List.take_of_length_le (by omega)] at this
            have d1 := (hB.cell (p := ⟨w.heap.size, 1, none⟩) hwW).trans c1
            have hB0 := B0.trans (hB.mono B0.size)
            clear hA
            go_wp2
            go_ret
            exact ⟨by rw [HAll.out, HAl.out]; rfl, hB0⟩
end Go.Proofs.Ytjegndgdpmlbaaa
