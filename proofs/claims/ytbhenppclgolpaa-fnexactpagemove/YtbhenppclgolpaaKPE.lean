/-
  What the program's own move does: what is in a frame moved to the first free one.
-/
import Derived.Test.YtbhenppclgolpaaKAD
import Derived.Test.YtbhenppclgolpaaKPD
set_option linter.unusedSimpArgs false
namespace Go.Proofs.Ytbhenppclgolpaa
open Go.RowKit
attribute [local go_sem ↓] Go.wp_at_zero Go.wp_at_succ exec_app exec_lod exec_house exec_mapsA exec_allocL exec_storeL exec_buildL exec_idxM exec_look exec_upd exec_allocH exec_buildH exec_storeH exec_bsL exec_storeQ exec_loadQ exec_idxQ
attribute [local go_sem] bigNext_ok bigSkip_ok

set_option maxRecDepth 100000 in
set_option maxHeartbeats 8000000 in
theorem implMoveI (B L c F : Nat) (h : Hst) (w : World) (hW : HouseW w B L c h) (k : OkH h) (hF : F < 8) :
    Calls Try.prog 78 #[.pointer (some ⟨B, 0, none⟩), .int .i64 F] w fun e w' => e = .returned (.bool (moveB h F)) ∧ HouseW w' B L c (moveH h F) ∧ Upd2 B L w w' := by
  have hgv := hW.give
  have hl2 := hW.2.2.2.2.2.2.2.1
  have lB := hW.2.2.2.2.2.2.2.2.1
  have lL := hW.2.2.2.2.2.2.2.2.2
  have hBL := hW.2.2.2.2.1
  have ht := implTenants L h.guests.length c h.frames h.hand h.guests w k.f8 rfl hl2 (fun i hi => (hW.lodAt hi).1) (okH_wf k) lL (fun i hi => (hW.lodAt hi).2.1)
  have hff := fun (W : World) (kS : HouseW W B L c h) => implFirstFree B L c h W kS (okH_wf k) (fun i hi => (k.six i hi).1)
  have Hten := hidE (ten_users h (F : Int) (fun i hi => (k.six i hi).1))
  have Hfc := hidE (firstH_cases h)
  have HmB := hidE (show moveB h F = (decide (0 ≤ firstH h) && decide (0 < usersH h F)) from rfl)
  have HmH := hidE (show moveH h F = bif moveB h F then moveP h F (firstH h).toNat else h from rfl)
  have HmP := hidE (fun T : Nat => (show moveP h F T = settleAll (fun g p => (true, (T : Int), (mAt h g p).2.2)) (setF h T (fAt h F)) (ten h.guests F) from rfl))
  have hmem := hidE (fun g p => mem_ten (h := h) (f := (F : Int)) (g := g) (p := p))
  obtain ⟨mb, hmb⟩ : ∃ mb, mb = moveB h F := ⟨_, rfl⟩
  obtain ⟨mh, hmh⟩ : ∃ mh, mh = moveH h F := ⟨_, rfl⟩
  rw [← hmb, ← hmh]
  rw [← hmb] at HmB HmH
  rw [← hmh] at HmH
  clear hmb hmh
  obtain ⟨fh, hfh⟩ : ∃ fh, fh = firstH h := ⟨_, rfl⟩
  rw [← hfh] at Hfc HmB HmH
  have hff := fun (W : World) (kS : HouseW W B L c h) => (show Calls Try.prog 125 #[.pointer (some ⟨B, 0, none⟩)] W fun e w' => ∃ x : Int, e = .returned (.tuple #[.int .i64 x, .bool (decide (0 ≤ fh))]) ∧ (0 ≤ fh → x = fh) ∧ Below W.heap.size W w' by rw [hfh]; exact hff W kS)
  clear hfh
  have hpl := plc_ten h F
  have hwF : (Lit.int .i64 (F : Int)).wf = true := wf_small (by omega) (by omega)
  have hl12 : (ten h.guests F).length ≤ 12 := by have := tenG_len h.guests h.guests.length F; show (tenG h.guests h.guests.length F).length ≤ 12; omega
  have HW := hidE hW
  clear hW
  generalize hhs : (houseC h.frames (.slice (some ⟨L, 0, none⟩) h.guests.length c) h.hand).toArray = hs at *
  go_enter Try.func78, Try.ntmps78
  go_wp2_with (fail)
  refine ht.mono ?_
  rintro e w2 ⟨r, rfl, hr, hWho, B2⟩
  obtain ⟨a, cw, hlk0, hown, _⟩ := hWho.look (F : Int) hwF
  have hlk : lookRun Try.prog 137 (.map (some r)) (.int .i64 (F : Int)) w2 = .ok (.slice a (ten h.guests F).length cw) w2 := hlk0 w2 rfl
  have hsp := own_spots hown
  have s2 := B2.size
  have k2 := HW.out.belowK B2
  have hff2 := hff w2 k2
  have HB2 := hidE B2
  have HK2 := hidE k2
  clear ht hWho hlk0 hown B2 hgv hff k2 hhs HW
  generalize hll : ten h.guests F = l at *
  go_wp2_with (fail)
  refine hff2.mono ?_
  rintro e w3 ⟨x, rfl, hx, B3⟩
  have s3 := B3.size
  clear hff2
  have HB3 := hidE (HB2.out.trans (B3.mono HB2.out.size))
  have HK3 := hidE (HK2.out.belowK B3)
  have hsp3 : l.length = 0 ∨ ∃ T : Nat, a = some ⟨T, 0, none⟩ ∧ w.heap.size ≤ T ∧ T < w3.heap.size ∧ ∀ q, q < l.length → w3.cell? ⟨T, q * 2, none⟩ = some (.int .i64 ((l.getD q (0, 0)).1 : Nat)) ∧ w3.cell? ⟨T, q * 2 + 1, none⟩ = some (.int .i64 ((l.getD q (0, 0)).2 : Nat)) := by
    rcases hsp with h0 | ⟨T, e, h1, h2, h3⟩
    · exact Or.inl h0
    · exact Or.inr ⟨T, e, h1, by omega, fun q hq => ⟨(B3.cell (p := ⟨T, q * 2, none⟩) h2).trans (h3 q hq).1, (B3.cell (p := ⟨T, q * 2 + 1, none⟩) h2).trans (h3 q hq).2⟩⟩
  clear HB2 HK2 B3 hsp hlk
  rcases Hfc.out with ⟨rfl, _⟩ | ⟨T, rfl, hT8, hTu, _⟩
  · have Hbh := hidE (show mb = false ∧ mh = h from by
      have hb : mb = false := by rw [HmB.out]; rfl
      exact ⟨hb, by rw [HmH.out, hb]; rfl⟩)
    have e0 : decide ((0 : Int) ≤ -1) = false := by decide
    rw [e0]
    go_wp2
    refine bodyPost_ret (v := .bool false) (by simp [results, Try.results78, go_sem]) rfl ?_
    rw [Hbh.out.1, Hbh.out.2]
    exact ⟨rfl, HK3.out, Upd2.ofBelow HB3.out⟩
  · have e0 : decide ((0 : Int) ≤ (T : Int)) = true := by simp
    obtain rfl := hx (by omega)
    rw [e0]
    by_cases hl0 : l.length = 0
    · have Hbh := hidE (show mb = false ∧ mh = h from by
        have hb : mb = false := by rw [HmB.out, ← Hten.out, hl0]; simp
        exact ⟨hb, by rw [HmH.out, hb]; rfl⟩)
      rw [hl0]
      go_wp2
      refine bodyPost_ret (v := .bool false) (by simp [results, Try.results78, go_sem]) rfl ?_
      rw [Hbh.out.1, Hbh.out.2]
      exact ⟨rfl, HK3.out, Upd2.ofBelow HB3.out⟩
    · have Hbh := hidE (show mb = true ∧ mh = settleAll (fun g p => (true, (T : Int), (mAt h g p).2.2)) (setF h T (fAt h F)) l from by
        have hb : mb = true := by rw [HmB.out, ← Hten.out]; simp; omega
        exact ⟨hb, by rw [HmH.out, hb, Int.toNat_natCast]; exact HmP.out T⟩)
      have hne0 : ((l.length : Int) == 0) = false := beq_eq_false_iff_ne.2 (by omega)
      have hFi : (F : Int) < 8 := by omega
      have hTi : (T : Int) < 8 := by omega
      have h0F : (0 : Int) ≤ (F : Int) := Int.natCast_nonneg _
      have h0T : (0 : Int) ≤ (T : Int) := Int.natCast_nonneg _
      obtain ⟨x0, _⟩ := HK3.out.wordAt hF (o := 0) (by omega)
      obtain ⟨x1, _⟩ := HK3.out.wordAt hF (o := 1) (by omega)
      obtain ⟨x2, _⟩ := HK3.out.wordAt hF (o := 2) (by omega)
      obtain ⟨x3, _⟩ := HK3.out.wordAt hF (o := 3) (by omega)
      obtain ⟨u0, g0⟩ := HK3.out.wordAt hT8 (o := 0) (by omega)
      obtain ⟨u1, g1⟩ := HK3.out.wordAt hT8 (o := 1) (by omega)
      obtain ⟨u2, g2⟩ := HK3.out.wordAt hT8 (o := 2) (by omega)
      obtain ⟨u3, g3⟩ := HK3.out.wordAt hT8 (o := 3) (by omega)
      rw [Nat.add_zero] at x0 u0 g0
      have hz4 := HK3.out.2.2.2.2.2.2.1 F hF
      have kF := HK3.out.frame hT8 (fAt h F) hz4
      generalize hy0 : (fAt h F).getD 0 0 = y0 at *
      generalize hy1 : (fAt h F).getD 1 0 = y1 at *
      generalize hy2 : (fAt h F).getD 2 0 = y2 at *
      generalize hy3 : (fAt h F).getD 3 0 = y3 at *
      obtain ⟨W6, hW6⟩ : ∃ W6, W6 = (((w3.setCell ⟨B, T * 4, none⟩ (.int .i64 y0)).setCell ⟨B, T * 4 + 1, none⟩ (.int .i64 y1)).setCell ⟨B, T * 4 + 2, none⟩ (.int .i64 y2)).setCell ⟨B, T * 4 + 3, none⟩ (.int .i64 y3) := ⟨_, rfl⟩
      have hWs : w3.setCells B (T * 4) (sheetC (fAt h F)) = W6 := by
        rw [hW6, sheetC, hy0, hy1, hy2, hy3]
        rfl
      rw [hWs] at kF
      have U6 : Upd B w3 W6 := by rw [hW6]; exact ((((Upd.refl B w3).put _ _).put _ _).put _ _).put _ _
      have lB3 : B < w3.heap.size := by omega
      have HU6 := hidE ((Upd2.ofBelow (a := B) (b := L) HB3.out).trans (Upd2.left U6))
      have HU36 := hidE U6
      have kF := hidE kF
      have s6 := U6.size
      clear hWs U6 hy0 hy1 hy2 hy3 HK3 HB3 hx hl12
      go_wp2_with (fail)
      go_cut [5, 6] (fun s5 s6 wx => s5 = .slice a l.length cw ∧ s6 = .int .i64 T ∧ wx = W6.drew)
      case first =>
        go_region_with (fail)
        all_goals go_wp2_with fail
        all_goals go_meet
        all_goals exact ⟨rfl, rfl, by rw [hW6]⟩
      case rest =>
        obtain ⟨rfl, rfl, hwc⟩ := hcut
        have hB7 : Below W6.heap.size W6 wc := by rw [hwc]; exact (Below.refl _ _).drew
        have s7 := hB7.size
        have k7 := hidE (kF.out.belowK hB7)
        have HU7 := hidE (HU6.out.trans (Upd2.ofBelow hB7))
        have hsp7 : ∃ TT : Nat, a = some ⟨TT, 0, none⟩ ∧ w.heap.size ≤ TT ∧ TT < wc.heap.size ∧ ∀ q, q < l.length → wc.cell? ⟨TT, q * 2, none⟩ = some (.int .i64 ((l.getD q (0, 0)).1 : Nat)) ∧ wc.cell? ⟨TT, q * 2 + 1, none⟩ = some (.int .i64 ((l.getD q (0, 0)).2 : Nat)) := by
          rcases hsp3 with h0 | ⟨TT, e, h1, h2, h3⟩
          · exact (hl0 h0).elim
          · refine ⟨TT, e, h1, by omega, fun q hq => ?_⟩
            have eb : wc.heap[TT]? = w3.heap[TT]? := (hB7.block TT (by omega)).trans (HU36.out.block TT h2 (by omega))
            exact ⟨(World.cell?_of_block (a := ⟨TT, q * 2, none⟩) eb).trans (h3 q hq).1, (World.cell?_of_block (a := ⟨TT, q * 2 + 1, none⟩) eb).trans (h3 q hq).2⟩
        obtain ⟨TT, rfl, hTT1, hTT2, hsp⟩ := hsp7
        have hl12 : l.length ≤ 12 := by
          have := tenG_len h.guests h.guests.length F
          rw [← hll]
          show (tenG h.guests h.guests.length F).length ≤ 12
          omega
        obtain ⟨h1, hh1⟩ : ∃ h1, h1 = setF h T (fAt h F) := ⟨_, rfl⟩
        have hln1 : h1.guests.length = h.guests.length := by rw [hh1]; rfl
        have hm1 : ∀ g p, mAt h1 g p = mAt h g p := fun g p => by rw [hh1]; rfl
        have k61 : Six h1 := by rw [hh1]; exact k.six
        rw [← hh1] at k7 Hbh
        obtain ⟨MM, hMM⟩ : ∃ MM : Nat → Nat → E3, MM = fun g p => (true, (T : Int), (mAt h g p).2.2) := ⟨_, rfl⟩
        rw [← hMM] at Hbh
        have HMM := hidE hMM
        have hplc : Plc h1.guests.length l := by rw [hln1]; exact hpl
        have hmm : ∀ x, x ∈ l → (mAt h x.1 x.2).1 = true := fun x hx => by
          obtain ⟨x1, x2⟩ := x
          rw [← hll] at hx
          exact (inF_iff.1 ((mem_ten.1 hx).2.2)).1
        have hat := hidE (fun q => settleAll_at MM (l.take q) k61 (fun x hx => hplc x (List.mem_of_mem_take hx)))
        have hbig : l.length = l.length := rfl
        clear x0 x1 x2 x3 u0 u1 u2 u3 g0 g1 g2 g3 hW6 hwc hB7 HU6 HU36 kF hsp3 hz4 hMM hmem HmB HmH HmP Hfc hh1
        generalize wc = Wm at *
        go_wp2_with (fail)
        go_loopw [9, 10, 42] (fun _ _ i wr => ∃ q : Nat, q ≤ l.length ∧ i = .int .i64 q ∧ Hid (HouseW wr B L c (settleAll MM h1 (l.take q))) ∧ Hid (Upd2 B L Wm wr)) (fun _ _ i _ => l.length - (intOf i).toNat)
        case atStart => exact ⟨0, Nat.zero_le _, rfl, k7.out, Upd2.refl _ _ _⟩
        case round =>
          clear k7
          obtain ⟨q, hq, rfl, HK, HU⟩ := hrel
          have sU := HU.out.size
          have hlqi : (l.length : Int) ≤ 12 := by omega
          have lTr : TT < wr.heap.size := by omega
          have lLr : L < wr.heap.size := by omega
          have lBr : B < wr.heap.size := by omega
          by_cases hql : q < l.length
          · have hqi : (q : Int) < (l.length : Int) := by omega
            obtain ⟨q0, q1⟩ := hsp q hql
            have hbT : wr.heap[TT]? = Wm.heap[TT]? := HU.out.block TT hTT2 (by omega) (by omega)
            have q0 := (World.cell?_of_block (a := ⟨TT, q * 2, none⟩) hbT).trans q0
            have q1 := (World.cell?_of_block (a := ⟨TT, q * 2 + 1, none⟩) hbT).trans q1
            have hx := l.getD q (0, 0)
            have hin : l.getD q (0, 0) ∈ l := by rw [getD_lt hql]; exact List.getElem_mem hql
            obtain ⟨hpg, hpp⟩ := hplc _ hin
            have hmx := hmm _ hin
            have htk : l.take (q + 1) = l.take q ++ [((l.getD q (0, 0)).1, (l.getD q (0, 0)).2)] := by
              rw [List.take_succ_eq_append_getElem hql, getD_lt hql]
            obtain ⟨g, hg⟩ : ∃ g, g = (l.getD q (0, 0)).1 := ⟨_, rfl⟩
            obtain ⟨p, hp⟩ : ∃ p, p = (l.getD q (0, 0)).2 := ⟨_, rfl⟩
            rw [← hg] at q0 htk hpg hmx
            rw [← hp] at q1 htk hpp hmx
            obtain ⟨a1, a2, _, _, a5, _⟩ := hat.out q
            have hcur := a5 g p
            have hnext : settleAll MM h1 (l.take (q + 1)) = settleP (settleAll MM h1 (l.take q)) g p (MM g p) := by rw [htk, settleAll_append]; rfl
            have hgc : g < (settleAll MM h1 (l.take q)).guests.length := by rw [a2]; exact hpg
            clear hg hp htk hin hx
            obtain ⟨hsz, hr, hth⟩ := HK.out.lodAt hgc
            obtain ⟨e0, e1, e2⟩ := lod_maps hr p (by rw [hsz.1]; exact hpp)
            rw [show ((false, 0, false) : E3) = noM from rfl, show ((settleAll MM h1 (l.take q)).guests.getD g noG).maps.getD p noM = mAt (settleAll MM h1 (l.take q)) g p from rfl] at e0 e1 e2
            have hlods := HK.out.lods.1
            have hc2 : (mAt (settleAll MM h1 (l.take q)) g p).1 = true ∧ (mAt (settleAll MM h1 (l.take q)) g p).2.2 = (mAt h g p).2.2 := by
              rw [hcur]
              by_cases hd : (g, p) ∈ l.take q
              · rw [if_pos hd, HMM.out]; exact ⟨rfl, rfl⟩
              · rw [if_neg hd, hm1]; exact ⟨hmx, rfl⟩
            rw [hc2.1] at e0
            rw [hc2.2] at e2
            have hMv : MM g p = (true, (T : Int), (mAt h g p).2.2) := by rw [HMM.out]
            rw [hMv] at hnext
            obtain ⟨mf, hmf⟩ : ∃ mf, mf = (mAt (settleAll MM h1 (l.take q)) g p).2.1 := ⟨_, rfl⟩
            obtain ⟨mw, hmw⟩ : ∃ mw, mw = (mAt h g p).2.2 := ⟨_, rfl⟩
            rw [← hmf] at e1
            rw [← hmw] at e2 hnext
            have Hnext := hidE hnext
            have hset := fun (W : World) (kS : HouseW W B L c (settleAll MM h1 (l.take q))) => implSettle B L c g p _ (true, (T : Int), mw) W kS hgc hpp
            have hgi : (g : Int) < (h.guests.length : Int) := by omega
            have hpi : (p : Int) < 6 := by omega
            have h0g : (0 : Int) ≤ (g : Int) := Int.natCast_nonneg _
            have h0p : (0 : Int) ≤ (p : Int) := Int.natCast_nonneg _
            rw [a2, hln1] at hlods
            clear hmf hmw hc2 hMv hcur hnext a1 a5 hsz hr hth hmx
            obtain ⟨WA, hWA⟩ : ∃ WA, WA = wr.alloc (.cells #[.int .i64 g, .int .i64 p] 99) := ⟨_, rfl⟩
            have BA : Below wr.heap.size wr WA := by rw [hWA]; exact (Below.refl _ _).alloc (Nat.le_refl _) _
            have sA : WA.heap.size ≤ wr.heap.size + 1 ∧ wr.heap.size + 1 ≤ WA.heap.size := by rw [hWA]; simp
            have v0 : WA.cell? ⟨wr.heap.size, 0, none⟩ = some (.int .i64 g) ∧ WA.cell? ⟨wr.heap.size, 1, none⟩ = some (.int .i64 p) := by rw [hWA]; simp
            obtain ⟨Sx, hSE⟩ : ∃ Sx : World → Prop, Sx = fun W' => Below WA.heap.size WA W' := ⟨_, rfl⟩
            have lvA : wr.heap.size < WA.heap.size := by omega
            have lLA : L < WA.heap.size := by omega
            have lBA : B < WA.heap.size := by omega
            have hcells : ∀ W', Sx W' → W'.cell? ⟨B, 32, none⟩ = some (.slice (some ⟨L, 0, none⟩) h.guests.length c) ∧ W'.cell? ⟨wr.heap.size, 0, none⟩ = some (.int .i64 g) ∧ W'.cell? ⟨wr.heap.size, 1, none⟩ = some (.int .i64 p) ∧ W'.cell? ⟨L, g * 66 + p * 3, none⟩ = some (.bool true) ∧ W'.cell? ⟨L, g * 66 + p * 3 + 1, none⟩ = some (.int .i64 mf) ∧ W'.cell? ⟨L, g * 66 + p * 3 + 2, none⟩ = some (.bool mw) := fun W' B' => by
              rw [hSE] at B'
              exact ⟨(B'.cell (p := ⟨B, 32, none⟩) lBA).trans ((BA.cell (p := ⟨B, 32, none⟩) lBr).trans hlods), (B'.cell (p := ⟨wr.heap.size, 0, none⟩) lvA).trans v0.1, (B'.cell (p := ⟨wr.heap.size, 1, none⟩) lvA).trans v0.2, (B'.cell (p := ⟨L, g * 66 + p * 3, none⟩) lLA).trans ((BA.cell (p := ⟨L, g * 66 + p * 3, none⟩) lLr).trans e0), (B'.cell (p := ⟨L, g * 66 + p * 3 + 1, none⟩) lLA).trans ((BA.cell (p := ⟨L, g * 66 + p * 3 + 1, none⟩) lLr).trans e1), (B'.cell (p := ⟨L, g * 66 + p * 3 + 2, none⟩) lLA).trans ((BA.cell (p := ⟨L, g * 66 + p * 3 + 2, none⟩) lLr).trans e2)⟩
            have hSB : ∀ W', Below WA.heap.size WA W' → Sx W' := by rw [hSE]; exact fun _ h => h
            have kA := hidE (HK.out.belowK BA)
            have UA := hidE (HU.out.trans (Upd2.ofBelow BA))
            clear hSE e0 e1 e2 hlods
            go_wp2_with (fail)
            rw [← hWA]
            clear hWA q0 q1
            refine wp_region_held_drew (S := Sx) (by kernel_rfl) (hSB _ (Below.refl _ _).drew) (fun hHeld => ?_)
            refine wpAnyH_take (i := 0) (v := ?_) (by simp only [List.getElem?_toArray, List.getElem?_cons_succ, List.getElem?_cons_zero]; rfl) (by kernel_rfl) (by kernel_rfl) (by kernel_rfl) (by exact fun _ _ _ h => h) (Or.inl ⟨by rfl, ?_⟩) hHeld ?_
            rotate_left
            · intro W' hW'; go_simp <;> with_reducible rfl
            simp only [Act.put, List.setIfInBounds_toArray, List.set_cons_zero, List.set_cons_succ]
            refine wpAnyH_take (i := 1) (v := ?_) (by simp only [List.getElem?_toArray, List.getElem?_cons_succ, List.getElem?_cons_zero]; rfl) (by kernel_rfl) (by kernel_rfl) (by kernel_rfl) (by exact fun _ _ _ h => h) (Or.inl ⟨by rfl, ?_⟩) hHeld ?_
            rotate_left
            · intro W' hW'; go_simp <;> with_reducible rfl
            simp only [Act.put, List.setIfInBounds_toArray, List.set_cons_zero, List.set_cons_succ]
            refine wpAnyH_take (i := 2) (v := ?_) (by simp only [List.getElem?_toArray, List.getElem?_cons_succ, List.getElem?_cons_zero]; rfl) (by kernel_rfl) (by kernel_rfl) (by kernel_rfl) (by exact fun _ _ _ h => h) (Or.inl ⟨by rfl, ?_⟩) hHeld ?_
            rotate_left
            · intro W' hW'; go_simp <;> with_reducible rfl
            simp only [Act.put, List.setIfInBounds_toArray, List.set_cons_zero, List.set_cons_succ]
            refine wpAnyH_take (i := 3) (v := ?_) (by simp only [List.getElem?_toArray, List.getElem?_cons_succ, List.getElem?_cons_zero]; rfl) (by kernel_rfl) (by kernel_rfl) (by kernel_rfl) (by exact fun _ _ _ h => h) (Or.inl ⟨by rfl, ?_⟩) hHeld ?_
            rotate_left
            · intro W' hW'; obtain ⟨y0,y1,y2,y3,y4,y5⟩ := hcells W' hW'; go_simp <;> with_reducible rfl
            simp only [Act.put, List.setIfInBounds_toArray, List.set_cons_zero, List.set_cons_succ]
            refine wpAnyH_take (i := 4) (v := ?_) (by simp only [List.getElem?_toArray, List.getElem?_cons_succ, List.getElem?_cons_zero]; rfl) (by kernel_rfl) (by kernel_rfl) (by kernel_rfl) (by exact fun _ _ _ h => h) (Or.inl ⟨by rfl, ?_⟩) hHeld ?_
            rotate_left
            · intro W' hW'; go_simp <;> with_reducible rfl
            simp only [Act.put, List.setIfInBounds_toArray, List.set_cons_zero, List.set_cons_succ]
            refine wpAnyH_take (i := 5) (v := ?_) (by simp only [List.getElem?_toArray, List.getElem?_cons_succ, List.getElem?_cons_zero]; rfl) (by kernel_rfl) (by kernel_rfl) (by kernel_rfl) (by exact fun _ _ _ h => h) (Or.inl ⟨by rfl, ?_⟩) hHeld ?_
            rotate_left
            · intro W' hW'; obtain ⟨y0,y1,y2,y3,y4,y5⟩ := hcells W' hW'; go_simp <;> with_reducible rfl
            simp only [Act.put, List.setIfInBounds_toArray, List.set_cons_zero, List.set_cons_succ]
            refine wpAnyH_take (i := 6) (v := ?_) (by simp only [List.getElem?_toArray, List.getElem?_cons_succ, List.getElem?_cons_zero]; rfl) (by kernel_rfl) (by kernel_rfl) (by kernel_rfl) (by exact fun _ _ _ h => h) (Or.inl ⟨by rfl, ?_⟩) hHeld ?_
            rotate_left
            · intro W' hW'; go_simp <;> with_reducible rfl
            simp only [Act.put, List.setIfInBounds_toArray, List.set_cons_zero, List.set_cons_succ]
            refine wpAnyH_take (i := 7) (v := ?_) (by simp only [List.getElem?_toArray, List.getElem?_cons_succ, List.getElem?_cons_zero]; rfl) (by kernel_rfl) (by kernel_rfl) (by kernel_rfl) (by exact fun _ _ _ h => h) (Or.inl ⟨by rfl, ?_⟩) hHeld ?_
            rotate_left
            · intro W' hW'; obtain ⟨y0,y1,y2,y3,y4,y5⟩ := hcells W' hW'; go_simp <;> with_reducible rfl
            simp only [Act.put, List.setIfInBounds_toArray, List.set_cons_zero, List.set_cons_succ]
            refine wpAnyH_take (i := 8) (v := ?_) (by simp only [List.getElem?_toArray, List.getElem?_cons_succ, List.getElem?_cons_zero]; rfl) (by kernel_rfl) (by kernel_rfl) (by kernel_rfl) (by exact fun _ _ _ h => h) (Or.inl ⟨by rfl, ?_⟩) hHeld ?_
            rotate_left
            · intro W' hW'; go_simp <;> with_reducible rfl
            simp only [Act.put, List.setIfInBounds_toArray, List.set_cons_zero, List.set_cons_succ]
            refine wpAnyH_take (i := 9) (v := ?_) (by simp only [List.getElem?_toArray, List.getElem?_cons_succ, List.getElem?_cons_zero]; rfl) (by kernel_rfl) (by kernel_rfl) (by kernel_rfl) (by exact fun _ _ _ h => h) (Or.inl ⟨by rfl, ?_⟩) hHeld ?_
            rotate_left
            · intro W' hW'; go_simp <;> with_reducible rfl
            simp only [Act.put, List.setIfInBounds_toArray, List.set_cons_zero, List.set_cons_succ]
            refine wpAnyH_take (i := 10) (v := ?_) (by simp only [List.getElem?_toArray, List.getElem?_cons_succ, List.getElem?_cons_zero]; rfl) (by kernel_rfl) (by kernel_rfl) (by kernel_rfl) (by exact fun _ _ _ h => h) (Or.inl ⟨by rfl, ?_⟩) hHeld ?_
            rotate_left
            · intro W' hW'; go_simp <;> with_reducible rfl
            simp only [Act.put, List.setIfInBounds_toArray, List.set_cons_zero, List.set_cons_succ]
            refine wpAnyH_take (i := 11) (v := ?_) (by simp only [List.getElem?_toArray, List.getElem?_cons_succ, List.getElem?_cons_zero]; rfl) (by kernel_rfl) (by kernel_rfl) (by kernel_rfl) (by exact fun _ _ _ h => h) (Or.inl ⟨by rfl, ?_⟩) hHeld ?_
            rotate_left
            · intro W' hW'; obtain ⟨y0,y1,y2,y3,y4,y5⟩ := hcells W' hW'; go_simp <;> with_reducible rfl
            simp only [Act.put, List.setIfInBounds_toArray, List.set_cons_zero, List.set_cons_succ]
            refine wpAnyH_ready (rs := [12]) (by kernel_rfl) (by simp) ?_
            refine AllReadyH.cons (by simp only [List.getElem?_toArray, List.getElem?_cons_succ, List.getElem?_cons_zero]; rfl) (fun K hK => ?_) AllReadyH.nil
            rw [if_pos (by rfl)]
            go_simp
            refine hK.out _ _ (hSB _ (((Below.refl _ _).alloc (Nat.le_refl _) _).drew)) (fun hHeld => ?_)
            clear hK K
            try simp only [Act.put, List.setIfInBounds_toArray, List.set_cons_zero, List.set_cons_succ]
            refine wpAnyH_ready (rs := [13]) (by kernel_rfl) (by simp) ?_
            refine AllReadyH.cons (by simp only [List.getElem?_toArray, List.getElem?_cons_succ, List.getElem?_cons_zero]; rfl) (fun K hK => ?_) AllReadyH.nil
            rw [if_pos (by rfl)]
            go_simp
            refine hK.out _ _ (hSB _ (((Below.refl _ _).alloc (Nat.le_refl _) _).drew)) (fun hHeld => ?_)
            clear hK K
            refine wpAnyH_done (by kernel_rfl) ?_ _
            obtain ⟨W5, hW5⟩ : ∃ W5, W5 = (WA.alloc (.cells #[.bool true, .int .i64 mf, .bool mw] 76)).drew := ⟨_, rfl⟩
            have B5 : Below WA.heap.size WA W5 := by rw [hW5]; exact ((Below.refl _ _).alloc (Nat.le_refl _) _).drew
            have s5 : W5.heap.size ≤ WA.heap.size + 1 ∧ WA.heap.size + 1 ≤ W5.heap.size := by rw [hW5]; simp
            have m5 : W5.cell? ⟨WA.heap.size, 0, none⟩ = some (.bool true) ∧ W5.cell? ⟨WA.heap.size, 1, none⟩ = some (.int .i64 mf) ∧ W5.cell? ⟨WA.heap.size, 2, none⟩ = some (.bool mw) ∧ W5.frozen? ⟨WA.heap.size, 1, none⟩ = false := by rw [hW5]; simp
            have a5 : W5.cell? ⟨wr.heap.size, 0, none⟩ = some (.int .i64 g) ∧ W5.cell? ⟨wr.heap.size, 1, none⟩ = some (.int .i64 p) := ⟨(B5.cell (p := ⟨wr.heap.size, 0, none⟩) lvA).trans v0.1, (B5.cell (p := ⟨wr.heap.size, 1, none⟩) lvA).trans v0.2⟩
            have U56 : Upd WA.heap.size W5 (W5.setCell ⟨WA.heap.size, 1, none⟩ (.int .i64 T)) := (Upd.refl _ _).put 1 _
            have k6 := hset _ ((kA.out.belowK B5).upd U56 (by omega) (by omega))
            obtain ⟨W6, hW6⟩ : ∃ W6, W6 = W5.setCell ⟨WA.heap.size, 1, none⟩ (.int .i64 T) := ⟨_, rfl⟩
            have U6 := hidE (show Upd2 B L Wm W6 by
              have B56 : Below wr.heap.size WA W6 := by rw [hW6]; exact (B5.mono (by omega)).setCell (p := ⟨WA.heap.size, 1, none⟩) (show wr.heap.size ≤ WA.heap.size by omega) _
              exact HU.out.trans (Upd2.ofBelow (BA.trans B56)))
            have sz6 : W6.heap.size = W5.heap.size := by rw [hW6]; simp
            rw [← hW6] at k6
            obtain ⟨m50, m51, m52, f51⟩ := m5
            obtain ⟨a50, a51⟩ := a5
            have l5m : WA.heap.size < W5.heap.size := by omega
            have l5a : wr.heap.size < W5.heap.size := by omega
            have n5 : wr.heap.size ≠ WA.heap.size := by omega
            clear hHeld hSB hcells UA kA hset v0 U56 HK HU B5 BA
            rw [← hW5]
            clear hW5
            go_wp2_with (fail)
            rw [← hW6]
            clear hW6 m50 m51 m52 f51 a50 a51
            refine k6.mono ?_
            rintro e w7 ⟨rfl, k7, s7', x7, b7⟩
            have U7 := hidE (U6.out.trans (Upd2.right (upd_of s7' x7 b7)))
            have k7 := hidE k7
            clear k6 x7 b7 U6
            go_wp2
            go_roundw
            case rel => exact ⟨q + 1, by omega, by go_num, by rw [Hnext.out]; exact k7.out, U7.out⟩
            case measure => simp [intOf]; omega
          · obtain rfl : q = l.length := by omega
            go_wp2
            refine bodyPost_ret (v := .bool true) (by simp [results, Try.results78, go_sem]) rfl ?_
            rw [Hbh.out.1, Hbh.out.2]
            have := HK.out
            rw [List.take_length] at this
            exact ⟨rfl, this, HU7.out.trans HU.out⟩
end Go.Proofs.Ytbhenppclgolpaa

/-
  What the program's own PageMove does.
-/
set_option linter.unusedSimpArgs false
namespace Go.Proofs.Ytbhenppclgolpaa
open Go.RowKit
attribute [local go_sem ↓] Go.wp_at_zero Go.wp_at_succ exec_app exec_lod exec_house exec_mapsA exec_allocL exec_storeL exec_buildL exec_idxM exec_look exec_upd exec_allocH exec_buildH exec_storeH exec_bsL exec_storeQ exec_loadQ exec_idxQ
attribute [local go_sem] bigNext_ok bigSkip_ok

set_option maxRecDepth 100000 in
set_option maxHeartbeats 8000000 in
theorem implPageMoveG (lo hi : Nat) (af ag : Option Addr) (lf cf n cg : Nat) (h : Hst) (F : Int) (w : World) (hH : HostIn w lo hi (.slice af lf cf) (.slice ag n cg) h) (hh : hi ≤ w.heap.size) (hwf : WfGs h.guests.length h.guests) :
    Calls Try.prog 32 #[.agg #[.slice af lf cf, .slice ag n cg, .int .i64 h.hand], .int .i64 F] w fun e w' => Gives2H w w' e (pageMoveH h F) (.bool (pageMoveHv h F)) := by
  obtain ⟨W0, hW0⟩ : ∃ W0, W0 = (w.alloc (.cells #[.slice af lf cf, .slice ag n cg, .int .i64 h.hand] 27)).alloc (.cells #[.slice none 0 0, .slice none 0 0, .int .i64 0] 27) := ⟨_, rfl⟩
  have B0 : Below w.heap.size w W0 := by rw [hW0]; exact ((Below.refl _ _).alloc (Nat.le_refl _) _).alloc (by simp) _
  have s0 : w.heap.size + 1 < W0.heap.size := by rw [hW0]; simp
  have r0 : Var3 W0 (w.heap.size + 1) (.slice none 0 0) (.slice none 0 0) (.int .i64 0) := by rw [hW0]; exact var3_newK (by simp)
  have hc := implHouseOf lo hi af ag lf cf n cg h W0 (hH.same (below_sameIn B0 hh)) (Nat.le_trans hh B0.size) hwf
  obtain ⟨zH, hzs, hAl, hSt⟩ := house_var
  have hfo := fun W => implFrameOk F W
  clear hH
  go_enter Try.func32, Try.ntmps32
  go_wp2_with (fail)
  rw [← hW0]
  clear hW0
  refine hc.mono ?_
  rintro e w1 ⟨cs, hl, h1, rfl, B1, hL⟩
  rw [houseB_eq] at hL ⊢
  have hS := hSt w1 cs hl h1
  have hB1 : Below w.heap.size w w1 := B0.trans (B1.mono B0.size)
  have BA : Below w1.heap.size w1 (w1.alloc (.cells cs.toArray 74)) := (Below.refl _ _).alloc (Nat.le_refl _) _
  have s01 := B1.size
  have HrA := hidE ((r0.same (B1.block _ s0)).same (BA.block _ (by omega)))
  have HBA := hidE (hB1.trans (BA.mono hB1.size))
  have hltA : w.heap.size + 1 < (w1.alloc (.cells cs.toArray 74)).heap.size := by simp; omega
  cases hok : okHost h
  · have HS := hidE (show pageMoveH h F = noH ∧ pageMoveHv h F = false by rw [pageMoveH, pageMoveHv, hok]; exact ⟨rfl, rfl⟩)
    obtain ⟨q0, q1, q2, f0, f1, f2⟩ := HrA.out
    generalize hca : cs.toArray = ca at *
    clear hSt hc hL hl h1 hfo hca BA
    generalize w1.alloc (.cells ca 74) = W2 at *
    go_wp2
    refine bodyPost_ret (v := .tuple #[.agg #[.slice none 0 0, .slice none 0 0, .int .i64 0], .bool false]) (by simp [results, Try.results32, go_sem, *]) rfl ?_
    rw [HS.out.1, HS.out.2]
    exact gives2H_no HBA.out (Nat.le_succ _) _ _ _
  obtain ⟨L, c, rfl, hL1, hL2, hL3⟩ := hL hok
  cases hzb : frameB0 F
  · have hzb' : (decide (0 ≤ F) && decide (F ≤ 7)) = false := hzb
    rw [hzb'] at hfo
    have HS := hidE (show pageMoveH h F = noH ∧ pageMoveHv h F = false by rw [pageMoveH, pageMoveHv, hok, hzb]; exact ⟨rfl, rfl⟩)
    obtain ⟨q0, q1, q2, f0, f1, f2⟩ := HrA.out
    generalize hca : (houseC h.frames (.slice (some ⟨L, 0, none⟩) h.guests.length c) h.hand).toArray = ca at *
    clear hSt hc hl h1 hca BA hL2 hL3
    generalize w1.alloc (.cells ca 74) = W2 at *
    go_wp2_with (fail)
    refine (hfo _).mono ?_
    rintro e w2 ⟨rfl, rfl⟩
    go_wp2
    refine bodyPost_ret (v := .tuple #[.agg #[.slice none 0 0, .slice none 0 0, .int .i64 0], .bool false]) (by simp [results, Try.results32, go_sem, *]) rfl ?_
    rw [HS.out.1, HS.out.2]
    exact gives2H_no HBA.out (Nat.le_succ _) _ _ _
  · have hzb' : (decide (0 ≤ F) && decide (F ≤ 7)) = true := hzb
    rw [hzb'] at hfo
    obtain ⟨f, rfl, hf8⟩ : ∃ f : Nat, F = (f : Int) ∧ f < 8 := by
      simp only [Bool.and_eq_true, decide_eq_true_eq] at hzb'
      exact ⟨F.toNat, by omega, by omega⟩
    have HF := hidE (show pageMoveH h (f : Int) = moveH h f ∧ pageMoveHv h (f : Int) = moveB h f by rw [pageMoveH, pageMoveHv, hok, hzb, Int.toNat_natCast]; exact ⟨rfl, rfl⟩)
    have hW := houseW_new (c := c) hok hL2 hL3
    have kk := okHost_of hok
    have hLw1 := hL2.2.1
    obtain ⟨W2, hW2⟩ : ∃ W2, W2 = w1.alloc (.cells (houseC h.frames (.slice (some ⟨L, 0, none⟩) h.guests.length c) h.hand).toArray 74) := ⟨_, rfl⟩
    rw [← hW2] at hW BA hS HrA HBA hltA
    have s2 : W2.heap.size ≤ w1.heap.size + 1 ∧ w1.heap.size + 1 ≤ W2.heap.size := by rw [hW2]; simp
    have hmv := implMoveI w1.heap.size L c f h W2 hW kk hf8
    obtain ⟨mb, hmb⟩ : ∃ mb, mb = moveB h f := ⟨_, rfl⟩
    obtain ⟨mh, hmh⟩ : ∃ mh, mh = moveH h f := ⟨_, rfl⟩
    rw [← hmb, ← hmh] at hmv HF
    generalize hca : (houseC h.frames (.slice (some ⟨L, 0, none⟩) h.guests.length c) h.hand).toArray = ca at *
    clear hSt hc hl h1 hca BA hL2 hL3 hW hW2 hmb hmh kk
    go_wp2_with (fail)
    refine (hfo _).mono ?_
    rintro e w2 ⟨rfl, rfl⟩
    go_wp2_with (fail)
    refine hmv.mono ?_
    rintro e w3 ⟨rfl, k3, U3⟩
    have s3 := U3.size
    have hld := k3.give
    have hho := houseHostW k3
    have v3 := HrA.out.same (U3.block (w.heap.size + 1) (by omega) (by omega) (by omega))
    have Bw3 := hidE (HBA.out.trans (U3.below (by omega) (by omega) (by omega)))
    clear hmv k3 U3 hS
    generalize hcs2 : (houseC mh.frames (.slice (some ⟨L, 0, none⟩) mh.guests.length c) mh.hand).toArray = hs2 at *
    go_wp2_with (fail)
    refine hho.mono ?_
    rintro e w7 ⟨vf, vg, rfl, hO7, B7⟩
    have hO7' := hO7
    obtain ⟨af', cf', m0, m1, rfl, _, _, _, ag', cg', rfl, _⟩ := hO7'
    have z7 := B7.size
    obtain ⟨q0, q1, q2, f0, f1, f2⟩ := v3.same (B7.block _ (by omega))
    have hlt : w.heap.size + 1 < w7.heap.size := by omega
    have HO7 := hidE hO7
    have HB7 := hidE B7
    clear hho hO7 B7 hld v3
    generalize mh.frames.length = lfx at *
    generalize mh.guests.length = lgx at *
    go_wp2
    refine bodyPost_ret (v := .tuple #[.agg #[.slice af' lfx cf', .slice ag' lgx cg', .int .i64 mh.hand], .bool mb]) (by simp [results, Try.results32, go_sem, *]) rfl ?_
    rw [HF.out.1, HF.out.2]
    exact gives2H_ret Bw3.out HO7.out HB7.out (Nat.le_succ _) (by omega) _ _ _
end Go.Proofs.Ytbhenppclgolpaa
