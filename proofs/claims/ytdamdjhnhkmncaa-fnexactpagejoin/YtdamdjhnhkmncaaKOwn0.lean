/-
  What the program's own own does: a page that may be written, alone.
-/
import Derived.Test.YtdamdjhnhkmncaaKV
set_option linter.unusedSimpArgs false
namespace Go.Proofs.Ytdamdjhnhkmncaa
open Go.RowKit
attribute [local go_sem ↓] Go.wp_at_zero Go.wp_at_succ exec_app exec_lod exec_house exec_mapsA exec_allocL exec_storeL exec_buildL exec_idxM exec_look exec_upd exec_allocH exec_buildH exec_storeH exec_bsL exec_storeQ exec_loadQ exec_idxQ
attribute [local go_sem] bigNext_ok bigSkip_ok

theorem range_third {w : World} {b o : Nat} {ms : List E3} (h : w.rangeAt b o (flat ms)) {i : Nat} (hi : i < ms.length) (x : Bool) : (w.setCell ⟨b, o + (i * 3 + 2), none⟩ (.bool x)).rangeAt b o (flat (ms.set i ((ms.getD i noM).1, (ms.getD i noM).2.1, x))) := by
  have e0 : w.setCell ⟨b, o + (i * 3 + 2), none⟩ (.bool x) = w.setCells b (o + (i * 3 + 2)) [.bool x] := rfl
  have hf : ∀ l : List E3, flat l = l.flatMap (fun m : E3 => [.bool m.1, .int .i64 m.2.1, .bool m.2.2]) := fun _ => rfl
  rw [hf, own_parts ms i noM hi, List.flatMap_append, List.flatMap_cons] at h
  rw [hf, set_parts ms i _ hi, List.flatMap_append, List.flatMap_cons]
  have hl : ((ms.take i).flatMap (fun m : E3 => [Value.bool m.1, .int .i64 m.2.1, .bool m.2.2])).length = i * 3 := by rw [flatMap_len _ 3 (fun _ => rfl), List.length_take]; congr 1; omega
  have h1 := range_left h
  have h2 := range_right h hl
  have h3 := range_right h2 (show [Value.bool (ms.getD i noM).1, .int .i64 (ms.getD i noM).2.1, .bool (ms.getD i noM).2.2].length = 3 from rfl)
  have ht := range_left h2
  refine range_join hl (by rw [e0]; exact World.rangeAt_setCells_apart h1 _ _ _ (Or.inr (Or.inl (by rw [hl]; omega)))) (range_join (show [Value.bool (ms.getD i noM).1, .int .i64 (ms.getD i noM).2.1, .bool x].length = 3 from rfl) ?_ (by rw [e0]; exact World.rangeAt_setCells_apart h3 _ _ _ (Or.inr (Or.inr (by simp; omega)))))
  have t0 := ht 0 _ rfl
  have t1 := ht 1 _ rfl
  have t2 := ht 2 _ rfl
  intro j v hj
  match j, hj with
  | 0, hj =>
    simp at hj
    subst hj
    exact cellk_else t0 (by omega)
  | 1, hj =>
    simp at hj
    subst hj
    exact cellk_else t1 (by omega)
  | 2, hj =>
    simp at hj
    subst hj
    have := cellk_same (u := .bool x) t2
    rwa [show o + i * 3 + 2 = o + (i * 3 + 2) by omega] at this ⊢
theorem HouseW.mapW {w : World} {B L c : Nat} {h : Hst} (hW : HouseW w B L c h) {G : Nat} (hG : G < h.guests.length) {i : Nat} (hi : i < 6) (b : Bool) : HouseW (w.setCell ⟨L, G * 66 + (i * 3 + 2), none⟩ (.bool b)) B L c (setM h G i ((mAt h G i).1, (mAt h G i).2.1, b)) := by
  obtain ⟨s, r, t⟩ := hW.lodAt hG
  have l1 : (flat (h.guests.getD G noG).maps).length = 18 := by rw [flat_len, s.1]
  have l1' : (flat ((h.guests.getD G noG).maps.set i ((mAt h G i).1, (mAt h G i).2.1, b))).length = 18 := by rw [flat_len, List.length_set, s.1]
  have r1 := range_left r
  have r2 := range_right r l1
  refine hW.lod hG (g' := withMs (gOf h G) ((gOf h G).maps.set i ((mAt h G i).1, (mAt h G i).2.1, b))) (o := i * 3 + 2) (vs := [.bool b]) ⟨by show ((gOf h G).maps.set i _).length = 6; rw [List.length_set]; exact s.1, s.2.1, s.2.2.1, s.2.2.2⟩ (by simp; omega) ?_
  show (w.setCells L (G * 66 + (i * 3 + 2)) [.bool b]).rangeAt L (G * 66) (flat ((gOf h G).maps.set i ((mAt h G i).1, (mAt h G i).2.1, b)) ++ (sheetsC (h.guests.getD G noG).disk ++ quadsC (h.guests.getD G noG).shades))
  refine range_join l1' (range_third r1 (by rw [s.1]; exact hi) b) (World.rangeAt_setCells_apart r2 _ _ _ (Or.inr (Or.inr (by simp; omega))))

set_option maxRecDepth 100000 in
set_option maxHeartbeats 4000000 in
theorem implOwn (B L c g p : Nat) (h : Hst) (w : World) (hW : HouseW w B L c h) (k : OkH h) (hg : g < h.guests.length) (hp : p < 6) :
    Calls Try.prog 72 #[.pointer (some ⟨B, 0, none⟩), .agg #[.int .i64 g, .int .i64 p]] w fun e w' => e = .returned (.tuple #[]) ∧ HouseW w' B L c (ownP h g p) ∧ Upd2 B L w w' := by
  obtain ⟨W2, hW2⟩ : ∃ W2, W2 = w.alloc (.cells #[.int .i64 g, .int .i64 p] 99) := ⟨_, rfl⟩
  have B2 : Below w.heap.size w W2 := by rw [hW2]; exact (Below.refl _ _).alloc (Nat.le_refl _) _
  have s2 : W2.heap.size ≤ w.heap.size + 1 ∧ w.heap.size + 1 ≤ W2.heap.size := by rw [hW2]; simp
  have a2 : W2.cell? ⟨w.heap.size, 0, none⟩ = some (.int .i64 g) ∧ W2.cell? ⟨w.heap.size, 1, none⟩ = some (.int .i64 p) := by rw [hW2]; simp
  have kW := hW.belowK B2
  have lB0 : B < w.heap.size := hW.2.2.2.2.2.2.2.2.1
  have lL0 : L < w.heap.size := hW.2.2.2.2.2.2.2.2.2
  have hbr := implBringIn B L c g p h W2 kW k hg hp
  obtain ⟨k1, _, hm1⟩ := inP_ok k hg hp
  have l1 := inP_len k g p
  have hg1 : g < (inP h g p).guests.length := by omega
  have hown : ownP h g p = bif (mAt (inP h g p) g p).2.2 then inP h g p else bif usersH (inP h g p) (mAt (inP h g p) g p).2.1 == 1 then setM (inP h g p) g p (true, (mAt (inP h g p) g p).2.1, true) else inP (outP (inP h g p) g p) g p := rfl
  have Hown := hidE hown
  clear hown hW kW l1
  generalize ownP h g p = ho' at *
  generalize inP h g p = h1 at *
  go_enter Try.func72, Try.ntmps72
  go_wp2_with (fail)
  rw [← hW2]
  clear hW2
  refine hbr.mono ?_
  rintro e w3 ⟨rfl, k3, U3⟩
  have U03 := (Upd2.ofBelow (a := B) (b := L) B2).trans U3
  have s3 := U3.size
  have a30 := (World.cell?_of_block (a := ⟨w.heap.size, 0, none⟩) (U3.block w.heap.size (by omega) (by omega) (by omega))).trans a2.1
  have a31 := (World.cell?_of_block (a := ⟨w.heap.size, 1, none⟩) (U3.block w.heap.size (by omega) (by omega) (by omega))).trans a2.2
  have l30 : w.heap.size < w3.heap.size := by omega
  have lL3 : L < w3.heap.size := by omega
  have lB3 : B < w3.heap.size := by omega
  have hlods := k3.lods.1
  have hgi : (g : Int) < (h1.guests.length : Int) := by omega
  have hpi : (p : Int) < 6 := by omega
  have h0g : (0 : Int) ≤ (g : Int) := Int.natCast_nonneg _
  have h0p : (0 : Int) ≤ (p : Int) := Int.natCast_nonneg _
  obtain ⟨hsz, hr, hth⟩ := k3.lodAt hg1
  obtain ⟨_, e1, e2⟩ := lod_maps hr p (by rw [hsz.1]; exact hp)
  rw [show ((false, 0, false) : E3) = noM from rfl, show (h1.guests.getD g noG).maps.getD p noM = mAt h1 g p from rfl] at e1 e2
  have t2 := hth (p * 3 + 2) (by omega)
  rw [← Nat.add_assoc] at t2
  obtain ⟨F, hF8, hmF⟩ := okH_in k1 hg1 hp hm1
  have hmF' : (mAt h1 g p).2.1 = (F : Int) := hmF
  rw [hmF'] at e1
  have hten : (ten h1.guests (F : Int)).length = usersH h1 (F : Int) := ten_users h1 F (fun i hi => (k1.six i hi).1)
  have Hown' := hidE (And.intro (fun (e : (mAt h1 g p).2.2 = true) => (show ho' = h1 by rw [Hown.out, e]; rfl)) (fun (e : (mAt h1 g p).2.2 = false) => (show ho' = bif usersH h1 (F : Int) == 1 then setM h1 g p (true, (F : Int), true) else inP (outP h1 g p) g p by rw [Hown.out, e, hmF']; rfl)))
  have hmW := hidE (fun (W : World) (kS : HouseW W B L c h1) => kS.mapW (G := g) hg1 hp true)
  have hm1' : (mAt h1 g p).1 = true := hm1
  rw [hm1', hmF'] at hmW
  have HU := hidE U03
  have HK := hidE k3
  have hmw0 : ∃ mw, mw = (mAt h1 g p).2.2 := ⟨_, rfl⟩
  obtain ⟨mw, hmw⟩ := hmw0
  rw [← hmw] at e2 Hown'
  clear hbr a2 B2 U3 U03 hr hth hmF hmF' hm1 hm1' Hown hmw
  go_wp2_with (fail)
  go_quiet (fail)
  have B4 : Below w3.heap.size w3 (w3.drewN nq) := below_drewN (Below.refl _ _) _
  generalize w3.drewN nq = W4 at B4 ⊢
  have s4 := B4.size
  have k4 := HK.out.belowK B4
  have U4 := hidE (HU.out.trans (Upd2.ofBelow B4))
  have e1 := (B4.cell (p := ⟨L, g * 66 + p * 3 + 1, none⟩) lL3).trans e1
  have e2 := (B4.cell (p := ⟨L, g * 66 + p * 3 + 2, none⟩) lL3).trans e2
  have a30 := (B4.cell (p := ⟨w.heap.size, 0, none⟩) l30).trans a30
  have a31 := (B4.cell (p := ⟨w.heap.size, 1, none⟩) l30).trans a31
  have z2 := (B4.frozen (p := ⟨L, g * 66 + p * 3 + 2, none⟩) lL3).trans t2.2
  have lL4 : L < W4.heap.size := by omega
  have lB4 : B < W4.heap.size := by omega
  have l40 : w.heap.size < W4.heap.size := by omega
  clear B4 HK HU t2 hlods
  have HK4 := hidE k4
  clear k4
  cases mw
  rotate_left
  · have he := hidE (Hown'.out.1 rfl)
    clear Hown' hmW
    go_wp2
    refine bodyPost_ret (v := .tuple #[]) (by simp [results, Try.results72, go_sem]) rfl ?_
    rw [he.out]
    exact ⟨rfl, HK4.out, U4.out⟩
  · have he := hidE (Hown'.out.2 rfl)
    clear Hown'
    have k4 := HK4.out
    have hwf1 := okH_wf k1
    have hwF : (Lit.int .i64 (F : Int)).wf = true := wf_small (by omega) (by omega)
    have ht : ∀ W, Below W4.heap.size W4 W → Calls Try.prog 114 #[.agg (houseC h1.frames (.slice (some ⟨L, 0, none⟩) h1.guests.length c) h1.hand).toArray] W fun e w' => ∃ r, e = .returned (.map (some r)) ∧ w'.cell? ⟨L, g * 66 + p * 3 + 1, none⟩ = some (.int .i64 F) ∧ L < w'.heap.size ∧ (∃ a cc, lookRun Try.prog 137 (.map (some r)) (.int .i64 (F : Int)) w' = .ok (.slice a (usersH h1 (F : Int)) cc) w') ∧ Hid (Below W4.heap.size W4 w') := fun W hB => by
      have kW := k4.belowK hB
      refine (implTenants L h1.guests.length c h1.frames h1.hand h1.guests W k1.f8 rfl k1.n2 (fun i hi => (kW.lodAt hi).1) hwf1 kW.2.2.2.2.2.2.2.2.2 (fun i hi => (kW.lodAt hi).2.1)).mono ?_
      rintro e w' ⟨r, rfl, _, hWho, B'⟩
      have BB := hB.trans (B'.mono hB.size)
      obtain ⟨a, cc, hlk, _⟩ := hWho.look (F : Int) hwF
      have hlk' := hlk w' rfl
      rw [hten] at hlk'
      exact ⟨r, rfl, (BB.cell (p := ⟨L, g * 66 + p * 3 + 1, none⟩) lL4).trans e1, Nat.lt_of_lt_of_le lL4 BB.size, ⟨a, cc, hlk'⟩, BB⟩
    have hgv := (k4.drewK).give
    have hmid := hidE (fun W (B : Below W4.heap.size W4 W) => k4.belowK B)
    have Hten := hidE hten
    clear hwf1 k4 hten
    generalize usersH h1 (F : Int) = uu at *
    generalize (houseC h1.frames (.slice (some ⟨L, 0, none⟩) h1.guests.length c) h1.hand).toArray = hs at *
    have htd := ht _ ((Below.refl W4.heap.size W4).drew)
    clear ht
    go_wp2_with (fail)
    go_cut [4, 33] (fun s s2 wx => s = .pointer (some ⟨L, g * 66 + p * 3, none⟩) ∧ s2 = .bool ((uu : Int) == 1) ∧ Hid (Below W4.heap.size W4 wx))
    case first =>
      go_region_with (go_at_call 114; refine htd.mono ?_; rintro e w5 ⟨r, rfl, q1, lL5, ⟨a, cc, hlk⟩, HB5⟩)
      all_goals go_wp2_with fail
      all_goals go_meet
      all_goals exact ⟨rfl, rfl, HB5⟩
    case rest =>
      obtain ⟨rfl, rfl, HB5⟩ := hcut
      have k5 := hmid.out wc HB5.out
      have s5 := HB5.out.size
      have b50 := (HB5.out.cell (p := ⟨w.heap.size, 0, none⟩) l40).trans a30
      have b51 := (HB5.out.cell (p := ⟨w.heap.size, 1, none⟩) l40).trans a31
      have r2 := (HB5.out.cell (p := ⟨L, g * 66 + p * 3 + 2, none⟩) lL4).trans e2
      have y2 := (HB5.out.frozen (p := ⟨L, g * 66 + p * 3 + 2, none⟩) lL4).trans z2
      have U5 := hidE (U4.out.trans (Upd2.ofBelow HB5.out))
      have lL5 : L < wc.heap.size := by omega
      have l50 : w.heap.size < wc.heap.size := by omega
      clear hgv htd e1 e2 a30 a31 z2 hmid HB5
      by_cases hu1 : uu = 1
      · subst hu1
        have he' := hidE (show ho' = setM h1 g p (true, (F : Int), true) by rw [he.out]; rfl)
        have k6 := hidE (hmW.out wc k5)
        rw [← Nat.add_assoc] at k6
        have U6 := hidE (U5.out.trans (Upd2.right ((Upd.refl L wc).put (g * 66 + p * 3 + 2) (.bool true))))
        clear k5 he
        go_wp2
        refine bodyPost_ret (v := .tuple #[]) (by simp [results, Try.results72, go_sem]) rfl ?_
        rw [he'.out]
        exact ⟨rfl, k6.out, U6.out⟩
      · have hne : ((uu : Int) == 1) = false := by simp; omega
        have he' := hidE (show ho' = inP (outP h1 g p) g p by rw [he.out, show (uu == 1) = false by simpa using hu1]; rfl)
        have k2 : OkH (outP h1 g p) := okHost_of (okHost_out (okHost_mk k1) hg1 hp)
        have hto := implTakeOut B L c g p h1 wc k5 hg1 hp (fun hm => okH_in k1 hg1 hp hm)
        have hbi := fun (W : World) (kS : HouseW W B L c (outP h1 g p)) => implBringIn B L c g p (outP h1 g p) W kS k2 (by rw [outP_len]; exact hg1) hp
        rw [hne]
        clear k5 he
        go_wp2_with (fail)
        refine hto.mono ?_
        rintro e w6 ⟨rfl, k6, s6, x6, b6⟩
        have U6 := upd_of s6 x6 b6
        have hbi6 := hbi w6 k6
        have c60 := (World.cell?_of_block (a := ⟨w.heap.size, 0, none⟩) (x6 w.heap.size (by omega) (by omega))).trans b50
        have c61 := (World.cell?_of_block (a := ⟨w.heap.size, 1, none⟩) (x6 w.heap.size (by omega) (by omega))).trans b51
        have U06 := hidE (U5.out.trans (Upd2.right U6))
        have l60 : w.heap.size < w6.heap.size := by omega
        clear hto k6 s6 x6 b6 U6 b50 b51 hbi
        go_wp2_with (fail)
        refine hbi6.mono ?_
        rintro e w7 ⟨rfl, k7, U7⟩
        have k7 := hidE k7
        have U07 := hidE (U06.out.trans U7)
        clear hbi6 U7
        go_wp2
        refine bodyPost_end (v := .tuple #[]) (by simp [results, Try.results72, go_sem]) rfl ?_
        rw [he'.out]
        exact ⟨rfl, k7.out, U07.out⟩
end Go.Proofs.Ytdamdjhnhkmncaa
