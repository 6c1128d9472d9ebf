/-
  What the program's own takeOut does.
-/
import Derived.Test.YtdamdjhnhkmncaaKImplOut0
import Derived.Test.YtdamdjhnhkmncaaKD
set_option linter.unusedSimpArgs false
namespace Go.Proofs.Ytdamdjhnhkmncaa
open Go.RowKit
attribute [local go_sem ↓] Go.wp_at_zero Go.wp_at_succ exec_app exec_lod exec_house exec_mapsA exec_allocL exec_storeL exec_buildL exec_idxM exec_look exec_upd exec_allocH exec_buildH exec_storeH exec_bsL exec_storeQ exec_loadQ exec_idxQ
attribute [local go_sem] bigNext_ok bigSkip_ok

set_option maxRecDepth 100000 in
set_option maxHeartbeats 8000000 in
theorem implTakeOut (B L c g p : Nat) (h : Hst) (w : World) (hW : HouseW w B L c h) (hg : g < h.guests.length) (hp : p < 6) (hin : ((gOf h g).maps.getD p noM).1 = true → ∃ F : Nat, F < 8 ∧ ((gOf h g).maps.getD p noM).2.1 = (F : Int)) :
    Calls Try.prog 115 #[.pointer (some ⟨B, 0, none⟩), .agg #[.int .i64 g, .int .i64 p]] w fun e w' => e = .returned (.tuple #[]) ∧ HouseW w' B L c (outP h g p) ∧ w.heap.size ≤ w'.heap.size ∧ (∀ j, j < w.heap.size → j ≠ L → w'.heap[j]? = w.heap[j]?) ∧ Below L w w' := by
  obtain ⟨W2, hW2⟩ : ∃ W2, W2 = w.alloc (.cells #[.int .i64 g, .int .i64 p] 99) := ⟨_, rfl⟩
  have B2 : Below w.heap.size w W2 := by rw [hW2]; exact (Below.refl _ _).alloc (Nat.le_refl _) _
  have s2 : W2.heap.size ≤ w.heap.size + 1 ∧ w.heap.size + 1 ≤ W2.heap.size := by rw [hW2]; simp
  have a2 : W2.cell? ⟨w.heap.size, 0, none⟩ = some (.int .i64 g) ∧ W2.cell? ⟨w.heap.size, 1, none⟩ = some (.int .i64 p) := by rw [hW2]; simp
  have kW := hW.belowK B2
  have lB0 : B < w.heap.size := hW.2.2.2.2.2.2.2.2.1
  have lL0 : L < w.heap.size := hW.2.2.2.2.2.2.2.2.2
  have lB : B < W2.heap.size := by omega
  have lL : L < W2.heap.size := by omega
  have l0 : w.heap.size < W2.heap.size := by omega
  have hlods := kW.lods.1
  have hgi : (g : Int) < (h.guests.length : Int) := by omega
  have hpi : (p : Int) < 6 := by omega
  have h0g : (0 : Int) ≤ (g : Int) := Int.natCast_nonneg _
  have h0p : (0 : Int) ≤ (p : Int) := Int.natCast_nonneg _
  obtain ⟨a20, a21⟩ := a2
  obtain ⟨hsz, hr, hth⟩ := kW.lodAt hg
  obtain ⟨e0, e1, e2⟩ := lod_maps hr p (by rw [hsz.1]; exact hp)
  rw [show ((false, 0, false) : E3) = noM from rfl, show h.guests.getD g noG = gOf h g from rfl] at e0 e1 e2
  generalize hlg : h.guests.length = lg at *
  generalize hmm : (gOf h g).maps.getD p noM = mm at *
  obtain ⟨mi, mf, mw⟩ := mm
  simp only at e0 e1 e2 hin
  go_enter Try.func115, Try.ntmps115
  go_wp2_with (fail)
  rw [← hW2]
  clear hW2
  go_quiet (fail)
  go_wp2_with (fail)
  have B3 : Below W2.heap.size W2 (W2.drewN nq) := below_drewN (Below.refl _ _) _
  have s3 : (W2.drewN nq).heap.size ≤ W2.heap.size ∧ W2.heap.size ≤ (W2.drewN nq).heap.size := ⟨Nat.le_refl _, Nat.le_refl _⟩
  generalize W2.drewN nq = W3 at B3 s3 ⊢
  have k3 := hidE (kW.belowK B3)
  have a31 := (B3.cell (p := ⟨w.heap.size, 1, none⟩) l0).trans a21
  have a30 := (B3.cell (p := ⟨w.heap.size, 0, none⟩) l0).trans a20
  have e30 := (B3.cell (p := ⟨L, g * 66 + p * 3, none⟩) lL).trans e0
  have e31 := (B3.cell (p := ⟨L, g * 66 + p * 3 + 1, none⟩) lL).trans e1
  have e32 := (B3.cell (p := ⟨L, g * 66 + p * 3 + 2, none⟩) lL).trans e2
  have r0 : w.heap.size < W3.heap.size := by omega
  have rL : L < W3.heap.size := by omega
  have B23 := hidE (B2.trans (B3.mono (by omega)))
  clear kW hr hth e0 e1 e2 B3 B2 hlods a20 a21
  go_cut [5] (fun s wx => s = .pointer (some ⟨W3.heap.size, 0, none⟩) ∧ wx = (W3.alloc (.cells #[.bool mi, .int .i64 mf, .bool mw] 76)).drew)
  case first =>
    go_region_with (fail)
    all_goals go_wp2_with fail
    all_goals go_meet
    all_goals exact ⟨rfl, rfl⟩
  case rest =>
    obtain ⟨rfl, hwc⟩ := hcut
    have hB5 : Below W3.heap.size W3 wc := by rw [hwc]; exact ((Below.refl _ _).alloc (Nat.le_refl _) _).drew
    have s5 : wc.heap.size ≤ W3.heap.size + 1 ∧ W3.heap.size + 1 ≤ wc.heap.size := by rw [hwc]; simp
    have v5 : wc.cell? ⟨W3.heap.size, 0, none⟩ = some (.bool mi) ∧ wc.cell? ⟨W3.heap.size, 1, none⟩ = some (.int .i64 mf) ∧ wc.cell? ⟨W3.heap.size, 2, none⟩ = some (.bool mw) := by rw [hwc]; simp
    have k5 := k3.out.belowK hB5
    have a51 := (hB5.cell (p := ⟨w.heap.size, 1, none⟩) r0).trans a31
    have a50 := (hB5.cell (p := ⟨w.heap.size, 0, none⟩) r0).trans a30
    have B5 := hidE (B23.out.trans (hB5.mono (by omega)))
    obtain ⟨v50, v51, v52⟩ := v5
    have lm : W3.heap.size < wc.heap.size := by omega
    have lw : w.heap.size < wc.heap.size := by omega
    clear hwc hB5 e30 e31 e32 a31 a30 k3 B23
    cases mi
    · have hout : outP h g p = h := by rw [outP, hmm]; rfl
      have Hk5 := hidE k5
      have Hout := hidE hout
      clear k5 hout
      go_wp2
      refine bodyPost_ret (v := .tuple #[]) (by simp [results, Try.results115, go_sem]) rfl ?_
      rw [Hout.out]
      exact ⟨rfl, Hk5.out, B5.out.size, fun j h1 _ => B5.out.block j h1, B5.out.mono (by omega)⟩
    · obtain ⟨F, hF8, rfl⟩ := hin rfl
      have hfi : (F : Int) < 8 := by omega
      have h0f : (0 : Int) ≤ (F : Int) := Int.natCast_nonneg _
      have hfr := range_sheets (range_left k5.1) F (by rw [k5.2.2.2.2.2.1]; exact hF8)
      obtain ⟨z0, z1, z2, z3⟩ := hfr
      rw [Nat.zero_add] at z0 z1 z2 z3
      have hz4 := k5.2.2.2.2.2.2.1 F hF8
      have lBc : B < wc.heap.size := k5.2.2.2.2.2.2.2.2.1
      have lLc : L < wc.heap.size := k5.2.2.2.2.2.2.2.2.2
      obtain ⟨_, _, hth⟩ := k5.lodAt (G := g) (by rw [hlg]; exact hg)
      have t0 := hth (18 + p * 4) (by omega)
      have t1 := hth (18 + p * 4 + 1) (by omega)
      have t2 := hth (18 + p * 4 + 2) (by omega)
      have t3 := hth (18 + p * 4 + 3) (by omega)
      obtain ⟨u0, hu0⟩ := Option.isSome_iff_exists.1 t0.1
      obtain ⟨u1, hu1⟩ := Option.isSome_iff_exists.1 t1.1
      obtain ⟨u2, hu2⟩ := Option.isSome_iff_exists.1 t2.1
      obtain ⟨u3, hu3⟩ := Option.isSome_iff_exists.1 t3.1
      have f0 := t0.2
      have f1 := t1.2
      have f2 := t2.2
      have f3 := t3.2
      rw [show g * 66 + (18 + p * 4) = g * 66 + 18 + p * 4 by omega] at hu0 f0
      rw [show g * 66 + (18 + p * 4 + 1) = g * 66 + 18 + p * 4 + 1 by omega] at hu1 f1
      rw [show g * 66 + (18 + p * 4 + 2) = g * 66 + 18 + p * 4 + 2 by omega] at hu2 f2
      rw [show g * 66 + (18 + p * 4 + 3) = g * 66 + 18 + p * 4 + 3 by omega] at hu3 f3
      have kd := k5.disk (G := g) (by rw [hlg]; exact hg) hp (h.frames.getD F []) hz4
      rw [show g * 66 + (18 + p * 4) = g * 66 + 18 + p * 4 by omega] at kd
      have Hkd := hidE kd
      have hneB := hidE k5.2.2.2.2.1
      have hlc := k5.lods.1
      rw [hlg] at hlc
      clear k5 kd hth t0 t1 t2 t3
      generalize hpg : h.frames.getD F [] = pg at *
      generalize hy0 : pg.getD 0 0 = y0 at *
      generalize hy1 : pg.getD 1 0 = y1 at *
      generalize hy2 : pg.getD 2 0 = y2 at *
      generalize hy3 : pg.getD 3 0 = y3 at *
      obtain ⟨W6, hW6⟩ : ∃ W6, W6 = (((wc.setCell ⟨L, g * 66 + 18 + p * 4, none⟩ (.int .i64 y0)).setCell ⟨L, g * 66 + 18 + p * 4 + 1, none⟩ (.int .i64 y1)).setCell ⟨L, g * 66 + 18 + p * 4 + 2, none⟩ (.int .i64 y2)).setCell ⟨L, g * 66 + 18 + p * 4 + 3, none⟩ (.int .i64 y3) := ⟨_, rfl⟩
      have hWs : wc.setCells L (g * 66 + 18 + p * 4) (sheetC pg) = W6 := by
        rw [hW6, sheetC, hy0, hy1, hy2, hy3]
        rfl
      have k6 := hidE (show HouseW W6 B L c _ from hWs ▸ Hkd.out)
      have s6 : W6.heap.size ≤ wc.heap.size ∧ wc.heap.size ≤ W6.heap.size := by rw [hW6]; simp
      have x6 := hidE (show ∀ j, j ≠ L → W6.heap[j]? = wc.heap[j]? from fun j h2 => by rw [hW6, Below.heap_setCell _ _ _ _ (by simpa using h2), Below.heap_setCell _ _ _ _ (by simpa using h2), Below.heap_setCell _ _ _ _ (by simpa using h2), Below.heap_setCell _ _ _ _ (by simpa using h2)])
      have BLc : Below L w wc := B5.out.mono (Nat.le_of_lt lL0)
      have b6 := hidE (show Below L w W6 by
        rw [hW6]
        exact (((BLc.setCell (p := ⟨L, g * 66 + 18 + p * 4, none⟩) (Nat.le_refl _) _).setCell (p := ⟨L, g * 66 + 18 + p * 4 + 1, none⟩) (Nat.le_refl _) _).setCell (p := ⟨L, g * 66 + 18 + p * 4 + 2, none⟩) (Nat.le_refl _) _).setCell (p := ⟨L, g * 66 + 18 + p * 4 + 3, none⟩) (Nat.le_refl _) _)
      clear hWs Hkd BLc hy0 hy1 hy2 hy3 hlc
      go_wp2_with (fail)
      go_cut [4] (fun s wx => s = .pointer (some ⟨L, g * 66, none⟩) ∧ wx = W6.drew)
      case first =>
        go_region_with (fail)
        all_goals go_wp2_with fail
        all_goals go_meet
        all_goals exact ⟨rfl, by rw [hW6]⟩
      case rest =>
        obtain ⟨rfl, hwx⟩ := hcut
        have hB7 : Below W6.heap.size W6 wc := by rw [hwx]; exact (Below.refl _ _).drew
        have s7 : wc.heap.size ≤ W6.heap.size ∧ W6.heap.size ≤ wc.heap.size := by rw [hwx]; exact ⟨Nat.le_refl _, Nat.le_refl _⟩
        have k7 := k6.out.belowK hB7
        have hneL : w.heap.size ≠ L := by omega
        have a60 := (World.cell?_of_block (a := ⟨w.heap.size, 0, none⟩) (x6.out _ hneL)).trans a50
        have a61 := (World.cell?_of_block (a := ⟨w.heap.size, 1, none⟩) (x6.out _ hneL)).trans a51
        have l6w : w.heap.size < W6.heap.size := by omega
        have a70 := (hB7.cell (p := ⟨w.heap.size, 0, none⟩) l6w).trans a60
        have a71 := (hB7.cell (p := ⟨w.heap.size, 1, none⟩) l6w).trans a61
        have l7w : w.heap.size < wc.heap.size := by omega
        have hset := implSettle B L c g p _ noM wc k7 (by rw [setG_len, hlg]; exact hg) hp
        have hfin : setG (setG h g { h.guests.getD g noG with disk := (h.guests.getD g noG).disk.set p pg }) g (settled (gOf (setG h g { h.guests.getD g noG with disk := (h.guests.getD g noG).disk.set p pg }) g) p noM 6) = outP h g p := by
          have e : gOf (setG h g { h.guests.getD g noG with disk := (h.guests.getD g noG).disk.set p pg }) g = { h.guests.getD g noG with disk := (h.guests.getD g noG).disk.set p pg } := gOf_set_same (by rw [hlg]; exact hg)
          have hpm : pageM h.frames (gOf h g) p = pg := by rw [pageM, hmm]; simpa using hpg
          rw [e, setG_setG, outP, hmm, outG1, hpm]
          rfl
        rw [hfin] at hset
        have HX7 := hidE (show ∀ j, j < w.heap.size → j ≠ L → wc.heap[j]? = w.heap[j]? from fun j h1 h2 => (hB7.block j (by omega)).trans ((x6.out j h2).trans (B5.out.block j h1)))
        have HB7 := hidE (show Below L w wc from b6.out.trans (hB7.mono (by omega)))
        clear hwx hB7 k7 k6 x6 b6 hfin a60 a61 a50 a51 v50 v51 v52 hW6 hu0 hu1 hu2 hu3 f0 f1 f2 f3 z0 z1 z2 z3
        go_wp2_with (fail)
        refine hset.mono ?_
        rintro e W8 ⟨rfl, k8, s8, x8, b8⟩
        have Hk8 := hidE k8
        have HX8 := hidE (show ∀ j, j < w.heap.size → j ≠ L → W8.heap[j]? = w.heap[j]? from fun j h1 h2 => (x8 j (by omega) h2).trans (HX7.out j h1 h2))
        have HB8 := hidE (HB7.out.trans b8)
        have sz8 : w.heap.size ≤ W8.heap.size := by omega
        clear hset k8 x8 b8
        go_wp2
        refine bodyPost_end (v := .tuple #[]) (by simp [results, Try.results115, go_sem]) rfl ?_
        exact ⟨rfl, Hk8.out, sz8, HX8.out, HB8.out⟩
end Go.Proofs.Ytdamdjhnhkmncaa
