/-
  What the program's own settle does: a map of a page written, and the shades of the page forgotten.
-/
import Derived.Test.YtdamdjhnhkmncaaKImplForget0
import Derived.Test.YtdamdjhnhkmncaaKD
import Derived.Test.YtdamdjhnhkmncaaKWalkFnExactHostOk
set_option linter.unusedSimpArgs false
namespace Go.Proofs.Ytdamdjhnhkmncaa
open Go.RowKit
attribute [local go_sem ↓] Go.wp_at_zero Go.wp_at_succ exec_app exec_lod exec_house exec_mapsA exec_allocL exec_storeL exec_buildL exec_idxM exec_look exec_upd exec_allocH exec_buildH exec_storeH exec_bsL
attribute [local go_sem] bigNext_ok bigSkip_ok

theorem exec_loadQ (ρ : Operand → Value) (dst : Option Tmp) (ty : TypeId) (pos : String) (after : Array _) (guard : Option _) (x : Operand) (w : World) :
    (execOp ρ ⟨dst, .load 82 x, ty, pos, after, guard⟩).run Try.prog w = bigNext (bigRun Try.prog 82 (ρ x) w) := by
  unfold bigRun execOp
  simp only [Sem.run_bind]
  cases (Instr.loadAt 82 (ρ x)).run Try.prog w <;> rfl
theorem exec_idxQ (ρ : Operand → Value) (dst : Option Tmp) (ty : TypeId) (pos : String) (after : Array _) (guard : Option _) (x y : Operand) (w : World) :
    (execOp ρ ⟨dst, .index 82 x y, ty, pos, after, guard⟩).run Try.prog w = bigNext (idxRun Try.prog 82 (ρ x) (ρ y) w) := by
  unfold idxRun execOp
  simp only [Sem.run_bind]
  cases (Instr.index 82 (ρ x) (ρ y)).run Try.prog w <;> rfl
attribute [local go_sem ↓] exec_storeQ exec_loadQ exec_idxQ
theorem idxq_at0 (m0 m1 m2 m3 m4 m5 : S4) (w : World) : idxRun Try.prog 82 (.agg (quadsC [m0, m1, m2, m3, m4, m5]).toArray) (.int .i64 0) w = .ok (.agg #[.bool m0.1, .int .i64 m0.2.1, .int .i64 m0.2.2.1, .bool m0.2.2.2]) w := by kernel_rfl
theorem idxq_at1 (m0 m1 m2 m3 m4 m5 : S4) (w : World) : idxRun Try.prog 82 (.agg (quadsC [m0, m1, m2, m3, m4, m5]).toArray) (.int .i64 1) w = .ok (.agg #[.bool m1.1, .int .i64 m1.2.1, .int .i64 m1.2.2.1, .bool m1.2.2.2]) w := by kernel_rfl
theorem idxq_at2 (m0 m1 m2 m3 m4 m5 : S4) (w : World) : idxRun Try.prog 82 (.agg (quadsC [m0, m1, m2, m3, m4, m5]).toArray) (.int .i64 2) w = .ok (.agg #[.bool m2.1, .int .i64 m2.2.1, .int .i64 m2.2.2.1, .bool m2.2.2.2]) w := by kernel_rfl
theorem idxq_at3 (m0 m1 m2 m3 m4 m5 : S4) (w : World) : idxRun Try.prog 82 (.agg (quadsC [m0, m1, m2, m3, m4, m5]).toArray) (.int .i64 3) w = .ok (.agg #[.bool m3.1, .int .i64 m3.2.1, .int .i64 m3.2.2.1, .bool m3.2.2.2]) w := by kernel_rfl
theorem idxq_at4 (m0 m1 m2 m3 m4 m5 : S4) (w : World) : idxRun Try.prog 82 (.agg (quadsC [m0, m1, m2, m3, m4, m5]).toArray) (.int .i64 4) w = .ok (.agg #[.bool m4.1, .int .i64 m4.2.1, .int .i64 m4.2.2.1, .bool m4.2.2.2]) w := by kernel_rfl
theorem idxq_at5 (m0 m1 m2 m3 m4 m5 : S4) (w : World) : idxRun Try.prog 82 (.agg (quadsC [m0, m1, m2, m3, m4, m5]).toArray) (.int .i64 5) w = .ok (.agg #[.bool m5.1, .int .i64 m5.2.1, .int .i64 m5.2.2.1, .bool m5.2.2.2]) w := by kernel_rfl
theorem idx_quads (ms : List S4) (hm : ms.length = 6) (k : Nat) (hk : k < 6) (w : World) : idxRun Try.prog 82 (.agg (quadsC ms).toArray) (.int .i64 k) w = .ok (.agg #[.bool (ms.getD k noS).1, .int .i64 (ms.getD k noS).2.1, .int .i64 (ms.getD k noS).2.2.1, .bool (ms.getD k noS).2.2.2]) w := by
  match ms, hm with
  | [m0, m1, m2, m3, m4, m5], _ =>
    match k, hk with
    | 0, _ => exact idxq_at0 m0 m1 m2 m3 m4 m5 w
    | 1, _ => exact idxq_at1 m0 m1 m2 m3 m4 m5 w
    | 2, _ => exact idxq_at2 m0 m1 m2 m3 m4 m5 w
    | 3, _ => exact idxq_at3 m0 m1 m2 m3 m4 m5 w
    | 4, _ => exact idxq_at4 m0 m1 m2 m3 m4 m5 w
    | 5, _ => exact idxq_at5 m0 m1 m2 m3 m4 m5 w

theorem HouseW.loadQ {w : World} {B L c : Nat} {h : Hst} (hW : HouseW w B L c h) {G : Nat} (hG : G < h.guests.length) : bigRun Try.prog 82 (.pointer (some ⟨L, G * 66 + 42, none⟩)) w = .ok (.agg (quadsC (gOf h G).shades).toArray) w := by
  obtain ⟨s, r, t⟩ := hW.lodAt hG
  have l1 : (flat (h.guests.getD G noG).maps).length = 18 := by rw [flat_len, s.1]
  have l2 : (sheetsC (h.guests.getD G noG).disk).length = 24 := by rw [sheetsC_len, s.2.1]
  have r3 := range_right (range_right r l1) l2
  have hq : (Try.prog.info? 82).map (·.size) = some (quadsC (gOf h G).shades).length := by
    rw [quadsC_len, show (gOf h G).shades.length = 6 from s.2.2.2]
    kernel_rfl
  exact big_load Try.underlying82 rfl hq _ _ w r3

theorem fU_get (ss : List S4) (p : Int) : ∀ k j, k ≤ j → (fU ss p k).getD j noS = ss.getD j noS
  | 0, _, _ => rfl
  | k + 1, j, h => by
    rw [fU]
    cases hitS p ((fU ss p k).getD k noS)
    · exact fU_get ss p k j (by omega)
    · rw [cond_true, getD_set_ne _ _ _ (by omega)]
      exact fU_get ss p k j (by omega)
def settled (x : Gst) (p : Nat) (m : E3) (k : Nat) : Gst := ⟨x.maps.set p m, x.disk, fU x.shades (p : Int) k⟩

set_option maxRecDepth 100000 in
set_option maxHeartbeats 8000000 in
theorem implSettle (B L c g p : Nat) (h : Hst) (m : E3) (w : World) (hW : HouseW w B L c h) (hg : g < h.guests.length) (hp : p < 6) :
    Calls Try.prog 123 #[.pointer (some ⟨B, 0, none⟩), .agg #[.int .i64 g, .int .i64 p], .agg #[.bool m.1, .int .i64 m.2.1, .bool m.2.2]] w fun e w' => e = .returned (.tuple #[]) ∧ HouseW w' B L c (setG h g (settled (gOf h g) p m 6)) ∧ w.heap.size ≤ w'.heap.size ∧ (∀ j, j < w.heap.size → j ≠ L → w'.heap[j]? = w.heap[j]?) ∧ Below L w w' := by
  obtain ⟨W2, hW2⟩ : ∃ W2, W2 = (w.alloc (.cells #[.int .i64 g, .int .i64 p] 99)).alloc (.cells #[.bool m.1, .int .i64 m.2.1, .bool m.2.2] 76) := ⟨_, rfl⟩
  have B2 : Below w.heap.size w W2 := by rw [hW2]; exact ((Below.refl _ _).alloc (Nat.le_refl _) _).alloc (by simp) _
  have s2 : W2.heap.size ≤ w.heap.size + 2 ∧ w.heap.size + 2 ≤ W2.heap.size := by rw [hW2]; simp
  have a2 : W2.cell? ⟨w.heap.size, 0, none⟩ = some (.int .i64 g) ∧ W2.cell? ⟨w.heap.size, 1, none⟩ = some (.int .i64 p) := by rw [hW2]; simp
  have m2 : Var3 W2 (w.heap.size + 1) (.bool m.1) (.int .i64 m.2.1) (.bool m.2.2) := by rw [hW2]; exact var3_newK (by simp)
  have kW := hW.belowK B2
  have lB0 : B < w.heap.size := hW.2.2.2.2.2.2.2.2.1
  have lL0 : L < w.heap.size := hW.2.2.2.2.2.2.2.2.2
  have lB : B < W2.heap.size := by omega
  have lL : L < W2.heap.size := by omega
  have l0 : w.heap.size < W2.heap.size := by omega
  have l1 : w.heap.size + 1 < W2.heap.size := by omega
  have hlods := kW.lods.1
  have hgi : (g : Int) < (h.guests.length : Int) := by omega
  have hpi : (p : Int) < 6 := by omega
  have h0g : (0 : Int) ≤ (g : Int) := Int.natCast_nonneg _
  have h0p : (0 : Int) ≤ (p : Int) := Int.natCast_nonneg _
  obtain ⟨a20, a21⟩ := a2
  obtain ⟨m20, m21, m22, _, _, _⟩ := m2
  obtain ⟨_, _, hth⟩ := kW.lodAt hg
  have t0 := hth (p * 3) (by omega)
  have t1 := hth (p * 3 + 1) (by omega)
  have t2 := hth (p * 3 + 2) (by omega)
  generalize hlg : h.guests.length = lg at *
  go_enter Try.func123, Try.ntmps123
  go_wp2_with (fail)
  rw [← hW2]
  clear hW2
  go_quiet (fail)
  go_wp2_with (fail)
  have B3 : Below W2.heap.size W2 (W2.drewN nq) := below_drewN (Below.refl _ _) _
  have s3 : (W2.drewN nq).heap.size ≤ W2.heap.size ∧ W2.heap.size ≤ (W2.drewN nq).heap.size := ⟨Nat.le_refl _, Nat.le_refl _⟩
  generalize W2.drewN nq = W3 at B3 s3 ⊢
  have k3 := kW.belowK B3
  have a30 := (B3.cell (p := ⟨w.heap.size, 0, none⟩) l0).trans a20
  have a31 := (B3.cell (p := ⟨w.heap.size, 1, none⟩) l0).trans a21
  obtain ⟨m30, m31, m32⟩ := cells3 B3 l1 ⟨m20, m21, m22⟩
  obtain ⟨_, _, hth⟩ := k3.lodAt (by rw [hlg]; exact hg)
  have t0 := hth (p * 3) (by omega)
  have t1 := hth (p * 3 + 1) (by omega)
  have t2 := hth (p * 3 + 2) (by omega)
  obtain ⟨v0, hv0⟩ := Option.isSome_iff_exists.1 t0.1
  obtain ⟨v1, hv1⟩ := Option.isSome_iff_exists.1 t1.1
  obtain ⟨v2, hv2⟩ := Option.isSome_iff_exists.1 t2.1
  have f0 := t0.2
  have f1 := t1.2
  have f2 := t2.2
  rw [← Nat.add_assoc] at hv1 hv2 f1 f2
  have r0 : w.heap.size < W3.heap.size := by omega
  have r1 : w.heap.size + 1 < W3.heap.size := by omega
  have rL : L < W3.heap.size := by omega
  have k4 := k3.map (by rw [hlg]; exact hg) hp m
  obtain ⟨W4, hW4⟩ : ∃ W4, W4 = ((W3.setCell ⟨L, g * 66 + p * 3, none⟩ (.bool m.1)).setCell ⟨L, g * 66 + p * 3 + 1, none⟩ (.int .i64 m.2.1)).setCell ⟨L, g * 66 + p * 3 + 2, none⟩ (.bool m.2.2) := ⟨_, rfl⟩
  have k4 : HouseW W4 B L c (setG h g { h.guests.getD g noG with maps := (h.guests.getD g noG).maps.set p m }) := by rw [hW4]; exact k4
  have B24 := B2.trans (B3.mono (by omega))
  have B4 : Below L w W4 := by
    rw [hW4]
    have BL : Below L w W3 := B24.mono (Nat.le_of_lt lL0)
    exact ((BL.setCell (p := ⟨L, g * 66 + p * 3, none⟩) (Nat.le_refl _) _).setCell (p := ⟨L, g * 66 + p * 3 + 1, none⟩) (Nat.le_refl _) _).setCell (p := ⟨L, g * 66 + p * 3 + 2, none⟩) (Nat.le_refl _) _
  have X4 : ∀ j, j < w.heap.size → j ≠ L → W4.heap[j]? = w.heap[j]? := fun j h1 h2 => by
    rw [hW4, Below.heap_setCell _ _ _ _ (by simpa using h2), Below.heap_setCell _ _ _ _ (by simpa using h2), Below.heap_setCell _ _ _ _ (by simpa using h2)]
    exact B24.block j h1
  have a4 : W4.cell? ⟨w.heap.size, 1, none⟩ = some (.int .i64 p) := by
    rw [hW4]
    exact cellk_offK (cellk_offK (cellk_offK a31 (by omega)) (by omega)) (by omega)
  have s4 : W4.heap.size ≤ W3.heap.size ∧ W3.heap.size ≤ W4.heap.size := by rw [hW4]; simp
  have Hk4 := hidE k4
  have HB4 := hidE B4
  have HX4 := hidE X4
  clear kW k3 k4 hth t0 t1 t2 B24 B4 X4 B3 hlods a20 a21 m20 m21 m22
  go_cut [6] (fun s wx => s = .pointer (some ⟨L, g * 66, none⟩) ∧ wx = W4.drew)
  case first =>
    go_region_with (fail)
    all_goals go_wp2_with fail
    all_goals go_meet
    all_goals exact ⟨rfl, by rw [hW4]⟩
  case rest =>
    obtain ⟨rfl, hwc⟩ := hcut
    have hB5 : Below W4.heap.size W4 wc := by rw [hwc]; exact (Below.refl _ _).drew
    have s5 : wc.heap.size ≤ W4.heap.size ∧ W4.heap.size ≤ wc.heap.size := by rw [hwc]; exact ⟨Nat.le_refl _, Nat.le_refl _⟩
    have k5 := Hk4.out.belowK hB5
    have hql := k5.loadQ (G := g) (by rw [setG_len, hlg]; exact hg)
    have e5 : gOf (setG h g { h.guests.getD g noG with maps := (h.guests.getD g noG).maps.set p m }) g = { h.guests.getD g noG with maps := (h.guests.getD g noG).maps.set p m } := gOf_set_same (by rw [hlg]; exact hg)
    rw [e5] at hql
    have a5 := (hB5.cell (p := ⟨w.heap.size, 1, none⟩) (show w.heap.size < W4.heap.size by omega)).trans a4
    have Hk5 := hidE k5
    have HB5 := hidE (show Below L w wc from HB4.out.trans (hB5.mono (by omega)))
    have HX5 := hidE (show ∀ j, j < w.heap.size → j ≠ L → wc.heap[j]? = w.heap[j]? from fun j h1 h2 => (hB5.block j (by omega)).trans (HX4.out j h1 h2))
    have hs6 : (gOf h g).shades.length = 6 := (hW.lodAt (by rw [hlg]; exact hg)).1.2.2.2
    have hidx := fun W k hk => idx_quads (gOf h g).shades hs6 k hk W
    have lW5 : L < wc.heap.size := by omega
    have l05 : w.heap.size < wc.heap.size := by omega
    clear hW4 hwc k5 Hk4 HB4 HX4 a4 hv0 hv1 hv2 f0 f1 f2 a30 a31 m30 m31 m32 e5
    rw [show ({ h.guests.getD g noG with maps := (h.guests.getD g noG).maps.set p m } : Gst).shades = (gOf h g).shades from rfl] at hql
    generalize hqs : (quadsC (gOf h g).shades).toArray = qs at *
    have Hk5' : Hid (HouseW wc B L c (setG h g (settled (gOf h g) p m 0))) := Hk5.out
    clear Hk5
    go_wp2_with (fail)
    go_loopw [7, 8, 27] (fun _ _ i wr => ∃ k : Nat, k ≤ 6 ∧ i = .int .i64 k ∧ Hid (HouseW wr B L c (setG h g (settled (gOf h g) p m k))) ∧ Hid (wr.cell? ⟨w.heap.size, 1, none⟩ = some (.int .i64 p)) ∧ Hid (Below L w wr) ∧ Hid (∀ j, j < w.heap.size → j ≠ L → wr.heap[j]? = w.heap[j]?) ∧ Hid (wc.heap.size ≤ wr.heap.size)) (fun _ _ i _ => 6 - (intOf i).toNat)
    case atStart => exact ⟨0, Nat.zero_le _, rfl, Hk5'.out, a5, HB5.out, HX5.out, Nat.le_refl _⟩
    case round =>
      clear Hk5' HB5 HX5 a5 hql
      obtain ⟨k, hk, rfl, HK, HA, HB, HX, HS⟩ := hrel
      have ar := HA.out
      have hsz := HS.out
      have lr0 : w.heap.size < wr.heap.size := by omega
      have lrL : L < wr.heap.size := by omega
      by_cases hkl : k < 6
      · have hki : (k : Int) < 6 := by omega
        have hik := hidx wr k hkl
        have hget := fU_get (gOf h g).shades (p : Int) k k (Nat.le_refl _)
        have hstp : fU (gOf h g).shades (p : Int) (k + 1) = bif hitS (p : Int) ((gOf h g).shades.getD k noS) then (fU (gOf h g).shades (p : Int) k).set k noS else fU (gOf h g).shades (p : Int) k := by rw [← hget]; rfl
        have Hstp := hidE hstp
        generalize (gOf h g).shades.getD k noS = s4 at *
        obtain ⟨sh, sp, sf, sw⟩ := s4
        simp only at hik
        have HsT := hidE (show ∀ (v : Value), SameIn 0 wr.heap.size wr (wr.alloc (.cells #[.bool sh, .int .i64 sp, .int .i64 sf, .bool sw] 81)) from fun _ j _ h2 => ((Below.refl wr.heap.size wr).alloc (Nat.le_refl _) _).block j h2)
        have BA := hidE ((Below.refl wr.heap.size wr).alloc (Nat.le_refl _) (.cells #[.bool sh, .int .i64 sp, .int .i64 sf, .bool sw] 81))
        clear hget hstp hidx HsT
        cases sh
        · go_wp2
          go_roundw
          case rel =>
            refine ⟨k + 1, by omega, by go_num, ?_, (BA.out.cell (p := ⟨w.heap.size, 1, none⟩) lr0).trans HA.out, HB.out.trans (BA.out.mono (by omega)), fun j h1 h2 => (BA.out.block j (by omega)).trans (HX.out j h1 h2), by have := BA.out.size; show _ ≤ _; omega⟩
            show HouseW _ B L c (setG h g ⟨_, _, fU (gOf h g).shades (p : Int) (k + 1)⟩)
            rw [Hstp.out]
            exact HK.out.belowK BA.out
          case measure => simp [intOf]; omega
        · by_cases hsp : sp = (p : Int)
          · subst hsp
            have hth := (HK.out.lodAt (G := g) (by rw [setG_len, hlg]; exact hg)).2.2
            have t0 := hth (42 + k * 4) (by omega)
            have t1 := hth (42 + k * 4 + 1) (by omega)
            have t2 := hth (42 + k * 4 + 2) (by omega)
            have t3 := hth (42 + k * 4 + 3) (by omega)
            obtain ⟨v0, hv0⟩ := Option.isSome_iff_exists.1 t0.1
            obtain ⟨v1, hv1⟩ := Option.isSome_iff_exists.1 t1.1
            obtain ⟨v2, hv2⟩ := Option.isSome_iff_exists.1 t2.1
            obtain ⟨v3, hv3⟩ := Option.isSome_iff_exists.1 t3.1
            have f0 := t0.2
            have f1 := t1.2
            have f2 := t2.2
            have f3 := t3.2
            rw [show g * 66 + (42 + k * 4) = g * 66 + 42 + k * 4 by omega] at hv0 f0
            rw [show g * 66 + (42 + k * 4 + 1) = g * 66 + 42 + k * 4 + 1 by omega] at hv1 f1
            rw [show g * 66 + (42 + k * 4 + 2) = g * 66 + 42 + k * 4 + 2 by omega] at hv2 f2
            rw [show g * 66 + (42 + k * 4 + 3) = g * 66 + 42 + k * 4 + 3 by omega] at hv3 f3
            have kput := hidE (HK.out.shade (G := g) (by rw [setG_len, hlg]; exact hg) hkl noS)
            clear t0 t1 t2 t3 hth
            go_wp2
            go_roundw
            case rel =>
              obtain ⟨W6, hW6⟩ : ∃ W6, W6 = (((wr.setCell ⟨L, g * 66 + 42 + k * 4, none⟩ (.bool false)).setCell ⟨L, g * 66 + 42 + k * 4 + 1, none⟩ (.int .i64 0)).setCell ⟨L, g * 66 + 42 + k * 4 + 2, none⟩ (.int .i64 0)).setCell ⟨L, g * 66 + 42 + k * 4 + 3, none⟩ (.bool false) := ⟨_, rfl⟩
              have k6 := kput.out
              rw [show g * 66 + (42 + k * 4) = g * 66 + 42 + k * 4 by omega, show wr.setCells L (g * 66 + 42 + k * 4) (quadC noS) = W6 by rw [hW6]; rfl, setG_setG] at k6
              have e6 : (setG h g (settled (gOf h g) p m k)).guests.getD g noG = settled (gOf h g) p m k := gOf_set_same (by rw [hlg]; exact hg)
              rw [e6] at k6
              have s6 : W6.heap.size = wr.heap.size := by rw [hW6]; simp
              have x6 : ∀ j, j ≠ L → W6.heap[j]? = wr.heap[j]? := fun j h2 => by rw [hW6, Below.heap_setCell _ _ _ _ (by simpa using h2), Below.heap_setCell _ _ _ _ (by simpa using h2), Below.heap_setCell _ _ _ _ (by simpa using h2), Below.heap_setCell _ _ _ _ (by simpa using h2)]
              have b6 : Below L w W6 := by
                rw [hW6]
                exact (((HB.out.setCell (p := ⟨L, g * 66 + 42 + k * 4, none⟩) (Nat.le_refl _) _).setCell (p := ⟨L, g * 66 + 42 + k * 4 + 1, none⟩) (Nat.le_refl _) _).setCell (p := ⟨L, g * 66 + 42 + k * 4 + 2, none⟩) (Nat.le_refl _) _).setCell (p := ⟨L, g * 66 + 42 + k * 4 + 3, none⟩) (Nat.le_refl _) _
              rw [← hW6]
              have BA6 := (Below.refl W6.heap.size W6).alloc (Nat.le_refl _) (.cells #[.bool true, .int .i64 p, .int .i64 sf, .bool sw] 81)
              have hne : w.heap.size ≠ L := by omega
              refine ⟨k + 1, by omega, by go_num, ?_, ?_, b6.trans (BA6.mono (by omega)), fun j h1 h2 => (BA6.block j (by omega)).trans ((x6 j h2).trans (HX.out j h1 h2)), by have := BA6.size; show _ ≤ _; omega⟩
              · show HouseW _ B L c (setG h g ⟨_, _, fU (gOf h g).shades (p : Int) (k + 1)⟩)
                rw [Hstp.out, show hitS (p : Int) (true, (p : Int), sf, sw) = true by simp [hitS]]
                exact k6.allocK _
              · exact (BA6.cell (p := ⟨w.heap.size, 1, none⟩) (by show w.heap.size < _; omega)).trans ((World.cell?_of_block (a := ⟨w.heap.size, 1, none⟩) (x6 _ hne)).trans HA.out)
            case measure => simp [intOf]; omega
          · have hno : (sp == (p : Int)) = false := by simpa using hsp
            go_wp2
            go_roundw
            case rel =>
              refine ⟨k + 1, by omega, by go_num, ?_, (BA.out.cell (p := ⟨w.heap.size, 1, none⟩) lr0).trans HA.out, HB.out.trans (BA.out.mono (by omega)), fun j h1 h2 => (BA.out.block j (by omega)).trans (HX.out j h1 h2), by have := BA.out.size; show _ ≤ _; omega⟩
              show HouseW _ B L c (setG h g ⟨_, _, fU (gOf h g).shades (p : Int) (k + 1)⟩)
              rw [Hstp.out, show hitS (p : Int) (true, sp, sf, sw) = false by simp [hitS, hsp]]
              exact HK.out.belowK BA.out
            case measure => simp [intOf]; omega
      · obtain rfl : k = 6 := by omega
        go_wp2
        refine bodyPost_end (v := .tuple #[]) (by simp [results, Try.results123, go_sem]) rfl ?_
        exact ⟨rfl, HK.out, by omega, HX.out, HB.out⟩
end Go.Proofs.Ytdamdjhnhkmncaa
