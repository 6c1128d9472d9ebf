/-
  What the program's own asking of a lodger, and of a house, does.
-/
import Derived.Test.YtpaeigmdhmmjmaaKLodOk0
set_option linter.unusedSimpArgs false
namespace Go.Proofs.Ytpaeigmdhmmjmaa
open Go.RowKit
attribute [local go_sem ↓] Go.wp_at_zero Go.wp_at_succ exec_app exec_lod exec_house exec_mapsA exec_allocL exec_storeL exec_idxM exec_look exec_upd
attribute [local go_sem] bigNext_ok bigSkip_ok

def okPage (S : Int → List (Nat × Nat)) (g : Gst) (p : Nat) : Bool := okMapI (S (g.maps.getD p noM).2.1).length (g.maps.getD p noM) (g.disk.getD p []) && okShade g (g.shades.getD p noS)
def okLod (S : Int → List (Nat × Nat)) (g : Gst) : Bool := (List.range 6).all (okPage S g)

set_option maxRecDepth 100000 in
set_option maxHeartbeats 8000000 in
theorem implLodOk (g : Gst) (hg : Sized g) (lo r : Nat) (S : Int → List (Nat × Nat)) (w : World) (hW : Who w lo r S) (hwf : ∀ p, p < 6 → (Lit.int .i64 (g.maps.getD p noM).2.1).wf = true) :
    Calls Try.prog 81 #[.agg (lodC g).toArray, .map (some r)] w fun e w' => e = .returned (.bool (okLod S g)) ∧ Below w.heap.size w w' := by
  have hR0 := range_new w (lodC g) 86
  have hlc := lodC_len hg
  have hiL : (Try.prog.info? 86).map (·.size) = some (lodC g).length := by rw [hlc]; kernel_rfl
  have hiM : (Try.prog.info? 82).map (·.size) = some (flat g.maps).length := by rw [flat_len, hg.1]; kernel_rfl
  have hloads : ∀ W : World, W.rangeAt w.heap.size 0 (lodC g) → bigRun Try.prog 86 (.pointer (some ⟨w.heap.size, 0, none⟩)) W = .ok (.agg (lodC g).toArray) W ∧ bigRun Try.prog 82 (.pointer (some ⟨w.heap.size, 0, none⟩)) W = .ok (.agg (flat g.maps).toArray) W := fun W h =>
    ⟨big_load Try.underlying86 rfl hiL _ _ W h, big_load Try.underlying82 rfl hiM _ _ W (range_left h)⟩
  have hmap := fun (p : Nat) (hp : p < 6) (W : World) (h : Who W lo r S) => implMapOk g hg p hp lo r S W h (hwf p hp)
  have hsh := fun sh sp sf sw W => implShadeOk g hg.1 sh sp sf sw W
  have hquad : ∀ (W : World) (j : Nat), W.rangeAt w.heap.size 0 (lodC g) → j < 6 → W.cell? ⟨w.heap.size, 42 + j * 4, none⟩ = some (.bool (g.shades.getD j noS).1) ∧ W.cell? ⟨w.heap.size, 42 + j * 4 + 1, none⟩ = some (.int .i64 (g.shades.getD j noS).2.1) ∧ W.cell? ⟨w.heap.size, 42 + j * 4 + 2, none⟩ = some (.int .i64 (g.shades.getD j noS).2.2.1) ∧ W.cell? ⟨w.heap.size, 42 + j * 4 + 3, none⟩ = some (.bool (g.shades.getD j noS).2.2.2) := fun W j h hj => by
    have := lod_shades hg h j (by rw [hg.2.2.2]; exact hj)
    rwa [Nat.zero_add] at this
  have hall : ∀ j, j < 6 → okPage S g j = false → okLod S g = false := fun j hj h => all_no (k := j) (by simpa using hj) (by simpa using h)
  obtain ⟨W0, hW0⟩ : ∃ W0, W0 = w.alloc (.cells (lodC g).toArray 86) := ⟨_, rfl⟩
  have hWW : Who W0 lo r S := by rw [hW0]; exact hW.below ((Below.refl _ _).alloc (Nat.le_refl _) _)
  have hsz : W0.heap.size = w.heap.size + 1 := by rw [hW0]; simp
  have hB0 : Below w.heap.size w W0 := by rw [hW0]; exact (Below.refl _ _).alloc (Nat.le_refl _) _
  rw [← hW0] at hR0
  have hrange : ∀ W, Below W0.heap.size W0 W → W.rangeAt w.heap.size 0 (lodC g) := fun W hB => range_below hR0 hB (by omega)
  generalize (lodC g).toArray = cs at *
  generalize (flat g.maps).toArray = fm at *
  go_enter Try.func81, Try.ntmps81
  go_wp2_with (fail)
  rw [← hW0]
  clear hW0
  go_loopw [6] (fun i wr => ∃ j : Nat, j ≤ 6 ∧ i = .int .i64 j ∧ Hid (∀ q, q < j → okPage S g q = true) ∧ Hid (Below W0.heap.size W0 wr)) (fun i _ => 6 - (intOf i).toNat)
  case atStart => exact ⟨0, Nat.zero_le _, rfl, fun q hq => by omega, Below.refl _ _⟩
  case round =>
    obtain ⟨j, hj, rfl, hUp, hB⟩ := hrel
    by_cases hjl : j < 6
    · have hji : (j : Int) < 6 := by omega
      have hWr : Who wr lo r S := hWW.below hB.out
      have hB' := hB0.trans (hB.out.mono hB0.size)
      obtain ⟨hl1, _⟩ := hloads wr.drew (hrange wr hB.out)
      have hno := hall j hjl
      have hnx : okPage S g j = true → ∀ q, q < j + 1 → okPage S g q = true := fun e q hq => by
        by_cases h : q = j
        · subst h; exact e
        · exact hUp.out q (by omega)
      have hC1 : Calls Try.prog 87 #[.agg cs, .int .i64 j, .map (some r)] wr.drew fun e w' => e = .returned (.bool (okMapI (S (g.maps.getD j noM).2.1).length (g.maps.getD j noM) (g.disk.getD j []))) ∧ Hid (Below W0.heap.size W0 w') ∧ bigRun Try.prog 82 (.pointer (some ⟨w.heap.size, 0, none⟩)) w' = .ok (.agg fm) w' ∧ w'.cell? ⟨w.heap.size, 42 + j * 4, none⟩ = some (.bool (g.shades.getD j noS).1) ∧ w'.cell? ⟨w.heap.size, 42 + j * 4 + 1, none⟩ = some (.int .i64 (g.shades.getD j noS).2.1) ∧ w'.cell? ⟨w.heap.size, 42 + j * 4 + 2, none⟩ = some (.int .i64 (g.shades.getD j noS).2.2.1) ∧ w'.cell? ⟨w.heap.size, 42 + j * 4 + 3, none⟩ = some (.bool (g.shades.getD j noS).2.2.2) := by
        refine (hmap j hjl wr.drew hWr).mono ?_
        rintro e w' ⟨rfl, B1⟩
        have B2 : Below W0.heap.size W0 w' := hB.out.drew.trans (B1.mono hB.out.size)
        exact ⟨rfl, B2, (hloads w' (hrange w' B2)).2, hquad w' j (hrange w' B2) hjl⟩
      have hop : okPage S g j = (okMapI (S (g.maps.getD j noM).2.1).length (g.maps.getD j noM) (g.disk.getD j []) && okShade g (g.shades.getD j noS)) := rfl
      generalize g.shades.getD j noS = ss at *
      obtain ⟨sh, sp, sf, sw⟩ := ss
      have hC2 := hsh sh sp sf sw
      simp only at hC1
      generalize okMapI (S (g.maps.getD j noM).2.1).length (g.maps.getD j noM) (g.disk.getD j []) = b1 at *
      generalize okShade g (sh, sp, sf, sw) = b2 at *
      clear hmap hsh hquad hall hloads hwf hUp hWr
      cases b1
      · have HF : Hid (okLod S g = false) := hno (by rw [hop]; rfl)
        clear hno hnx hop hC2
        go_wp2_with (fail)
        first | (go_region_with (go_at_call 87; refine hC1.mono ?_; rintro e w1 ⟨rfl, HB1, m1, k0, k1, k2, k3⟩)) | fail
        all_goals
          go_wp2
          go_ret
          exact ⟨by rw [HF.out]; rfl, hB0.trans (HB1.out.mono hB0.size)⟩
      · cases b2
        · have HF : Hid (okLod S g = false) := hno (by rw [hop]; rfl)
          clear hno hnx hop
          go_wp2_with (fail)
          first | (go_region_with (first | (go_at_call 87; refine hC1.mono ?_; rintro e w1 ⟨rfl, HB1, m1, k0, k1, k2, k3⟩) | (go_at_call 88; refine (hC2 _).mono ?_; rintro e w2 ⟨rfl, B2⟩))) | fail
          all_goals
            have HB2 : Hid (Below W0.heap.size W0 w2) := HB1.out.trans (B2.mono HB1.out.size)
            clear B2 m1 k0 k1 k2 k3
            go_wp2
            go_ret
            exact ⟨by rw [HF.out]; rfl, hB0.trans (HB2.out.mono hB0.size)⟩
        · have HX : Hid (∀ q, q < j + 1 → okPage S g q = true) := hnx (by rw [hop]; rfl)
          clear hno hnx hop
          go_wp2_with (fail)
          first | (go_region_with (first | (go_at_call 87; refine hC1.mono ?_; rintro e w1 ⟨rfl, HB1, m1, k0, k1, k2, k3⟩) | (go_at_call 88; refine (hC2 _).mono ?_; rintro e w2 ⟨rfl, B2⟩))) | fail
          all_goals
            have HB2 : Hid (Below W0.heap.size W0 w2) := HB1.out.trans (B2.mono HB1.out.size)
            clear B2 m1 k0 k1 k2 k3
            go_wp2
            go_roundw
            case rel => exact ⟨j + 1, by omega, by go_num, HX, HB2⟩
            case measure => simp [intOf]; omega
    · have hT : okLod S g = true := by
        rw [okLod, List.all_eq_true]
        intro q hq
        exact hUp.out q (by have := List.mem_range.1 hq; omega)
      have HT : Hid (okLod S g = true) := hT
      clear hT hmap hsh hquad hall hloads
      go_wp2
      go_ret
      exact ⟨by rw [HT.out]; rfl, hB0.trans (hB.out.mono hB0.size)⟩
end Go.Proofs.Ytpaeigmdhmmjmaa
