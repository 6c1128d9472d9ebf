/-
  What the program's own seeing of a guest's memory does.
-/
import Derived.Test.YtahcoklhijjenaaHouseOk0
set_option linter.unusedSimpArgs false
namespace Go.Proofs.Ytahcoklhijjenaa
open Go.RowKit
attribute [local go_sem ↓] Go.wp_at_zero Go.wp_at_succ exec_app exec_lod exec_house exec_mapsA exec_allocL exec_storeL exec_buildL exec_idxM exec_look exec_upd
attribute [local go_sem] bigNext_ok bigSkip_ok

/-- What a guest has on a page; on all of them. -/
def pageM (fs : List (List Int)) (g : Gst) (p : Nat) : List Int := bif (g.maps.getD p noM).1 then fs.getD (g.maps.getD p noM).2.1.toNat [] else g.disk.getD p []
def seeM (fs : List (List Int)) (g : Gst) : List (List Int) := (List.range 6).map (pageM fs g)
theorem seeM_len (fs : List (List Int)) (g : Gst) : (seeM fs g).length = 6 := by simp [seeM]
theorem seeM_get (fs : List (List Int)) (g : Gst) {p : Nat} (hp : p < 6) : (seeM fs g).getD p [] = pageM fs g p := by simp [seeM, List.getD_eq_getElem?_getD, hp]

set_option maxRecDepth 100000 in
set_option maxHeartbeats 8000000 in
theorem implSeen (L n cl G : Nat) (fs : List (List Int)) (hand : Int) (gs : List Gst) (w : World) (hf : fs.length = 8) (h4 : ∀ i, i < 8 → (fs.getD i []).length = 4) (hG : G < n) (hL : LodsAt w L n gs) (hin : ∀ p, p < 6 → ((gs.getD G noG).maps.getD p noM).1 = true → ∃ F : Nat, F < 8 ∧ ((gs.getD G noG).maps.getD p noM).2.1 = (F : Int)) :
    Calls Try.prog 52 #[.agg (houseC fs (.slice (some ⟨L, 0, none⟩) n cl) hand).toArray, .int .i64 G] w fun e w' => ∃ X, e = .returned (.slice (some ⟨X, 0, none⟩) 6 6) ∧ w.heap.size ≤ X ∧ X < w'.heap.size ∧ Sheets w' X (seeM fs (gs.getD G noG)) ∧ Below w.heap.size w w' := by
  obtain ⟨hgl, hLw, hLs⟩ := hL
  obtain ⟨hg, hrk⟩ := hLs G hG
  have hH0 : HouseAt (w.alloc (.cells (houseC fs (.slice (some ⟨L, 0, none⟩) n cl) hand).toArray 72)) w.heap.size fs (.slice (some ⟨L, 0, none⟩) n cl) hand := range_new w _ 72
  have hc := (hH0.lods hf).1
  have hfr := range_sheets (range_left hH0)
  have hlc := lodC_len hg
  have hiL : (Try.prog.info? 87).map (·.size) = some (lodC (gs.getD G noG)).length := by rw [hlc]; kernel_rfl
  generalize gs.getD G noG = g at *
  have hseeL := seeM_len fs g
  have hsee := fun p (hp : p < 6) => seeM_get fs g hp
  have hix := fun j (hj : j < 6) w => idx_maps g.maps hg.1 j hj w
  obtain ⟨zL, hAl, hSt⟩ := lod_var
  generalize (houseC fs (.slice (some ⟨L, 0, none⟩) n cl) hand).toArray = hs at *
  obtain ⟨W1, hW1⟩ : ∃ W1, W1 = w.alloc (.cells hs 72) := ⟨_, rfl⟩
  rw [← hW1] at hH0 hc hfr
  have s1 : W1.heap.size = w.heap.size + 1 := by rw [hW1]; simp
  have B1 : Below w.heap.size w W1 := by rw [hW1]; exact (Below.refl _ _).alloc (Nat.le_refl _) _
  have hld : bigRun Try.prog 87 (.pointer (some ⟨L, G * 66, none⟩)) W1 = .ok (.agg (lodC g).toArray) W1 := big_load Try.underlying87 rfl hiL _ _ W1 (range_below hrk B1 hLw)
  have hS1 := hSt W1 (lodC g) hlc (lodC_one _)
  obtain ⟨W2, hW2⟩ : ∃ W2, W2 = W1.alloc (.cells (lodC g).toArray 87) := ⟨_, rfl⟩
  have hrL : W2.rangeAt W1.heap.size 0 (lodC g) := by rw [hW2]; exact range_new W1 _ _
  have s2 : W2.heap.size = w.heap.size + 1 + 1 := by rw [hW2, World.size_alloc, s1]
  have B2 : Below W1.heap.size W1 W2 := by rw [hW2]; exact (Below.refl _ _).alloc (Nat.le_refl _) _
  obtain ⟨mk, hmk⟩ : ∃ mk, mk = madeCells #[.int .i64 0, .int .i64 0, .int .i64 0, .int .i64 0] 24 := ⟨_, rfl⟩
  have hmake : ∀ w : World, (Instr.makeSlice 65 (.int .i64 6) (.int .i64 6)).run Try.prog w = .ok (.slice (some ⟨w.heap.size, 0, none⟩) 6 6) (w.alloc (.cells mk 68)) := fun w => by rw [hmk]; exact make_sheets 6 (by omega) w
  obtain ⟨W3, hW3⟩ : ∃ W3, W3 = W2.alloc (.cells mk 68) := ⟨_, rfl⟩
  have hR3 : Room W3 (w.heap.size + 1 + 1) 24 := by
    have := room_made W2 #[.int .i64 0, .int .i64 0, .int .i64 0, .int .i64 0] 24 68
    rw [← hmk, ← hW3, s2] at this
    exact this
  have B3 : Below W2.heap.size W2 W3 := by rw [hW3]; exact (Below.refl _ _).alloc (Nat.le_refl _) _
  have s3 : W3.heap.size = w.heap.size + 1 + 1 + 1 := by rw [hW3, World.size_alloc, s2]
  have hrL3 : W3.rangeAt (w.heap.size + 1) 0 (lodC g) := by
    have := range_below hrL B3 (by omega)
    rwa [s1] at this
  have hlm : bigRun Try.prog 81 (.pointer (some ⟨w.heap.size + 1, 0, none⟩)) W3 = .ok (.agg (flat g.maps).toArray) W3 := big_load Try.underlying81 rfl (by rw [flat_len, hg.1]; kernel_rfl) _ _ W3 (range_left hrL3)
  have hdk := lod_disk hg hrL3
  have hfr3 : SheetsAt W3 w.heap.size 0 fs := fun i hi => by
    obtain ⟨a, b, c, d⟩ := hfr i hi
    have hb : ∀ o v, W1.cell? ⟨w.heap.size, o, none⟩ = some v → W3.cell? ⟨w.heap.size, o, none⟩ = some v := fun o v e => (B3.cell (p := ⟨w.heap.size, o, none⟩) (by show w.heap.size < _; omega)).trans ((B2.cell (p := ⟨w.heap.size, o, none⟩) (by show w.heap.size < _; omega)).trans e)
    exact ⟨hb _ _ a, hb _ _ b, hb _ _ c, hb _ _ d⟩
  have hB03 : Below w.heap.size w W3 := (B1.trans (B2.mono (by omega))).trans (B3.mono (by omega))
  have hgl1 := hg.2.1
  have hgl4 := hg.2.2.1
  generalize hfm : (flat g.maps).toArray = fm at *
  generalize hlcs : (lodC g).toArray = lcs at *
  rw [hW2] at hW3
  rw [s1] at hS1
  rw [hW1] at hld hS1 hc hW3
  have hGi : (G : Int) < (n : Int) := by omega
  rw [hW3] at hlm
  clear hrL hrL3 hfr hH0 B1 B2 B3 hSt hiL hlc hrk hfm hlcs hmk
  go_enter Try.func52, Try.ntmps52
  go_wp2_with (fail)
  rw [← hW3]
  clear hW3 hld hS1 hlm hmake hAl hW1 hW2
  go_loopw [17] (fun i wr => ∃ j : Nat, j ≤ 6 ∧ i = .int .i64 j ∧ Hid (Sheets wr (w.heap.size + 1 + 1) ((seeM fs g).take j)) ∧ Hid (Room wr (w.heap.size + 1 + 1) 24) ∧ Hid (∀ k, k < w.heap.size + 1 + 1 → wr.heap[k]? = W3.heap[k]?) ∧ w.heap.size + 1 + 1 < wr.heap.size ∧ Hid (Below w.heap.size w wr)) (fun i _ => 6 - (intOf i).toNat)
  case atStart => exact ⟨0, Nat.zero_le _, rfl, fun i hi => by simp at hi, hR3, fun _ _ => rfl, by omega, hB03⟩
  case round =>
    obtain ⟨j, hj, rfl, hE, hR, hS, hlt, hB⟩ := hrel
    by_cases hjl : j < 6
    · have hji : (j : Int) < 6 := by omega
      have hx := hix j hjl
      have hs' := hsee j hjl
      have hI := hin j hjl
      obtain ⟨d0, d1, d2, d3⟩ := hdk j (by omega)
      have h4d := hgl4 j hjl
      have hp : pageM fs g j = bif (g.maps.getD j noM).1 then fs.getD (g.maps.getD j noM).2.1.toNat [] else g.disk.getD j [] := rfl
      rw [hp] at hs'
      clear hp
      obtain ⟨⟨e0, r0⟩, f0⟩ := hR.out (j * 4) (by omega)
      obtain ⟨⟨e1, r1⟩, f1⟩ := hR.out (j * 4 + 1) (by omega)
      obtain ⟨⟨e2, r2⟩, f2⟩ := hR.out (j * 4 + 2) (by omega)
      obtain ⟨⟨e3, r3⟩, f3⟩ := hR.out (j * 4 + 3) (by omega)
      have hcl : ∀ b o v, b < w.heap.size + 1 + 1 → W3.cell? ⟨b, o, none⟩ = some v → wr.cell? ⟨b, o, none⟩ = some v := fun b o v hb e => (World.cell?_of_block (a := ⟨b, o, none⟩) (hS.out b hb)).trans e
      have hstep : ∀ (m : Obj) (z0 z1 z2 z3 : Int), (seeM fs g).getD j [] = [z0, z1, z2, z3] → Hid (Sheets ((((((wr.setCell ⟨w.heap.size + 1 + 1, j * 4, none⟩ (.int .i64 z0)).setCell ⟨w.heap.size + 1 + 1, j * 4 + 1, none⟩ (.int .i64 z1)).setCell ⟨w.heap.size + 1 + 1, j * 4 + 2, none⟩ (.int .i64 z2)).setCell ⟨w.heap.size + 1 + 1, j * 4 + 3, none⟩ (.int .i64 z3)).alloc m)) (w.heap.size + 1 + 1) ((seeM fs g).take (j + 1)) ∧ Room (((((wr.setCell ⟨w.heap.size + 1 + 1, j * 4, none⟩ (.int .i64 z0)).setCell ⟨w.heap.size + 1 + 1, j * 4 + 1, none⟩ (.int .i64 z1)).setCell ⟨w.heap.size + 1 + 1, j * 4 + 2, none⟩ (.int .i64 z2)).setCell ⟨w.heap.size + 1 + 1, j * 4 + 3, none⟩ (.int .i64 z3)).alloc m) (w.heap.size + 1 + 1) 24 ∧ (∀ k, k < w.heap.size + 1 + 1 → (((((wr.setCell ⟨w.heap.size + 1 + 1, j * 4, none⟩ (.int .i64 z0)).setCell ⟨w.heap.size + 1 + 1, j * 4 + 1, none⟩ (.int .i64 z1)).setCell ⟨w.heap.size + 1 + 1, j * 4 + 2, none⟩ (.int .i64 z2)).setCell ⟨w.heap.size + 1 + 1, j * 4 + 3, none⟩ (.int .i64 z3)).alloc m).heap[k]? = W3.heap[k]?) ∧ w.heap.size + 1 + 1 < (((((wr.setCell ⟨w.heap.size + 1 + 1, j * 4, none⟩ (.int .i64 z0)).setCell ⟨w.heap.size + 1 + 1, j * 4 + 1, none⟩ (.int .i64 z1)).setCell ⟨w.heap.size + 1 + 1, j * 4 + 2, none⟩ (.int .i64 z2)).setCell ⟨w.heap.size + 1 + 1, j * 4 + 3, none⟩ (.int .i64 z3)).alloc m).heap.size ∧ Below w.heap.size w (((((wr.setCell ⟨w.heap.size + 1 + 1, j * 4, none⟩ (.int .i64 z0)).setCell ⟨w.heap.size + 1 + 1, j * 4 + 1, none⟩ (.int .i64 z1)).setCell ⟨w.heap.size + 1 + 1, j * 4 + 2, none⟩ (.int .i64 z2)).setCell ⟨w.heap.size + 1 + 1, j * 4 + 3, none⟩ (.int .i64 z3)).alloc m)) := fun m z0 z1 z2 z3 hz => by
        have q := sheets_put hR.out hE.out (by omega) (show j * 4 + 3 < 24 by omega) hz
        have q2 := (((hR.out.put (j := j * 4) (.int .i64 z0)).put (j := j * 4 + 1) (.int .i64 z1)).put (j := j * 4 + 2) (.int .i64 z2)).put (j := j * 4 + 3) (.int .i64 z3)
        have q3 : Below w.heap.size w ((((wr.setCell ⟨w.heap.size + 1 + 1, j * 4, none⟩ (.int .i64 z0)).setCell ⟨w.heap.size + 1 + 1, j * 4 + 1, none⟩ (.int .i64 z1)).setCell ⟨w.heap.size + 1 + 1, j * 4 + 2, none⟩ (.int .i64 z2)).setCell ⟨w.heap.size + 1 + 1, j * 4 + 3, none⟩ (.int .i64 z3)) := (((hB.out.setCell (p := ⟨w.heap.size + 1 + 1, j * 4, none⟩) (show w.heap.size ≤ w.heap.size + 1 + 1 by omega) _).setCell (p := ⟨w.heap.size + 1 + 1, j * 4 + 1, none⟩) (show w.heap.size ≤ w.heap.size + 1 + 1 by omega) _).setCell (p := ⟨w.heap.size + 1 + 1, j * 4 + 2, none⟩) (show w.heap.size ≤ w.heap.size + 1 + 1 by omega) _).setCell (p := ⟨w.heap.size + 1 + 1, j * 4 + 3, none⟩) (show w.heap.size ≤ w.heap.size + 1 + 1 by omega) _
        have q4 : ∀ k, k < w.heap.size + 1 + 1 → ((((wr.setCell ⟨w.heap.size + 1 + 1, j * 4, none⟩ (.int .i64 z0)).setCell ⟨w.heap.size + 1 + 1, j * 4 + 1, none⟩ (.int .i64 z1)).setCell ⟨w.heap.size + 1 + 1, j * 4 + 2, none⟩ (.int .i64 z2)).setCell ⟨w.heap.size + 1 + 1, j * 4 + 3, none⟩ (.int .i64 z3)).heap[k]? = W3.heap[k]? := fun k hk => by
          rw [Below.heap_setCell _ _ _ _ (by simp; omega), Below.heap_setCell _ _ _ _ (by simp; omega), Below.heap_setCell _ _ _ _ (by simp; omega), Below.heap_setCell _ _ _ _ (by simp; omega)]
          exact hS.out k hk
        have q5 : w.heap.size + 1 + 1 < ((((wr.setCell ⟨w.heap.size + 1 + 1, j * 4, none⟩ (.int .i64 z0)).setCell ⟨w.heap.size + 1 + 1, j * 4 + 1, none⟩ (.int .i64 z1)).setCell ⟨w.heap.size + 1 + 1, j * 4 + 2, none⟩ (.int .i64 z2)).setCell ⟨w.heap.size + 1 + 1, j * 4 + 3, none⟩ (.int .i64 z3)).heap.size := by simpa using hlt
        generalize ((((wr.setCell ⟨w.heap.size + 1 + 1, j * 4, none⟩ (.int .i64 z0)).setCell ⟨w.heap.size + 1 + 1, j * 4 + 1, none⟩ (.int .i64 z1)).setCell ⟨w.heap.size + 1 + 1, j * 4 + 2, none⟩ (.int .i64 z2)).setCell ⟨w.heap.size + 1 + 1, j * 4 + 3, none⟩ (.int .i64 z3)) = V at *
        have bA : Below V.heap.size V (V.alloc m) := (Below.refl _ _).alloc (Nat.le_refl _) _
        exact ⟨q.below bA q5, q2.allocK m, fun k hk => (bA.block k (by omega)).trans (q4 k hk), by rw [World.size_alloc]; omega, q3.alloc q3.size _⟩
      have hfrg := fun i hi => hfr3 i hi
      have h4f := fun i hi => h4 i hi
      generalize g.maps.getD j noM = mm at *
      obtain ⟨mi, mf, mw⟩ := mm
      simp only at hx hI hs'
      cases mi
      · simp only [cond_false] at hs'
        have hz := four h4d
        rw [hz] at hs'
        generalize (g.disk.getD j []).getD 0 0 = z0 at *
        generalize (g.disk.getD j []).getD 1 0 = z1 at *
        generalize (g.disk.getD j []).getD 2 0 = z2 at *
        generalize (g.disk.getD j []).getD 3 0 = z3 at *
        have HN := hstep (.cells #[.bool false, .int .i64 mf, .bool mw] 79) z0 z1 z2 z3 hs'
        have d0 := hcl _ _ _ (by omega) d0
        have d1 := hcl _ _ _ (by omega) d1
        have d2 := hcl _ _ _ (by omega) d2
        have d3 := hcl _ _ _ (by omega) d3
        have hb1 : w.heap.size + 1 < wr.heap.size := by omega
        clear hstep hI hs' hz hfrg h4f hcl hsee hix hfr3 hdk hin
        simp only [Nat.zero_add] at d0 d1 d2 d3
        go_wp2_with (fail)
        obtain ⟨n1, n2, n3, n4, n5⟩ := HN.out
        exact ⟨⟨j + 1, by omega, by simp, n1, n2, n3, n4, n5⟩, by simp only [intOf]; omega⟩
      · obtain ⟨F, hF, rfl⟩ := hI rfl
        simp only [cond_true, Int.toNat_natCast] at hs'
        obtain ⟨d0, d1, d2, d3⟩ := hfrg F (by omega)
        have hz := four (h4f F hF)
        rw [hz] at hs'
        generalize (fs.getD F []).getD 0 0 = z0 at *
        generalize (fs.getD F []).getD 1 0 = z1 at *
        generalize (fs.getD F []).getD 2 0 = z2 at *
        generalize (fs.getD F []).getD 3 0 = z3 at *
        have HN := hstep (.cells #[.bool true, .int .i64 F, .bool mw] 79) z0 z1 z2 z3 hs'
        have d0 := hcl _ _ _ (by omega) d0
        have d1 := hcl _ _ _ (by omega) d1
        have d2 := hcl _ _ _ (by omega) d2
        have d3 := hcl _ _ _ (by omega) d3
        have hb1 : w.heap.size < wr.heap.size := by omega
        have hFi : (F : Int) < 8 := by omega
        clear hstep hI hs' hz hfrg h4f hcl hsee hix hfr3 hdk hin
        simp only [Nat.zero_add] at d0 d1 d2 d3
        go_wp2_with (fail)
        obtain ⟨n1, n2, n3, n4, n5⟩ := HN.out
        exact ⟨⟨j + 1, by omega, by simp, n1, n2, n3, n4, n5⟩, by simp only [intOf]; omega⟩
    · obtain rfl : j = 6 := by omega
      go_wp2_with (fail)
      have hE' := hE.out
      rw [List.take_of_length_le (by omega)] at hE'
      exact bodyPost_ret (v := .slice (some ⟨w.heap.size + 1 + 1, 0, none⟩) 6 6) (by simp [results, Try.results52, go_sem]) rfl ⟨_, rfl, by omega, hlt, hE', hB.out⟩
end Go.Proofs.Ytahcoklhijjenaa
