/-
  What the program's own seeing of a guest's memory does.
-/
import Derived.Test.YtjegndgdpmlbaaaKOG
set_option linter.unusedSimpArgs false
namespace Go.Proofs.Ytjegndgdpmlbaaa
open Go.RowKit
attribute [local go_sem ↓] Go.wp_at_zero Go.wp_at_succ exec_app exec_lod exec_house exec_mapsA exec_allocL exec_storeL exec_buildL exec_idxM exec_look exec_upd
attribute [local go_sem] bigNext_ok bigSkip_ok

/-- What a guest has on a page; on all of them. -/
def pageM (fs : List (List Int)) (g : Gst) (p : Nat) : List Int := bif (g.maps.getD p noM).1 then fs.getD (g.maps.getD p noM).2.1.toNat [] else g.disk.getD p []
def seeM (fs : List (List Int)) (g : Gst) : List (List Int) := (List.range 6).map (pageM fs g)
theorem seeM_len (fs : List (List Int)) (g : Gst) : (seeM fs g).length = 6 := by simp [seeM]
theorem seeM_get (fs : List (List Int)) (g : Gst) {p : Nat} (hp : p < 6) : (seeM fs g).getD p [] = pageM fs g p := by simp [seeM, List.getD_eq_getElem?_getD, hp]

set_option maxRecDepth 100000 in
set_option maxHeartbeats 8000000 in
theorem implSeen (L n cl G : Nat) (fs : List (List Int)) (hand : Int) (gs : List Gst) (w : World) (hf : fs.length = 8) (h4 : ∀ i, i < 8 → (fs.getD i []).length = 4) (hG : G < n) (hL : LodsAt w L n gs) (hin : ∀ p, p < 6 → ((gs.getD G noG).maps.getD p noM).1 = true → ∃ F : Nat, F < 8 ∧ ((gs.getD G noG).maps.getD p noM).2.1 = (F : Int)) :
    Calls Try.prog 56 #[.agg (houseC fs (.slice (some ⟨L, 0, none⟩) n cl) hand).toArray, .int .i64 G] w fun e w' => ∃ X, e = .returned (.slice (some ⟨X, 0, none⟩) 6 6) ∧ w.heap.size ≤ X ∧ X < w'.heap.size ∧ Sheets w' X (seeM fs (gs.getD G noG)) ∧ Below w.heap.size w w' := by
  obtain ⟨hgl, hLw, hLs⟩ := hL
  obtain ⟨hg, hrk⟩ := hLs G hG
  have hH0 : HouseAt (w.alloc (.cells (houseC fs (.slice (some ⟨L, 0, none⟩) n cl) hand).toArray 60)) w.heap.size fs (.slice (some ⟨L, 0, none⟩) n cl) hand := range_new w _ 60
  have hc := (hH0.lods hf).1
  have hfr := range_sheets (range_left hH0)
  have hlc := lodC_len hg
  have hiL : (Try.prog.info? 91).map (·.size) = some (lodC (gs.getD G noG)).length := by rw [hlc]; kernel_rfl
  generalize gs.getD G noG = g at *
  have hseeL := seeM_len fs g
  have hsee := fun p (hp : p < 6) => seeM_get fs g hp
  have hix := fun j (hj : j < 6) w => idx_maps g.maps hg.1 j hj w
  obtain ⟨zL, hAl, hSt⟩ := lod_var
  generalize (houseC fs (.slice (some ⟨L, 0, none⟩) n cl) hand).toArray = hs at *
  obtain ⟨W1, hW1⟩ : ∃ W1, W1 = w.alloc (.cells hs 60) := ⟨_, rfl⟩
  rw [← hW1] at hH0 hc hfr
  have s1 : W1.heap.size = w.heap.size + 1 := by rw [hW1]; simp
  have B1 : Below w.heap.size w W1 := by rw [hW1]; exact (Below.refl _ _).alloc (Nat.le_refl _) _
  have hld : bigRun Try.prog 91 (.pointer (some ⟨L, G * 66, none⟩)) W1 = .ok (.agg (lodC g).toArray) W1 := big_load Try.underlying91 rfl hiL _ _ W1 (range_below hrk B1 hLw)
  have hS1 := hSt W1 (lodC g) hlc (lodC_one _)
  obtain ⟨W2, hW2⟩ : ∃ W2, W2 = W1.alloc (.cells (lodC g).toArray 91) := ⟨_, rfl⟩
  have hrL : W2.rangeAt W1.heap.size 0 (lodC g) := by rw [hW2]; exact range_new W1 _ _
  have s2 : W2.heap.size = w.heap.size + 1 + 1 := by rw [hW2, World.size_alloc, s1]
  have B2 : Below W1.heap.size W1 W2 := by rw [hW2]; exact (Below.refl _ _).alloc (Nat.le_refl _) _
  obtain ⟨mk, hmk⟩ : ∃ mk, mk = madeCells #[.int .i64 0, .int .i64 0, .int .i64 0, .int .i64 0] 24 := ⟨_, rfl⟩
  have hmake : ∀ w : World, (Instr.makeSlice 69 (.int .i64 6) (.int .i64 6)).run Try.prog w = .ok (.slice (some ⟨w.heap.size, 0, none⟩) 6 6) (w.alloc (.cells mk 56)) := fun w => by rw [hmk]; exact make_sheets 6 (by omega) w
  obtain ⟨W3, hW3⟩ : ∃ W3, W3 = W2.alloc (.cells mk 56) := ⟨_, rfl⟩
  have hR3 : Room W3 (w.heap.size + 1 + 1) 24 := by
    have := room_made W2 #[.int .i64 0, .int .i64 0, .int .i64 0, .int .i64 0] 24 56
    rw [← hmk, ← hW3, s2] at this
    exact this
  have B3 : Below W2.heap.size W2 W3 := by rw [hW3]; exact (Below.refl _ _).alloc (Nat.le_refl _) _
  have s3 : W3.heap.size = w.heap.size + 1 + 1 + 1 := by rw [hW3, World.size_alloc, s2]
  have hrL3 : W3.rangeAt (w.heap.size + 1) 0 (lodC g) := by
    have := range_below hrL B3 (by omega)
    rwa [s1] at this
  have hlm : bigRun Try.prog 88 (.pointer (some ⟨w.heap.size + 1, 0, none⟩)) W3 = .ok (.agg (flat g.maps).toArray) W3 := big_load Try.underlying88 rfl (by rw [flat_len, hg.1]; kernel_rfl) _ _ W3 (range_left hrL3)
  have hdk := lod_disk hg hrL3
  have hfr3 : SheetsAt W3 w.heap.size 0 fs := fun i hi => by
    obtain ⟨a, b, c, d⟩ := hfr i hi
    have hb : ∀ o v, W1.cell? ⟨w.heap.size, o, none⟩ = some v → W3.cell? ⟨w.heap.size, o, none⟩ = some v := fun o v e => (B3.cell (p := ⟨w.heap.size, o, none⟩) (by show w.heap.size < _; omega)).trans ((B2.cell (p := ⟨w.heap.size, o, none⟩) (by show w.heap.size < _; omega)).trans e)
    exact ⟨hb _ _ a, hb _ _ b, hb _ _ c, hb _ _ d⟩
  have hB03 : Below w.heap.size w W3 := (B1.trans (B2.mono (by omega))).trans (B3.mono (by omega))
  have hgl1 := hg.2.1
  have hgl4 := hg.2.2.1
  generalize hfm : (flat g.maps).toArray = fm at *
  generalize hlcs : (lodC g).toArray = lcs at *
  rw [hW2] at hW3
  rw [s1] at hS1
  rw [hW1] at hld hS1 hc hW3
  have hGi : (G : Int) < (n : Int) := by omega
  rw [hW3] at hlm
  clear hrL hrL3 hfr hH0 B1 B2 B3 hSt hiL hlc hrk hfm hlcs hmk
  go_enter Try.func56, Try.ntmps56
  go_wp2_with (fail)
  rw [← hW3]
  clear hW3 hld hS1 hlm hmake hAl hW1 hW2
  go_loopw [17] (fun i wr => ∃ j : Nat, j ≤ 6 ∧ i = .int .i64 j ∧ Hid (Sheets wr (w.heap.size + 1 + 1) ((seeM fs g).take j)) ∧ Hid (Room wr (w.heap.size + 1 + 1) 24) ∧ Hid (∀ k, k < w.heap.size + 1 + 1 → wr.heap[k]? = W3.heap[k]?) ∧ w.heap.size + 1 + 1 < wr.heap.size ∧ Hid (Below w.heap.size w wr)) (fun i _ => 6 - (intOf i).toNat)
  case atStart => exact ⟨0, Nat.zero_le _, rfl, fun i hi => by simp at hi, hR3, fun _ _ => rfl, by omega, hB03⟩
  case round =>
    obtain ⟨j, hj, rfl, hE, hR, hS, hlt, hB⟩ := hrel
    by_cases hjl : j < 6
    · have hji : (j : Int) < 6 := by omega
      have hx := hix j hjl
      have hs' := hsee j hjl
      have hI := hin j hjl
      obtain ⟨d0, d1, d2, d3⟩ := hdk j (by omega)
      have h4d := hgl4 j hjl
      have hp : pageM fs g j = bif (g.maps.getD j noM).1 then fs.getD (g.maps.getD j noM).2.1.toNat [] else g.disk.getD j [] := rfl
      rw [hp] at hs'
      clear hp
      obtain ⟨⟨e0, r0⟩, f0⟩ := hR.out (j * 4) (by omega)
      obtain ⟨⟨e1, r1⟩, f1⟩ := hR.out (j * 4 + 1) (by omega)
      obtain ⟨⟨e2, r2⟩, f2⟩ := hR.out (j * 4 + 2) (by omega)
      obtain ⟨⟨e3, r3⟩, f3⟩ := hR.out (j * 4 + 3) (by omega)
      have hcl : ∀ b o v, b < w.heap.size + 1 + 1 → W3.cell? ⟨b, o, none⟩ = some v → wr.cell? ⟨b, o, none⟩ = some v := fun b o v hb e => (World.cell?_of_block (a := ⟨b, o, none⟩) (hS.out b hb)).trans e
      have hstep : ∀ (m : Obj) (z0 z1 z2 z3 : Int), (seeM fs g).getD j [] = [z0, z1, z2, z3] → Hid (Sheets ((((((wr.setCell ⟨w.heap.size + 1 + 1, j * 4, none⟩ (.int .i64 z0)).setCell ⟨w.heap.size + 1 + 1, j * 4 + 1, none⟩ (.int .i64 z1)).setCell ⟨w.heap.size + 1 + 1, j * 4 + 2, none⟩ (.int .i64 z2)).setCell ⟨w.heap.size + 1 + 1, j * 4 + 3, none⟩ (.int .i64 z3)).alloc m)) (w.heap.size + 1 + 1) ((seeM fs g).take (j + 1)) ∧ Room (((((wr.setCell ⟨w.heap.size + 1 + 1, j * 4, none⟩ (.int .i64 z0)).setCell ⟨w.heap.size + 1 + 1, j * 4 + 1, none⟩ (.int .i64 z1)).setCell ⟨w.heap.size + 1 + 1, j * 4 + 2, none⟩ (.int .i64 z2)).setCell ⟨w.heap.size + 1 + 1, j * 4 + 3, none⟩ (.int .i64 z3)).alloc m) (w.heap.size + 1 + 1) 24 ∧ (∀ k, k < w.heap.size + 1 + 1 → (((((wr.setCell ⟨w.heap.size + 1 + 1, j * 4, none⟩ (.int .i64 z0)).setCell ⟨w.heap.size + 1 + 1, j * 4 + 1, none⟩ (.int .i64 z1)).setCell ⟨w.heap.size + 1 + 1, j * 4 + 2, none⟩ (.int .i64 z2)).setCell ⟨w.heap.size + 1 + 1, j * 4 + 3, none⟩ (.int .i64 z3)).alloc m).heap[k]? = W3.heap[k]?) ∧ w.heap.size + 1 + 1 < (((((wr.setCell ⟨w.heap.size + 1 + 1, j * 4, none⟩ (.int .i64 z0)).setCell ⟨w.heap.size + 1 + 1, j * 4 + 1, none⟩ (.int .i64 z1)).setCell ⟨w.heap.size + 1 + 1, j * 4 + 2, none⟩ (.int .i64 z2)).setCell ⟨w.heap.size + 1 + 1, j * 4 + 3, none⟩ (.int .i64 z3)).alloc m).heap.size ∧ Below w.heap.size w (((((wr.setCell ⟨w.heap.size + 1 + 1, j * 4, none⟩ (.int .i64 z0)).setCell ⟨w.heap.size + 1 + 1, j * 4 + 1, none⟩ (.int .i64 z1)).setCell ⟨w.heap.size + 1 + 1, j * 4 + 2, none⟩ (.int .i64 z2)).setCell ⟨w.heap.size + 1 + 1, j * 4 + 3, none⟩ (.int .i64 z3)).alloc m)) := fun m z0 z1 z2 z3 hz => by
        have q := sheets_put hR.out hE.out (by omega) (show j * 4 + 3 < 24 by omega) hz
        have q2 := (((hR.out.put (j := j * 4) (.int .i64 z0)).put (j := j * 4 + 1) (.int .i64 z1)).put (j := j * 4 + 2) (.int .i64 z2)).put (j := j * 4 + 3) (.int .i64 z3)
        have q3 : Below w.heap.size w ((((wr.setCell ⟨w.heap.size + 1 + 1, j * 4, none⟩ (.int .i64 z0)).setCell ⟨w.heap.size + 1 + 1, j * 4 + 1, none⟩ (.int .i64 z1)).setCell ⟨w.heap.size + 1 + 1, j * 4 + 2, none⟩ (.int .i64 z2)).setCell ⟨w.heap.size + 1 + 1, j * 4 + 3, none⟩ (.int .i64 z3)) := (((hB.out.setCell (p := ⟨w.heap.size + 1 + 1, j * 4, none⟩) (show w.heap.size ≤ w.heap.size + 1 + 1 by omega) _).setCell (p := ⟨w.heap.size + 1 + 1, j * 4 + 1, none⟩) (show w.heap.size ≤ w.heap.size + 1 + 1 by omega) _).setCell (p := ⟨w.heap.size + 1 + 1, j * 4 + 2, none⟩) (show w.heap.size ≤ w.heap.size + 1 + 1 by omega) _).setCell (p := ⟨w.heap.size + 1 + 1, j * 4 + 3, none⟩) (show w.heap.size ≤ w.heap.size + 1 + 1 by omega) _
        have q4 : ∀ k, k < w.heap.size + 1 + 1 → ((((wr.setCell ⟨w.heap.size + 1 + 1, j * 4, none⟩ (.int .i64 z0)).setCell ⟨w.heap.size + 1 + 1, j * 4 + 1, none⟩ (.int .i64 z1)).setCell ⟨w.heap.size + 1 + 1, j * 4 + 2, none⟩ (.int .i64 z2)).setCell ⟨w.heap.size + 1 + 1, j * 4 + 3, none⟩ (.int .i64 z3)).heap[k]? = W3.heap[k]? := fun k hk => by
          rw [Below.heap_setCell _ _ _ _ (by simp; omega), Below.heap_setCell _ _ _ _ (by simp; omega), Below.heap_setCell _ _ _ _ (by simp; omega), Below.heap_setCell _ _ _ _ (by simp; omega)]
          exact hS.out k hk
        have q5 : w.heap.size + 1 + 1 < ((((wr.setCell ⟨w.heap.size + 1 + 1, j * 4, none⟩ (.int .i64 z0)).setCell ⟨w.heap.size + 1 + 1, j * 4 + 1, none⟩ (.int .i64 z1)).setCell ⟨w.heap.size + 1 + 1, j * 4 + 2, none⟩ (.int .i64 z2)).setCell ⟨w.heap.size + 1 + 1, j * 4 + 3, none⟩ (.int .i64 z3)).heap.size := by simpa using hlt
        generalize ((((wr.setCell ⟨w.heap.size + 1 + 1, j * 4, none⟩ (.int .i64 z0)).setCell ⟨w.heap.size + 1 + 1, j * 4 + 1, none⟩ (.int .i64 z1)).setCell ⟨w.heap.size + 1 + 1, j * 4 + 2, none⟩ (.int .i64 z2)).setCell ⟨w.heap.size + 1 + 1, j * 4 + 3, none⟩ (.int .i64 z3)) = V at *
        have bA : Below V.heap.size V (V.alloc m) := (Below.refl _ _).alloc (Nat.le_refl _) _
        exact ⟨q.below bA q5, q2.allocK m, fun k hk => (bA.block k (by omega)).trans (q4 k hk), by rw [World.size_alloc]; omega, q3.alloc q3.size _⟩
      have hfrg := fun i hi => hfr3 i hi
      have h4f := fun i hi => h4 i hi
      generalize g.maps.getD j noM = mm at *
      obtain ⟨mi, mf, mw⟩ := mm
      simp only at hx hI hs'
      cases mi
      · simp only [cond_false] at hs'
        have hz := four h4d
        rw [hz] at hs'
        generalize (g.disk.getD j []).getD 0 0 = z0 at *
        generalize (g.disk.getD j []).getD 1 0 = z1 at *
        generalize (g.disk.getD j []).getD 2 0 = z2 at *
        generalize (g.disk.getD j []).getD 3 0 = z3 at *
        have HN := hstep (.cells #[.bool false, .int .i64 mf, .bool mw] 35) z0 z1 z2 z3 hs'
        have d0 := hcl _ _ _ (by omega) d0
        have d1 := hcl _ _ _ (by omega) d1
        have d2 := hcl _ _ _ (by omega) d2
        have d3 := hcl _ _ _ (by omega) d3
        have hb1 : w.heap.size + 1 < wr.heap.size := by omega
        clear hstep hI hs' hz hfrg h4f hcl hsee hix hfr3 hdk hin
        simp only [Nat.zero_add] at d0 d1 d2 d3
        go_wp2_with (fail)
        obtain ⟨n1, n2, n3, n4, n5⟩ := HN.out
        exact ⟨⟨j + 1, by omega, by simp, n1, n2, n3, n4, n5⟩, by simp only [intOf]; omega⟩
      · obtain ⟨F, hF, rfl⟩ := hI rfl
        simp only [cond_true, Int.toNat_natCast] at hs'
        obtain ⟨d0, d1, d2, d3⟩ := hfrg F (by omega)
        have hz := four (h4f F hF)
        rw [hz] at hs'
        generalize (fs.getD F []).getD 0 0 = z0 at *
        generalize (fs.getD F []).getD 1 0 = z1 at *
        generalize (fs.getD F []).getD 2 0 = z2 at *
        generalize (fs.getD F []).getD 3 0 = z3 at *
        have HN := hstep (.cells #[.bool true, .int .i64 F, .bool mw] 35) z0 z1 z2 z3 hs'
        have d0 := hcl _ _ _ (by omega) d0
        have d1 := hcl _ _ _ (by omega) d1
        have d2 := hcl _ _ _ (by omega) d2
        have d3 := hcl _ _ _ (by omega) d3
        have hb1 : w.heap.size < wr.heap.size := by omega
        have hFi : (F : Int) < 8 := by omega
        clear hstep hI hs' hz hfrg h4f hcl hsee hix hfr3 hdk hin
        simp only [Nat.zero_add] at d0 d1 d2 d3
        go_wp2_with (fail)
        obtain ⟨n1, n2, n3, n4, n5⟩ := HN.out
        exact ⟨⟨j + 1, by omega, by simp, n1, n2, n3, n4, n5⟩, by simp only [intOf]; omega⟩
    · obtain rfl : j = 6 := by omega
      go_wp2_with (fail)
      have hE' := hE.out
      rw [List.take_of_length_le (by omega)] at hE'
      exact bodyPost_ret (v := .slice (some ⟨w.heap.size + 1 + 1, 0, none⟩) 6 6) (by simp [results, Try.results56, go_sem]) rfl ⟨_, rfl, by omega, hlt, hE', hB.out⟩
end Go.Proofs.Ytjegndgdpmlbaaa

/-
  What the program's own HostOk and HostSee answer.
-/
set_option linter.unusedSimpArgs false
namespace Go.Proofs.Ytjegndgdpmlbaaa
open Go.RowKit
attribute [local go_sem ↓] Go.wp_at_zero Go.wp_at_succ exec_app exec_lod exec_house exec_mapsA exec_allocL exec_storeL exec_buildL exec_idxM exec_look exec_upd exec_allocH exec_buildH exec_storeH exec_bsL
attribute [local go_sem] bigNext_ok bigSkip_ok

/-- How many pages are in a frame, by the list of them. -/
theorem spUp_users (g : Nat) (ms : List E3) (f : Int) (h6 : ms.length = 6) : (spUp g ms 6 f).length = (ms.filter (inF f)).length := by
  have e : ms = (List.range 6).map fun p => ms.getD p noM := by
    apply List.ext_getElem
    · simp [h6]
    · intro i h1 h2
      simp [h1]
  rw [spUp, List.length_map]
  conv => rhs; rw [e, List.filter_map, List.length_map]
  rfl
theorem tenG_users (gs : List Gst) (f : Int) (h6 : ∀ i, i < gs.length → (gs.getD i noG).maps.length = 6) : ∀ k, k ≤ gs.length → (tenG gs k f).length = ((gs.take k).map (usersG f)).sum
  | 0, _ => by simp [tenG]
  | k + 1, hk => by
    rw [tenG_step, tenUp, List.length_append, tenG_users gs f h6 k (by omega), spUp_users _ _ _ (h6 k (by omega)), List.take_succ_eq_append_getElem (by omega), List.map_append, List.sum_append]
    rw [getD_lt (by omega)]
    simp [usersG]
theorem ten_users (h : Hst) (f : Int) (h6 : ∀ i, i < h.guests.length → (h.guests.getD i noG).maps.length = 6) : (ten h.guests f).length = usersH h f := by
  rw [ten, tenG_users _ _ h6 _ (Nat.le_refl _), List.take_length, usersH]
theorem okLod0_eq (g : Gst) : okLod0 g = okGuest0 g := by
  rw [okLod0, okGuest0]
  cases (g.maps.length == 6) <;> cases (g.disk.length == 6) <;> cases (g.shades.length == 6) <;> cases okM g.disk <;> rfl
theorem houseB_eq (h : Hst) : houseB h = okHost h := by
  rw [houseB, okHost]
  have e0 : h.guests.all okLod0 = h.guests.all okGuest0 := by congr 1; funext g; exact okLod0_eq g
  rw [e0]
  cases hA : h.guests.all okGuest0
  · simp
  · have h6 : ∀ i, i < h.guests.length → (h.guests.getD i noG).maps.length = 6 := fun i hi => by
      rw [List.all_eq_true] at hA
      have := hA (h.guests.getD i noG) (by rw [getD_lt hi]; exact List.getElem_mem hi)
      simp only [okGuest0, Bool.and_eq_true, beq_iff_eq] at this
      exact this.1
    have : okLod (ten h.guests) = okGuest h := by
      funext g
      rw [okLod, okGuest]
      congr 1
      funext p
      rw [okPage, okMapI, okMap, ten_users h _ h6]
    rw [this]

theorem implHouseOf (lo hi : Nat) (af ag : Option Addr) (lf cf n cg : Nat) (h : Hst) (w : World) (hH : HostIn w lo hi (.slice af lf cf) (.slice ag n cg) h) (hh : hi ≤ w.heap.size) (hwf : WfGs h.guests.length h.guests) :
    Calls Try.prog 47 #[.agg #[.slice af lf cf, .slice ag n cg, .int .i64 h.hand]] w fun e w' => HouseRead w w' e h := by
  obtain ⟨⟨a1, c1, e1, hF⟩, a2, c2, e2, hG⟩ := hH
  cases e1
  cases e2
  have hlz : hz.length = 34 := houseC_len rfl _ _
  have h1z : ∀ v ∈ hz, v.oneCell' = true := houseC_one _ _ _ _ _
  have hfin : houseB h = false → ∀ (e : Ending) (w' : World), (e = .returned (.tuple #[.agg hz.toArray, .bool false]) ∧ Below w.heap.size w w') → HouseRead w w' e h := fun hno e w' k => by
    obtain ⟨rfl, hB⟩ := k
    exact ⟨hz, hlz, h1z, by rw [hno], hB, fun e => by rw [hno] at e; cases e⟩
  by_cases h0 : okHost0 h = true
  · have hp := h0
    simp only [okHost0, Bool.and_eq_true, beq_iff_eq, decide_eq_true_eq] at hp
    rw [hp.2.1] at hF ⊢
    exact houseOf_main lo hi af ag cf h.guests.length cg h w hF hG hh h0 rfl hwf
  · have hno : houseB h = false := by rw [houseB, Bool.eq_false_iff.mpr h0]; rfl
    by_cases h1 : h.frames.length ≠ 8 ∨ (decide ((1 : Int) ≤ (h.guests.length : Int)) && decide ((h.guests.length : Int) ≤ 2)) = false ∨ (decide (0 ≤ h.hand) && decide (h.hand ≤ 7)) = false
    · exact (houseOf_len af ag h.frames.length cf h.guests.length cg h.hand w h1).mono (hfin hno)
    · have h8 : h.frames.length = 8 := by
        rcases Nat.decEq h.frames.length 8 with e | e
        · exact (h1 (Or.inl e)).elim
        · exact e
      have h2 : (decide ((1 : Int) ≤ (h.guests.length : Int)) && decide ((h.guests.length : Int) ≤ 2)) = true := by
        rcases Bool.eq_false_or_eq_true (decide ((1 : Int) ≤ (h.guests.length : Int)) && decide ((h.guests.length : Int) ≤ 2)) with e | e
        · exact e
        · exact (h1 (Or.inr (Or.inl e))).elim
      have h3 : (decide (0 ≤ h.hand) && decide (h.hand ≤ 7)) = true := by
        rcases Bool.eq_false_or_eq_true (decide (0 ≤ h.hand) && decide (h.hand ≤ 7)) with e | e
        · exact e
        · exact (h1 (Or.inr (Or.inr e))).elim
      have h4 : okM h.frames = false := by
        rcases Bool.eq_false_or_eq_true (okM h.frames) with e | e
        · refine (h0 ?_).elim
          simp only [Bool.and_eq_true, decide_eq_true_eq] at h2 h3
          simp only [okHost0, Bool.and_eq_true, beq_iff_eq, decide_eq_true_eq]
          exact ⟨e, h8, ⟨by omega, by omega⟩, h3⟩
        · exact e
      rw [h8] at hF ⊢
      exact (houseOf_bad lo hi af ag cf h.guests.length cg h.hand h.frames w hF hh h2 h3 h4).mono (hfin hno)

set_option maxRecDepth 100000 in
set_option maxHeartbeats 8000000 in
theorem implHostOk (lo hi : Nat) (af ag : Option Addr) (lf cf n cg : Nat) (h : Hst) (w : World) (hH : HostIn w lo hi (.slice af lf cf) (.slice ag n cg) h) (hh : hi ≤ w.heap.size) (hwf : WfGs h.guests.length h.guests) :
    Calls Try.prog 18 #[.agg #[.slice af lf cf, .slice ag n cg, .int .i64 h.hand]] w fun e w' => e = .returned (.bool (okHost h)) ∧ Below w.heap.size w w' := by
  have B0 : Below w.heap.size w (w.alloc (.cells #[.slice af lf cf, .slice ag n cg, .int .i64 h.hand] 26)) := (Below.refl _ _).alloc (Nat.le_refl _) _
  have hc := implHouseOf lo hi af ag lf cf n cg h _ (hH.same (below_sameIn B0 hh)) (Nat.le_trans hh B0.size) hwf
  obtain ⟨zH, hzs, hAl, hSt⟩ := house_var
  go_enter Try.func18, Try.ntmps18
  go_wp2_with (fail)
  refine hc.mono ?_
  rintro e w1 ⟨cs, hl, h1, rfl, B1, _⟩
  rw [houseB_eq]
  have hS := hSt w1 cs hl h1
  have HB : Hid (Below w.heap.size w (w1.alloc (.cells cs.toArray 60))) := (B0.trans (B1.mono B0.size)).alloc (B0.trans (B1.mono B0.size)).size _
  clear hSt hc B0 B1 hH
  go_wp2
  go_ret
  exact ⟨rfl, HB.out⟩

set_option maxRecDepth 100000 in
set_option maxHeartbeats 8000000 in
theorem implHas (L n cl : Nat) (fs : List (List Int)) (hand : Int) (G : Int) (w : World) (hf : fs.length = 8) :
    Calls Try.prog 54 #[.agg (houseC fs (.slice (some ⟨L, 0, none⟩) n cl) hand).toArray, .int .i64 G] w fun e w' => e = .returned (.bool (decide (0 ≤ G) && decide (G < n))) ∧ Below w.heap.size w w' := by
  have hH0 : HouseAt (w.alloc (.cells (houseC fs (.slice (some ⟨L, 0, none⟩) n cl) hand).toArray 60)) w.heap.size fs (.slice (some ⟨L, 0, none⟩) n cl) hand := range_new w _ 60
  have hc := (hH0.lods hf).1
  have B1 : Hid (Below w.heap.size w (w.alloc (.cells (houseC fs (.slice (some ⟨L, 0, none⟩) n cl) hand).toArray 60))) := (Below.refl _ _).alloc (Nat.le_refl _) _
  generalize (houseC fs (.slice (some ⟨L, 0, none⟩) n cl) hand).toArray = hs at *
  clear hH0
  by_cases h0 : 0 ≤ G
  · have d0 : decide (0 ≤ G) = true := decide_eq_true h0
    by_cases h1 : G < n
    · have d1 : decide (G < n) = true := decide_eq_true h1
      go_enter Try.func54, Try.ntmps54
      go_wp2
      go_ret
      exact ⟨by simp [h0, h1], B1.out⟩
    · have d1 : decide (G < n) = false := decide_eq_false h1
      go_enter Try.func54, Try.ntmps54
      go_wp2
      go_ret
      exact ⟨by simp [h0, h1], B1.out⟩
  · have d0 : decide (0 ≤ G) = false := decide_eq_false h0
    go_enter Try.func54, Try.ntmps54
    go_wp2
    go_ret
    exact ⟨by simp [h0], B1.out⟩
end Go.Proofs.Ytjegndgdpmlbaaa

/-
  What the program's own HostSee answers.
-/
set_option linter.unusedSimpArgs false
namespace Go.Proofs.Ytjegndgdpmlbaaa
open Go.RowKit
attribute [local go_sem ↓] Go.wp_at_zero Go.wp_at_succ exec_app exec_lod exec_house exec_mapsA exec_allocL exec_storeL exec_buildL exec_idxM exec_look exec_upd exec_allocH exec_buildH exec_storeH exec_bsL
attribute [local go_sem] bigNext_ok bigSkip_ok

/-- What an ok host is, guest by guest, page by page. -/
theorem okHost_frames {h : Hst} (ho : okHost h = true) : h.frames.length = 8 ∧ (∀ i, i < 8 → (h.frames.getD i []).length = 4) ∧ 1 ≤ h.guests.length ∧ h.guests.length ≤ 2 ∧ 0 ≤ h.hand ∧ h.hand ≤ 7 := by
  simp only [okHost, okHost0, Bool.and_eq_true, beq_iff_eq, decide_eq_true_eq] at ho
  obtain ⟨⟨h1, h2, ⟨h3, h4⟩, h5, h6⟩, _⟩ := ho
  exact ⟨h2, fun i hi => (okM_get h1 (by omega)).1, h3, h4, h5, h6⟩
theorem okHost_guest {h : Hst} (ho : okHost h = true) {G : Nat} (hG : G < h.guests.length) : Sized (h.guests.getD G noG) ∧ okM (h.guests.getD G noG).disk = true ∧ okGuest h (h.guests.getD G noG) = true := by
  simp only [okHost, Bool.and_eq_true, List.all_eq_true] at ho
  have hm : h.guests.getD G noG ∈ h.guests := by rw [getD_lt hG]; exact List.getElem_mem hG
  have h1 := ho.2.1 _ hm
  rw [← okLod0_eq] at h1
  exact ⟨(okLod0_sized h1).1, (okLod0_sized h1).2, ho.2.2 _ hm⟩
theorem okGuest_map {h : Hst} {g : Gst} (ho : okGuest h g = true) {p : Nat} (hp : p < 6) : okMap h (g.maps.getD p noM) (g.disk.getD p []) = true ∧ okShade g (g.shades.getD p noS) = true := by
  simp only [okGuest, List.all_eq_true, List.mem_range, Bool.and_eq_true] at ho
  exact ho p hp
theorem okMap_in {h : Hst} {m : E3} {d : List Int} (ho : okMap h m d = true) (hi : m.1 = true) : ∃ F : Nat, F < 8 ∧ m.2.1 = (F : Int) := by
  rw [okMap, hi] at ho
  simp only [cond_true, Bool.and_eq_true, decide_eq_true_eq] at ho
  obtain ⟨k, hk⟩ := Int.eq_ofNat_of_zero_le ho.1.1
  exact ⟨k, by omega, hk⟩
theorem pageM_len {h : Hst} (ho : okHost h = true) {G : Nat} (hG : G < h.guests.length) {p : Nat} (hp : p < 6) : (pageM h.frames (h.guests.getD G noG) p).length = 4 := by
  obtain ⟨s, _, o⟩ := okHost_guest ho hG
  cases hi : ((h.guests.getD G noG).maps.getD p noM).1
  · simp only [pageM, hi, cond_false]
    exact s.2.2.1 p hp
  · obtain ⟨F, hF, e⟩ := okMap_in (okGuest_map o hp).1 hi
    simp only [pageM, hi, cond_true, e, Int.toNat_natCast]
    exact (okHost_frames ho).2.1 F hF

def seeB (h : Hst) (G : Int) : Bool := okHost h && (decide (0 ≤ G) && decide (G < h.guests.length))
def seeH (h : Hst) (G : Int) : List (List Int) := bif seeB h G then seeM h.frames (h.guests.getD G.toNat noG) else []

set_option maxRecDepth 100000 in
set_option maxHeartbeats 8000000 in
theorem implHostSee (lo hi : Nat) (af ag : Option Addr) (lf cf n cg : Nat) (h : Hst) (G : Int) (w : World) (hH : HostIn w lo hi (.slice af lf cf) (.slice ag n cg) h) (hh : hi ≤ w.heap.size) (hwf : WfGs h.guests.length h.guests) :
    Calls Try.prog 22 #[.agg #[.slice af lf cf, .slice ag n cg, .int .i64 h.hand], .int .i64 G] w fun e w' => ∃ a c, e = .returned (.slice a (seeH h G).length c) ∧ OwnMem w' w.heap.size w'.heap.size a (seeH h G).length (seeH h G) ∧ Below w.heap.size w w' := by
  have B0 : Below w.heap.size w (w.alloc (.cells #[.slice af lf cf, .slice ag n cg, .int .i64 h.hand] 26)) := (Below.refl _ _).alloc (Nat.le_refl _) _
  have hc := implHouseOf lo hi af ag lf cf n cg h _ (hH.same (below_sameIn B0 hh)) (Nat.le_trans hh B0.size) hwf
  obtain ⟨zH, hzs, hAl, hSt⟩ := house_var
  clear hH
  cases hok : okHost h
  · have hS : seeH h G = [] := by rw [seeH, seeB, hok]; rfl
    rw [hS]
    go_enter Try.func22, Try.ntmps22
    go_wp2_with (fail)
    refine hc.mono ?_
    rintro e w1 ⟨cs, hl, h1, rfl, B1, _⟩
    rw [houseB_eq, hok]
    have hS := hSt w1 cs hl h1
    have HB : Hid (Below w.heap.size w (w1.alloc (.cells cs.toArray 60))) := (B0.trans (B1.mono B0.size)).alloc (B0.trans (B1.mono B0.size)).size _
    clear hSt hc B0 B1
    go_wp2
    go_ret
    exact ⟨none, 0, rfl, ⟨rfl, Or.inl rfl⟩, HB.out⟩
  · obtain ⟨hf8, hf4, _⟩ := okHost_frames hok
    have hgs := fun {G : Nat} (hG : G < h.guests.length) => okHost_guest hok hG
    go_enter Try.func22, Try.ntmps22
    go_wp2_with (fail)
    refine hc.mono ?_
    rintro e w1 ⟨cs, hl, h1, rfl, B1, hL⟩
    rw [houseB_eq] at hL ⊢
    rw [hok]
    obtain ⟨L, c, rfl, hL1, hL2, _⟩ := hL hok
    have hS := hSt w1 _ hl h1
    have hr := range_new w1 (houseC h.frames (.slice (some ⟨L, 0, none⟩) h.guests.length c) h.hand) 60
    have hiH : (Try.prog.info? 60).map (·.size) = some (houseC h.frames (.slice (some ⟨L, 0, none⟩) h.guests.length c) h.hand).length := by rw [hl]; kernel_rfl
    have hld : ∀ W : World, W.rangeAt w1.heap.size 0 (houseC h.frames (.slice (some ⟨L, 0, none⟩) h.guests.length c) h.hand) → bigRun Try.prog 60 (.pointer (some ⟨w1.heap.size, 0, none⟩)) W = .ok (.agg (houseC h.frames (.slice (some ⟨L, 0, none⟩) h.guests.length c) h.hand).toArray) W := fun W k => big_load Try.underlying60 rfl hiH _ _ W k
    have BA : Below w1.heap.size w1 (w1.alloc (.cells (houseC h.frames (.slice (some ⟨L, 0, none⟩) h.guests.length c) h.hand).toArray 60)) := (Below.refl _ _).alloc (Nat.le_refl _) _
    have hB1 : Below w.heap.size w w1 := B0.trans (B1.mono B0.size)
    obtain ⟨W2, hW2⟩ : ∃ W2, W2 = w1.alloc (.cells (houseC h.frames (.slice (some ⟨L, 0, none⟩) h.guests.length c) h.hand).toArray 60) := ⟨_, rfl⟩
    rw [← hW2] at hr BA hS
    have s2 : W2.heap.size = w1.heap.size + 1 := by rw [hW2]; simp
    have hL2' := hL2.below BA (hL2.2.1) (Nat.le_refl _)
    have hB2 : Below w.heap.size w W2 := hB1.trans (BA.mono hB1.size)
    have hhas := implHas L h.guests.length c h.frames h.hand G W2 hf8
    have hld2 := hld W2 hr
    clear hSt hc B0 hL hW2
    have hLw2 : L < W2.heap.size := hL2'.2.1
    by_cases hG : 0 ≤ G ∧ G < h.guests.length
    · obtain ⟨G', rfl⟩ := Int.eq_ofNat_of_zero_le hG.1
      have hG' : G' < h.guests.length := by omega
      rw [show (decide (0 ≤ (G' : Int)) && decide ((G' : Int) < h.guests.length)) = true by simp; omega] at hhas
      have hS2 : Hid (seeH h (G' : Int) = seeM h.frames (h.guests.getD G' noG)) := by
        show _ = _
        rw [seeH, seeB, hok, show (decide (0 ≤ (G' : Int)) && decide ((G' : Int) < h.guests.length)) = true by simp; omega]; rfl
      have hl6 := seeM_len h.frames (h.guests.getD G' noG)
      have hp4 : ∀ i, i < 6 → ((seeM h.frames (h.guests.getD G' noG)).getD i []).length = 4 := fun i hi => by rw [seeM_get _ _ hi]; exact pageM_len hok hG' hi
      have hseen := fun (W : World) (hB : Below W2.heap.size W2 W) => implSeen L h.guests.length c G' h.frames h.hand h.guests W hf8 hf4 hG' (hL2'.below hB hLw2 (Nat.le_refl _)) (fun p hp hi => okMap_in (okGuest_map (hgs hG').2.2 hp).1 hi)
      clear hL2 hL2'
      generalize seeM h.frames (h.guests.getD G' noG) = sm at *
      generalize hcs : (houseC h.frames (.slice (some ⟨L, 0, none⟩) h.guests.length c) h.hand).toArray = hs at *
      go_wp2_with (fail)
      refine hhas.mono ?_
      rintro e w3 ⟨rfl, B3⟩
      have hr3 := range_below hr B3 (by omega)
      have hld3 := hld w3 hr3
      have hse := hseen w3 B3
      clear hhas hseen hld2 hld hS
      go_wp2_with (fail)
      refine hse.mono ?_
      rintro e w4 ⟨X, rfl, hX1, hX2, hSh, B4⟩
      have hmo := memOf_any X 6 6 sm w4 hl6 hX2 hSh hp4 (by omega)
      clear hse hld3
      go_wp2_with (fail)
      refine hmo.mono ?_
      rintro e w5 ⟨T, rfl, hO, B5⟩
      have HB : Hid (Below w.heap.size w w5 ∧ w.heap.size ≤ w4.heap.size) := by
        have b1 := hB2.trans (B3.mono hB2.size)
        have b2 := b1.trans (B4.mono b1.size)
        exact ⟨b2.trans (B5.mono b2.size), b2.size⟩
      clear hmo
      go_wp2
      go_ret
      rw [hS2.out, hl6]
      exact ⟨_, _, rfl, hO.wide HB.out.2 (Nat.le_refl _), HB.out.1⟩
    · rw [show (decide (0 ≤ G) && decide (G < h.guests.length)) = false by simp; omega] at hhas
      have hS2 : Hid (seeH h G = []) := by
        show _ = _
        rw [seeH, seeB, show (decide (0 ≤ G) && decide (G < h.guests.length)) = false by simp; omega]; simp
      clear hL2 hL2'
      generalize hcs : (houseC h.frames (.slice (some ⟨L, 0, none⟩) h.guests.length c) h.hand).toArray = hs at *
      go_wp2_with (fail)
      refine hhas.mono ?_
      rintro e w3 ⟨rfl, B3⟩
      have HB : Hid (Below w.heap.size w w3) := hB2.trans (B3.mono hB2.size)
      clear hhas hld2 hld hS
      go_wp2
      go_ret
      rw [hS2.out]
      exact ⟨none, 0, rfl, ⟨rfl, Or.inl rfl⟩, HB.out⟩
end Go.Proofs.Ytjegndgdpmlbaaa
