/-
  What the program's own seeing of a guest's memory does.
-/
import Derived.Test.YtjegndgdpmlbaaaKG
set_option linter.unusedSimpArgs false
namespace Go.Proofs.Ytjegndgdpmlbaaa
open Go.RowKit
attribute [local go_sem ↓] Go.wp_at_zero Go.wp_at_succ exec_app exec_lod exec_house exec_mapsA exec_allocL exec_storeL exec_buildL exec_idxM exec_look exec_upd
attribute [local go_sem] bigNext_ok bigSkip_ok

/-- What a guest has on a page; on all of them. -/
def pageM (fs : List (List Int)) (g : Gst) (p : Nat) : List Int := bif (g.maps.getD p noM).1 then fs.getD (g.maps.getD p noM).2.1.toNat [] else g.disk.getD p []
def seeM (fs : List (List Int)) (g : Gst) : List (List Int) := (List.range 6).map (pageM fs g)
theorem seeM_len (fs : List (List Int)) (g : Gst) : (seeM fs g).length = 6 := by simp [seeM]
theorem seeM_get (fs : List (List Int)) (g : Gst) {p : Nat} (hp : p < 6) : (seeM fs g).getD p [] = pageM fs g p := by simp [seeM, List.getD_eq_getElem?_getD, hp]

end Go.Proofs.Ytjegndgdpmlbaaa

/-
  What the program's own HostOk and HostSee answer.
-/
set_option linter.unusedSimpArgs false
namespace Go.Proofs.Ytjegndgdpmlbaaa
open Go.RowKit
attribute [local go_sem ↓] Go.wp_at_zero Go.wp_at_succ exec_app exec_lod exec_house exec_mapsA exec_allocL exec_storeL exec_buildL exec_idxM exec_look exec_upd exec_allocH exec_buildH exec_storeH exec_bsL
attribute [local go_sem] bigNext_ok bigSkip_ok

/-- How many pages are in a frame, by the list of them. -/
theorem spUp_users (g : Nat) (ms : List E3) (f : Int) (h6 : ms.length = 6) : (spUp g ms 6 f).length = (ms.filter (inF f)).length := by
  have e : ms = (List.range 6).map fun p => ms.getD p noM := by
    apply List.ext_getElem
    · simp [h6]
    · intro i h1 h2
      simp [h1]
  rw [spUp, List.length_map]
  conv => rhs; rw [e, List.filter_map, List.length_map]
  rfl
theorem tenG_users (gs : List Gst) (f : Int) (h6 : ∀ i, i < gs.length → (gs.getD i noG).maps.length = 6) : ∀ k, k ≤ gs.length → (tenG gs k f).length = ((gs.take k).map (usersG f)).sum
  | 0, _ => by simp [tenG]
  | k + 1, hk => by
    rw [tenG_step, tenUp, List.length_append, tenG_users gs f h6 k (by omega), spUp_users _ _ _ (h6 k (by omega)), List.take_succ_eq_append_getElem (by omega), List.map_append, List.sum_append]
    rw [getD_lt (by omega)]
    simp [usersG]
theorem ten_users (h : Hst) (f : Int) (h6 : ∀ i, i < h.guests.length → (h.guests.getD i noG).maps.length = 6) : (ten h.guests f).length = usersH h f := by
  rw [ten, tenG_users _ _ h6 _ (Nat.le_refl _), List.take_length, usersH]
theorem okLod0_eq (g : Gst) : okLod0 g = okGuest0 g := by
  rw [okLod0, okGuest0]
  cases (g.maps.length == 6) <;> cases (g.disk.length == 6) <;> cases (g.shades.length == 6) <;> cases okM g.disk <;> rfl
theorem houseB_eq (h : Hst) : houseB h = okHost h := by
  rw [houseB, okHost]
  have e0 : h.guests.all okLod0 = h.guests.all okGuest0 := by congr 1; funext g; exact okLod0_eq g
  rw [e0]
  cases hA : h.guests.all okGuest0
  · simp
  · have h6 : ∀ i, i < h.guests.length → (h.guests.getD i noG).maps.length = 6 := fun i hi => by
      rw [List.all_eq_true] at hA
      have := hA (h.guests.getD i noG) (by rw [getD_lt hi]; exact List.getElem_mem hi)
      simp only [okGuest0, Bool.and_eq_true, beq_iff_eq] at this
      exact this.1
    have : okLod (ten h.guests) = okGuest h := by
      funext g
      rw [okLod, okGuest]
      congr 1
      funext p
      rw [okPage, okMapI, okMap, ten_users h _ h6]
    rw [this]

theorem implHouseOf (lo hi : Nat) (af ag : Option Addr) (lf cf n cg : Nat) (h : Hst) (w : World) (hH : HostIn w lo hi (.slice af lf cf) (.slice ag n cg) h) (hh : hi ≤ w.heap.size) (hwf : WfGs h.guests.length h.guests) :
    Calls Try.prog 47 #[.agg #[.slice af lf cf, .slice ag n cg, .int .i64 h.hand]] w fun e w' => HouseRead w w' e h := by
  obtain ⟨⟨a1, c1, e1, hF⟩, a2, c2, e2, hG⟩ := hH
  cases e1
  cases e2
  have hlz : hz.length = 34 := houseC_len rfl _ _
  have h1z : ∀ v ∈ hz, v.oneCell' = true := houseC_one _ _ _ _ _
  have hfin : houseB h = false → ∀ (e : Ending) (w' : World), (e = .returned (.tuple #[.agg hz.toArray, .bool false]) ∧ Below w.heap.size w w') → HouseRead w w' e h := fun hno e w' k => by
    obtain ⟨rfl, hB⟩ := k
    exact ⟨hz, hlz, h1z, by rw [hno], hB, fun e => by rw [hno] at e; cases e⟩
  by_cases h0 : okHost0 h = true
  · have hp := h0
    simp only [okHost0, Bool.and_eq_true, beq_iff_eq, decide_eq_true_eq] at hp
    rw [hp.2.1] at hF ⊢
    exact houseOf_main lo hi af ag cf h.guests.length cg h w hF hG hh h0 rfl hwf
  · have hno : houseB h = false := by rw [houseB, Bool.eq_false_iff.mpr h0]; rfl
    by_cases h1 : h.frames.length ≠ 8 ∨ (decide ((1 : Int) ≤ (h.guests.length : Int)) && decide ((h.guests.length : Int) ≤ 2)) = false ∨ (decide (0 ≤ h.hand) && decide (h.hand ≤ 7)) = false
    · exact (houseOf_len af ag h.frames.length cf h.guests.length cg h.hand w h1).mono (hfin hno)
    · have h8 : h.frames.length = 8 := by
        rcases Nat.decEq h.frames.length 8 with e | e
        · exact (h1 (Or.inl e)).elim
        · exact e
      have h2 : (decide ((1 : Int) ≤ (h.guests.length : Int)) && decide ((h.guests.length : Int) ≤ 2)) = true := by
        rcases Bool.eq_false_or_eq_true (decide ((1 : Int) ≤ (h.guests.length : Int)) && decide ((h.guests.length : Int) ≤ 2)) with e | e
        · exact e
        · exact (h1 (Or.inr (Or.inl e))).elim
      have h3 : (decide (0 ≤ h.hand) && decide (h.hand ≤ 7)) = true := by
        rcases Bool.eq_false_or_eq_true (decide (0 ≤ h.hand) && decide (h.hand ≤ 7)) with e | e
        · exact e
        · exact (h1 (Or.inr (Or.inr e))).elim
      have h4 : okM h.frames = false := by
        rcases Bool.eq_false_or_eq_true (okM h.frames) with e | e
        · refine (h0 ?_).elim
          simp only [Bool.and_eq_true, decide_eq_true_eq] at h2 h3
          simp only [okHost0, Bool.and_eq_true, beq_iff_eq, decide_eq_true_eq]
          exact ⟨e, h8, ⟨by omega, by omega⟩, h3⟩
        · exact e
      rw [h8] at hF ⊢
      exact (houseOf_bad lo hi af ag cf h.guests.length cg h.hand h.frames w hF hh h2 h3 h4).mono (hfin hno)

set_option maxRecDepth 100000 in
set_option maxHeartbeats 8000000 in
theorem implHostOk (lo hi : Nat) (af ag : Option Addr) (lf cf n cg : Nat) (h : Hst) (w : World) (hH : HostIn w lo hi (.slice af lf cf) (.slice ag n cg) h) (hh : hi ≤ w.heap.size) (hwf : WfGs h.guests.length h.guests) :
    Calls Try.prog 18 #[.agg #[.slice af lf cf, .slice ag n cg, .int .i64 h.hand]] w fun e w' => e = .returned (.bool (okHost h)) ∧ Below w.heap.size w w' := by
  have B0 : Below w.heap.size w (w.alloc (.cells #[.slice af lf cf, .slice ag n cg, .int .i64 h.hand] 26)) := (Below.refl _ _).alloc (Nat.le_refl _) _
  have hc := implHouseOf lo hi af ag lf cf n cg h _ (hH.same (below_sameIn B0 hh)) (Nat.le_trans hh B0.size) hwf
  obtain ⟨zH, hzs, hAl, hSt⟩ := house_var
  go_enter Try.func18, Try.ntmps18
  go_wp2_with (fail)
  refine hc.mono ?_
  rintro e w1 ⟨cs, hl, h1, rfl, B1, _⟩
  rw [houseB_eq]
  have hS := hSt w1 cs hl h1
  have HB : Hid (Below w.heap.size w (w1.alloc (.cells cs.toArray 60))) := (B0.trans (B1.mono B0.size)).alloc (B0.trans (B1.mono B0.size)).size _
  clear hSt hc B0 B1 hH
  go_wp2
  go_ret
  exact ⟨rfl, HB.out⟩

end Go.Proofs.Ytjegndgdpmlbaaa

/-
  What the program's own HostSee answers.
-/
set_option linter.unusedSimpArgs false
namespace Go.Proofs.Ytjegndgdpmlbaaa
open Go.RowKit
attribute [local go_sem ↓] Go.wp_at_zero Go.wp_at_succ exec_app exec_lod exec_house exec_mapsA exec_allocL exec_storeL exec_buildL exec_idxM exec_look exec_upd exec_allocH exec_buildH exec_storeH exec_bsL
attribute [local go_sem] bigNext_ok bigSkip_ok

/-- What an ok host is, guest by guest, page by page. -/
theorem okHost_frames {h : Hst} (ho : okHost h = true) : h.frames.length = 8 ∧ (∀ i, i < 8 → (h.frames.getD i []).length = 4) ∧ 1 ≤ h.guests.length ∧ h.guests.length ≤ 2 ∧ 0 ≤ h.hand ∧ h.hand ≤ 7 := by
  simp only [okHost, okHost0, Bool.and_eq_true, beq_iff_eq, decide_eq_true_eq] at ho
  obtain ⟨⟨h1, h2, ⟨h3, h4⟩, h5, h6⟩, _⟩ := ho
  exact ⟨h2, fun i hi => (okM_get h1 (by omega)).1, h3, h4, h5, h6⟩
theorem okHost_guest {h : Hst} (ho : okHost h = true) {G : Nat} (hG : G < h.guests.length) : Sized (h.guests.getD G noG) ∧ okM (h.guests.getD G noG).disk = true ∧ okGuest h (h.guests.getD G noG) = true := by
  simp only [okHost, Bool.and_eq_true, List.all_eq_true] at ho
  have hm : h.guests.getD G noG ∈ h.guests := by rw [getD_lt hG]; exact List.getElem_mem hG
  have h1 := ho.2.1 _ hm
  rw [← okLod0_eq] at h1
  exact ⟨(okLod0_sized h1).1, (okLod0_sized h1).2, ho.2.2 _ hm⟩
theorem okGuest_map {h : Hst} {g : Gst} (ho : okGuest h g = true) {p : Nat} (hp : p < 6) : okMap h (g.maps.getD p noM) (g.disk.getD p []) = true ∧ okShade g (g.shades.getD p noS) = true := by
  simp only [okGuest, List.all_eq_true, List.mem_range, Bool.and_eq_true] at ho
  exact ho p hp
theorem okMap_in {h : Hst} {m : E3} {d : List Int} (ho : okMap h m d = true) (hi : m.1 = true) : ∃ F : Nat, F < 8 ∧ m.2.1 = (F : Int) := by
  rw [okMap, hi] at ho
  simp only [cond_true, Bool.and_eq_true, decide_eq_true_eq] at ho
  obtain ⟨k, hk⟩ := Int.eq_ofNat_of_zero_le ho.1.1
  exact ⟨k, by omega, hk⟩
theorem pageM_len {h : Hst} (ho : okHost h = true) {G : Nat} (hG : G < h.guests.length) {p : Nat} (hp : p < 6) : (pageM h.frames (h.guests.getD G noG) p).length = 4 := by
  obtain ⟨s, _, o⟩ := okHost_guest ho hG
  cases hi : ((h.guests.getD G noG).maps.getD p noM).1
  · simp only [pageM, hi, cond_false]
    exact s.2.2.1 p hp
  · obtain ⟨F, hF, e⟩ := okMap_in (okGuest_map o hp).1 hi
    simp only [pageM, hi, cond_true, e, Int.toNat_natCast]
    exact (okHost_frames ho).2.1 F hF

def seeB (h : Hst) (G : Int) : Bool := okHost h && (decide (0 ≤ G) && decide (G < h.guests.length))
def seeH (h : Hst) (G : Int) : List (List Int) := bif seeB h G then seeM h.frames (h.guests.getD G.toNat noG) else []

end Go.Proofs.Ytjegndgdpmlbaaa
