/-
  What the program's own HostSee answers.
-/
import Derived.Test.YtahcoklhijjenaaHostAns0
set_option linter.unusedSimpArgs false
namespace Go.Proofs.Ytahcoklhijjenaa
open Go.RowKit
attribute [local go_sem ↓] Go.wp_at_zero Go.wp_at_succ exec_app exec_lod exec_house exec_mapsA exec_allocL exec_storeL exec_buildL exec_idxM exec_look exec_upd exec_allocH exec_buildH exec_storeH exec_bsL
attribute [local go_sem] bigNext_ok bigSkip_ok

/-- What an ok host is, guest by guest, page by page. -/
theorem okHost_frames {h : Hst} (ho : okHost h = true) : h.frames.length = 8 ∧ (∀ i, i < 8 → (h.frames.getD i []).length = 4) ∧ 1 ≤ h.guests.length ∧ h.guests.length ≤ 2 ∧ 0 ≤ h.hand ∧ h.hand ≤ 7 := by
  simp only [okHost, okHost0, Bool.and_eq_true, beq_iff_eq, decide_eq_true_eq] at ho
  obtain ⟨⟨h1, h2, ⟨h3, h4⟩, h5, h6⟩, _⟩ := ho
  exact ⟨h2, fun i hi => (okM_get h1 (by omega)).1, h3, h4, h5, h6⟩
theorem okHost_guest {h : Hst} (ho : okHost h = true) {G : Nat} (hG : G < h.guests.length) : Sized (h.guests.getD G noG) ∧ okM (h.guests.getD G noG).disk = true ∧ okGuest h (h.guests.getD G noG) = true := by
  simp only [okHost, Bool.and_eq_true, List.all_eq_true] at ho
  have hm : h.guests.getD G noG ∈ h.guests := by rw [getD_lt hG]; exact List.getElem_mem hG
  have h1 := ho.2.1 _ hm
  rw [← okLod0_eq] at h1
  exact ⟨(okLod0_sized h1).1, (okLod0_sized h1).2, ho.2.2 _ hm⟩
theorem okGuest_map {h : Hst} {g : Gst} (ho : okGuest h g = true) {p : Nat} (hp : p < 6) : okMap h (g.maps.getD p noM) (g.disk.getD p []) = true ∧ okShade g (g.shades.getD p noS) = true := by
  simp only [okGuest, List.all_eq_true, List.mem_range, Bool.and_eq_true] at ho
  exact ho p hp
theorem okMap_in {h : Hst} {m : E3} {d : List Int} (ho : okMap h m d = true) (hi : m.1 = true) : ∃ F : Nat, F < 8 ∧ m.2.1 = (F : Int) := by
  rw [okMap, hi] at ho
  simp only [cond_true, Bool.and_eq_true, decide_eq_true_eq] at ho
  obtain ⟨k, hk⟩ := Int.eq_ofNat_of_zero_le ho.1.1
  exact ⟨k, by omega, hk⟩
theorem pageM_len {h : Hst} (ho : okHost h = true) {G : Nat} (hG : G < h.guests.length) {p : Nat} (hp : p < 6) : (pageM h.frames (h.guests.getD G noG) p).length = 4 := by
  obtain ⟨s, _, o⟩ := okHost_guest ho hG
  cases hi : ((h.guests.getD G noG).maps.getD p noM).1
  · simp only [pageM, hi, cond_false]
    exact s.2.2.1 p hp
  · obtain ⟨F, hF, e⟩ := okMap_in (okGuest_map o hp).1 hi
    simp only [pageM, hi, cond_true, e, Int.toNat_natCast]
    exact (okHost_frames ho).2.1 F hF

def seeB (h : Hst) (G : Int) : Bool := okHost h && (decide (0 ≤ G) && decide (G < h.guests.length))
def seeH (h : Hst) (G : Int) : List (List Int) := bif seeB h G then seeM h.frames (h.guests.getD G.toNat noG) else []

set_option maxRecDepth 100000 in
set_option maxHeartbeats 8000000 in
theorem implHostSee (lo hi : Nat) (af ag : Option Addr) (lf cf n cg : Nat) (h : Hst) (G : Int) (w : World) (hH : HostIn w lo hi (.slice af lf cf) (.slice ag n cg) h) (hh : hi ≤ w.heap.size) (hwf : WfGs h.guests.length h.guests) :
    Calls Try.prog 16 #[.agg #[.slice af lf cf, .slice ag n cg, .int .i64 h.hand], .int .i64 G] w fun e w' => ∃ a c, e = .returned (.slice a (seeH h G).length c) ∧ OwnMem w' w.heap.size w'.heap.size a (seeH h G).length (seeH h G) ∧ Below w.heap.size w w' := by
  have B0 : Below w.heap.size w (w.alloc (.cells #[.slice af lf cf, .slice ag n cg, .int .i64 h.hand] 27)) := (Below.refl _ _).alloc (Nat.le_refl _) _
  have hc := implHouseOf lo hi af ag lf cf n cg h _ (hH.same (below_sameIn B0 hh)) (Nat.le_trans hh B0.size) hwf
  obtain ⟨zH, hzs, hAl, hSt⟩ := house_var
  clear hH
  cases hok : okHost h
  · have hS : seeH h G = [] := by rw [seeH, seeB, hok]; rfl
    rw [hS]
    go_enter Try.func16, Try.ntmps16
    go_wp2_with (fail)
    refine hc.mono ?_
    rintro e w1 ⟨cs, hl, h1, rfl, B1, _⟩
    rw [houseB_eq, hok]
    have hS := hSt w1 cs hl h1
    have HB : Hid (Below w.heap.size w (w1.alloc (.cells cs.toArray 72))) := (B0.trans (B1.mono B0.size)).alloc (B0.trans (B1.mono B0.size)).size _
    clear hSt hc B0 B1
    go_wp2
    go_ret
    exact ⟨none, 0, rfl, ⟨rfl, Or.inl rfl⟩, HB.out⟩
  · obtain ⟨hf8, hf4, _⟩ := okHost_frames hok
    have hgs := fun {G : Nat} (hG : G < h.guests.length) => okHost_guest hok hG
    go_enter Try.func16, Try.ntmps16
    go_wp2_with (fail)
    refine hc.mono ?_
    rintro e w1 ⟨cs, hl, h1, rfl, B1, hL⟩
    rw [houseB_eq] at hL ⊢
    rw [hok]
    obtain ⟨L, c, rfl, hL1, hL2, _⟩ := hL hok
    have hS := hSt w1 _ hl h1
    have hr := range_new w1 (houseC h.frames (.slice (some ⟨L, 0, none⟩) h.guests.length c) h.hand) 72
    have hiH : (Try.prog.info? 72).map (·.size) = some (houseC h.frames (.slice (some ⟨L, 0, none⟩) h.guests.length c) h.hand).length := by rw [hl]; kernel_rfl
    have hld : ∀ W : World, W.rangeAt w1.heap.size 0 (houseC h.frames (.slice (some ⟨L, 0, none⟩) h.guests.length c) h.hand) → bigRun Try.prog 72 (.pointer (some ⟨w1.heap.size, 0, none⟩)) W = .ok (.agg (houseC h.frames (.slice (some ⟨L, 0, none⟩) h.guests.length c) h.hand).toArray) W := fun W k => big_load Try.underlying72 rfl hiH _ _ W k
    have BA : Below w1.heap.size w1 (w1.alloc (.cells (houseC h.frames (.slice (some ⟨L, 0, none⟩) h.guests.length c) h.hand).toArray 72)) := (Below.refl _ _).alloc (Nat.le_refl _) _
    have hB1 : Below w.heap.size w w1 := B0.trans (B1.mono B0.size)
    obtain ⟨W2, hW2⟩ : ∃ W2, W2 = w1.alloc (.cells (houseC h.frames (.slice (some ⟨L, 0, none⟩) h.guests.length c) h.hand).toArray 72) := ⟨_, rfl⟩
    rw [← hW2] at hr BA hS
    have s2 : W2.heap.size = w1.heap.size + 1 := by rw [hW2]; simp
    have hL2' := hL2.below BA (hL2.2.1) (Nat.le_refl _)
    have hB2 : Below w.heap.size w W2 := hB1.trans (BA.mono hB1.size)
    have hhas := implHas L h.guests.length c h.frames h.hand G W2 hf8
    have hld2 := hld W2 hr
    clear hSt hc B0 hL hW2
    have hLw2 : L < W2.heap.size := hL2'.2.1
    by_cases hG : 0 ≤ G ∧ G < h.guests.length
    · obtain ⟨G', rfl⟩ := Int.eq_ofNat_of_zero_le hG.1
      have hG' : G' < h.guests.length := by omega
      rw [show (decide (0 ≤ (G' : Int)) && decide ((G' : Int) < h.guests.length)) = true by simp; omega] at hhas
      have hS2 : Hid (seeH h (G' : Int) = seeM h.frames (h.guests.getD G' noG)) := by
        show _ = _
        rw [seeH, seeB, hok, show (decide (0 ≤ (G' : Int)) && decide ((G' : Int) < h.guests.length)) = true by simp; omega]; rfl
      have hl6 := seeM_len h.frames (h.guests.getD G' noG)
      have hp4 : ∀ i, i < 6 → ((seeM h.frames (h.guests.getD G' noG)).getD i []).length = 4 := fun i hi => by rw [seeM_get _ _ hi]; exact pageM_len hok hG' hi
      have hseen := fun (W : World) (hB : Below W2.heap.size W2 W) => implSeen L h.guests.length c G' h.frames h.hand h.guests W hf8 hf4 hG' (hL2'.below hB hLw2 (Nat.le_refl _)) (fun p hp hi => okMap_in (okGuest_map (hgs hG').2.2 hp).1 hi)
      clear hL2 hL2'
      generalize seeM h.frames (h.guests.getD G' noG) = sm at *
      generalize hcs : (houseC h.frames (.slice (some ⟨L, 0, none⟩) h.guests.length c) h.hand).toArray = hs at *
      go_wp2_with (fail)
      refine hhas.mono ?_
      rintro e w3 ⟨rfl, B3⟩
      have hr3 := range_below hr B3 (by omega)
      have hld3 := hld w3 hr3
      have hse := hseen w3 B3
      clear hhas hseen hld2 hld hS
      go_wp2_with (fail)
      refine hse.mono ?_
      rintro e w4 ⟨X, rfl, hX1, hX2, hSh, B4⟩
      have hmo := memOf_any X 6 6 sm w4 hl6 hX2 hSh hp4 (by omega)
      clear hse hld3
      go_wp2_with (fail)
      refine hmo.mono ?_
      rintro e w5 ⟨T, rfl, hO, B5⟩
      have HB : Hid (Below w.heap.size w w5 ∧ w.heap.size ≤ w4.heap.size) := by
        have b1 := hB2.trans (B3.mono hB2.size)
        have b2 := b1.trans (B4.mono b1.size)
        exact ⟨b2.trans (B5.mono b2.size), b2.size⟩
      clear hmo
      go_wp2
      go_ret
      rw [hS2.out, hl6]
      exact ⟨_, _, rfl, hO.wide HB.out.2 (Nat.le_refl _), HB.out.1⟩
    · rw [show (decide (0 ≤ G) && decide (G < h.guests.length)) = false by simp; omega] at hhas
      have hS2 : Hid (seeH h G = []) := by
        show _ = _
        rw [seeH, seeB, show (decide (0 ≤ G) && decide (G < h.guests.length)) = false by simp; omega]; simp
      clear hL2 hL2'
      generalize hcs : (houseC h.frames (.slice (some ⟨L, 0, none⟩) h.guests.length c) h.hand).toArray = hs at *
      go_wp2_with (fail)
      refine hhas.mono ?_
      rintro e w3 ⟨rfl, B3⟩
      have HB : Hid (Below w.heap.size w w3) := hB2.trans (B3.mono hB2.size)
      clear hhas hld2 hld hS
      go_wp2
      go_ret
      rw [hS2.out]
      exact ⟨none, 0, rfl, ⟨rfl, Or.inl rfl⟩, HB.out⟩
end Go.Proofs.Ytahcoklhijjenaa
