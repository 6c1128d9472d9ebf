/-
  What the program's own HostFree, and the given one, answer: the whole.
-/
import Derived.Test.YtcaknccodndmiaaKHostFree0
import Derived.Test.YtcaknccodndmiaaKSpecSee0
set_option linter.unusedSimpArgs false
namespace Go.Proofs.Ytcaknccodndmiaa
open Go.RowKit
attribute [local go_sem ↓] Go.wp_at_zero Go.wp_at_succ exec_app exec_lod exec_house exec_mapsA exec_allocL exec_storeL exec_buildL exec_idxM exec_look exec_upd exec_allocH exec_buildH exec_storeH exec_bsL
attribute [local go_sem] bigNext_ok bigSkip_ok

theorem free_same {h : Hst} (ho : okHost h = true) : freeUp (fun f => (ten h.guests f).length) 8 = freeH h := by
  rw [freeH, ho]
  have : (fun f => (ten h.guests f).length) = usersH h := by
    funext f
    exact ten_users h f (fun i hi => (okHost_guest ho hi).1.1)
  rw [this]
  rfl
theorem freeH_len (h : Hst) : (freeH h).length ≤ 8 := by
  cases ho : okHost h
  · rw [freeH, ho]; exact Nat.zero_le _
  · rw [freeH, ho]; exact freeUp_len _ _
theorem OwnI.wide {w : World} {lo lo' hi : Nat} {v : Value} {zs : List Int} (h : OwnI w lo hi v zs) (hl : lo' ≤ lo) : OwnI w lo' hi v zs := by
  obtain ⟨a, c, e, hd⟩ := h
  refine ⟨a, c, e, ?_⟩
  rcases hd with h0 | ⟨b, e, h1, h2⟩
  · exact Or.inl h0
  · exact Or.inr ⟨b, e, by omega, h2⟩

set_option maxRecDepth 100000 in
set_option maxHeartbeats 8000000 in
theorem implHostFree (lo hi : Nat) (af ag : Option Addr) (lf cf n cg : Nat) (h : Hst) (w : World) (hH : HostIn w lo hi (.slice af lf cf) (.slice ag n cg) h) (hh : hi ≤ w.heap.size) (hwf : WfGs h.guests.length h.guests) :
    Calls Try.prog 23 #[.agg #[.slice af lf cf, .slice ag n cg, .int .i64 h.hand]] w fun e w' => ∃ v, e = .returned v ∧ OwnI w' w.heap.size w'.heap.size v (freeH h) ∧ Below w.heap.size w w' := by
  have B0 : Below w.heap.size w (w.alloc (.cells #[.slice af lf cf, .slice ag n cg, .int .i64 h.hand] 27)) := (Below.refl _ _).alloc (Nat.le_refl _) _
  have hc := implHouseOf lo hi af ag lf cf n cg h _ (hH.same (below_sameIn B0 hh)) (Nat.le_trans hh B0.size) hwf
  obtain ⟨zH, hzs, hAl, hSt⟩ := house_var
  clear hH
  cases hok : okHost h
  · have hS2 : Hid (freeH h = []) := by
      show _ = _
      rw [freeH, hok]; rfl
    go_enter Try.func23, Try.ntmps23
    go_wp2_with (fail)
    refine hc.mono ?_
    rintro e w1 ⟨cs, hl, h1, rfl, B1, _⟩
    rw [houseB_eq, hok]
    have hS := hSt w1 cs hl h1
    have HB : Hid (Below w.heap.size w (w1.alloc (.cells cs.toArray 79))) := (B0.trans (B1.mono B0.size)).alloc (B0.trans (B1.mono B0.size)).size _
    clear hSt hc B0 B1
    go_wp2
    go_ret
    rw [hS2.out]
    exact ⟨_, rfl, ⟨none, 0, rfl, Or.inl rfl⟩, HB.out⟩
  · obtain ⟨hf8, hf4, _, hg2, _⟩ := okHost_frames hok
    have hfs := free_same hok
    go_enter Try.func23, Try.ntmps23
    go_wp2_with (fail)
    refine hc.mono ?_
    rintro e w1 ⟨cs, hl, h1, rfl, B1, hL⟩
    rw [houseB_eq] at hL ⊢
    rw [hok]
    obtain ⟨L, c, rfl, hL1, hL2, _⟩ := hL hok
    have hS := hSt w1 _ hl h1
    have hr := range_new w1 (houseC h.frames (.slice (some ⟨L, 0, none⟩) h.guests.length c) h.hand) 79
    have hiH : (Try.prog.info? 79).map (·.size) = some (houseC h.frames (.slice (some ⟨L, 0, none⟩) h.guests.length c) h.hand).length := by rw [hl]; kernel_rfl
    have BA : Below w1.heap.size w1 (w1.alloc (.cells (houseC h.frames (.slice (some ⟨L, 0, none⟩) h.guests.length c) h.hand).toArray 79)) := (Below.refl _ _).alloc (Nat.le_refl _) _
    have hB1 : Below w.heap.size w w1 := B0.trans (B1.mono B0.size)
    have hld := big_load Try.underlying79 rfl hiH _ _ _ hr
    have hL2' := hL2.below BA (hL2.2.1) (Nat.le_refl _)
    have hB2 : Hid (Below w.heap.size w (w1.alloc (.cells (houseC h.frames (.slice (some ⟨L, 0, none⟩) h.guests.length c) h.hand).toArray 79))) := hB1.trans (BA.mono hB1.size)
    have hfr := implFree L h.guests.length c h.frames h.hand h.guests _ hf8 hg2 hL2' hwf
    rw [hfs] at hfr
    clear hSt hc B0 hL hr hiH BA hL2 hL2' hB1 B1
    generalize (houseC h.frames (.slice (some ⟨L, 0, none⟩) h.guests.length c) h.hand).toArray = hs at *
    go_wp2_with (fail)
    refine hfr.mono ?_
    rintro e w3 ⟨v, rfl, hO, B3⟩
    obtain ⟨a, c', rfl, hd⟩ := hO.wide hB2.out.size
    have HD : Hid ((freeH h).length = 0 ∨ ∃ b, a = some ⟨b, 0, none⟩ ∧ w.heap.size ≤ b ∧ b < w3.heap.size ∧ Ints w3 b 0 (freeH h) ∧ Room w3 b (freeH h).length) := hd
    have HB : Hid (Below w.heap.size w w3) := hB2.out.trans (B3.mono hB2.out.size)
    clear hfr hO B3 hd hld hS
    go_wp2
    go_ret
    exact ⟨_, rfl, ⟨a, c', rfl, HD.out⟩, HB.out⟩

end Go.Proofs.Ytcaknccodndmiaa
