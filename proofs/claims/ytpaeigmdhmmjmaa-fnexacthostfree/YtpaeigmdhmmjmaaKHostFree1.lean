/-
  What the program's own HostFree, and the given one, answer: the whole.
-/
import Derived.Test.YtpaeigmdhmmjmaaKHostFree0
import Derived.Test.YtpaeigmdhmmjmaaKSpecSee0
set_option linter.unusedSimpArgs false
namespace Go.Proofs.Ytpaeigmdhmmjmaa
open Go.RowKit
attribute [local go_sem ↓] Go.wp_at_zero Go.wp_at_succ exec_app exec_lod exec_house exec_mapsA exec_allocL exec_storeL exec_buildL exec_idxM exec_look exec_upd exec_allocH exec_buildH exec_storeH exec_bsL
attribute [local go_sem] bigNext_ok bigSkip_ok

theorem free_same {h : Hst} (ho : okHost h = true) : freeUp (fun f => (ten h.guests f).length) 8 = freeH h := by
  rw [freeH, ho]
  have : (fun f => (ten h.guests f).length) = usersH h := by
    funext f
    exact ten_users h f (fun i hi => (okHost_guest ho hi).1.1)
  rw [this]
  rfl
theorem freeH_len (h : Hst) : (freeH h).length ≤ 8 := by
  cases ho : okHost h
  · rw [freeH, ho]; exact Nat.zero_le _
  · rw [freeH, ho]; exact freeUp_len _ _
theorem OwnI.wide {w : World} {lo lo' hi : Nat} {v : Value} {zs : List Int} (h : OwnI w lo hi v zs) (hl : lo' ≤ lo) : OwnI w lo' hi v zs := by
  obtain ⟨a, c, e, hd⟩ := h
  refine ⟨a, c, e, ?_⟩
  rcases hd with h0 | ⟨b, e, h1, h2⟩
  · exact Or.inl h0
  · exact Or.inr ⟨b, e, by omega, h2⟩

set_option maxRecDepth 100000 in
set_option maxHeartbeats 8000000 in
theorem implHostFree (lo hi : Nat) (af ag : Option Addr) (lf cf n cg : Nat) (h : Hst) (w : World) (hH : HostIn w lo hi (.slice af lf cf) (.slice ag n cg) h) (hh : hi ≤ w.heap.size) (hwf : WfGs h.guests.length h.guests) :
    Calls Try.prog 27 #[.agg #[.slice af lf cf, .slice ag n cg, .int .i64 h.hand]] w fun e w' => ∃ v, e = .returned v ∧ OwnI w' w.heap.size w'.heap.size v (freeH h) ∧ Below w.heap.size w w' := by
  have B0 : Below w.heap.size w (w.alloc (.cells #[.slice af lf cf, .slice ag n cg, .int .i64 h.hand] 25)) := (Below.refl _ _).alloc (Nat.le_refl _) _
  have hc := implHouseOf lo hi af ag lf cf n cg h _ (hH.same (below_sameIn B0 hh)) (Nat.le_trans hh B0.size) hwf
  obtain ⟨zH, hzs, hAl, hSt⟩ := house_var
  clear hH
  cases hok : okHost h
  · have hS2 : Hid (freeH h = []) := by
      show _ = _
      rw [freeH, hok]; rfl
    go_enter Try.func27, Try.ntmps27
    go_wp2_with (fail)
    refine hc.mono ?_
    rintro e w1 ⟨cs, hl, h1, rfl, B1, _⟩
    rw [houseB_eq, hok]
    have hS := hSt w1 cs hl h1
    have HB : Hid (Below w.heap.size w (w1.alloc (.cells cs.toArray 74))) := (B0.trans (B1.mono B0.size)).alloc (B0.trans (B1.mono B0.size)).size _
    clear hSt hc B0 B1
    go_wp2
    go_ret
    rw [hS2.out]
    exact ⟨_, rfl, ⟨none, 0, rfl, Or.inl rfl⟩, HB.out⟩
  · obtain ⟨hf8, hf4, _, hg2, _⟩ := okHost_frames hok
    have hfs := free_same hok
    go_enter Try.func27, Try.ntmps27
    go_wp2_with (fail)
    refine hc.mono ?_
    rintro e w1 ⟨cs, hl, h1, rfl, B1, hL⟩
    rw [houseB_eq] at hL ⊢
    rw [hok]
    obtain ⟨L, c, rfl, hL1, hL2, _⟩ := hL hok
    have hS := hSt w1 _ hl h1
    have hr := range_new w1 (houseC h.frames (.slice (some ⟨L, 0, none⟩) h.guests.length c) h.hand) 74
    have hiH : (Try.prog.info? 74).map (·.size) = some (houseC h.frames (.slice (some ⟨L, 0, none⟩) h.guests.length c) h.hand).length := by rw [hl]; kernel_rfl
    have BA : Below w1.heap.size w1 (w1.alloc (.cells (houseC h.frames (.slice (some ⟨L, 0, none⟩) h.guests.length c) h.hand).toArray 74)) := (Below.refl _ _).alloc (Nat.le_refl _) _
    have hB1 : Below w.heap.size w w1 := B0.trans (B1.mono B0.size)
    have hld := big_load Try.underlying74 rfl hiH _ _ _ hr
    have hL2' := hL2.below BA (hL2.2.1) (Nat.le_refl _)
    have hB2 : Hid (Below w.heap.size w (w1.alloc (.cells (houseC h.frames (.slice (some ⟨L, 0, none⟩) h.guests.length c) h.hand).toArray 74))) := hB1.trans (BA.mono hB1.size)
    have hfr := implFree L h.guests.length c h.frames h.hand h.guests _ hf8 hg2 hL2' hwf
    rw [hfs] at hfr
    clear hSt hc B0 hL hr hiH BA hL2 hL2' hB1 B1
    generalize (houseC h.frames (.slice (some ⟨L, 0, none⟩) h.guests.length c) h.hand).toArray = hs at *
    go_wp2_with (fail)
    refine hfr.mono ?_
    rintro e w3 ⟨v, rfl, hO, B3⟩
    obtain ⟨a, c', rfl, hd⟩ := hO.wide hB2.out.size
    have HD : Hid ((freeH h).length = 0 ∨ ∃ b, a = some ⟨b, 0, none⟩ ∧ w.heap.size ≤ b ∧ b < w3.heap.size ∧ Ints w3 b 0 (freeH h) ∧ Room w3 b (freeH h).length) := hd
    have HB : Hid (Below w.heap.size w w3) := hB2.out.trans (B3.mono hB2.out.size)
    clear hfr hO B3 hd hld hS
    go_wp2
    go_ret
    exact ⟨_, rfl, ⟨a, c', rfl, HD.out⟩, HB.out⟩

set_option maxRecDepth 100000 in
set_option maxHeartbeats 8000000 in
theorem specHostFree (lo hi : Nat) (af ag : Option Addr) (lf cf n cg : Nat) (h : Hst) (w : World) (hH : HostIn w lo hi (.slice af lf cf) (.slice ag n cg) h) (hlf : h.frames.length = lf) (hn : h.guests.length = n) (hh : hi ≤ w.heap.size) (hS : SmallH h) :
    Calls Try.prog 26 #[.agg #[.slice af lf cf, .slice ag n cg, .int .i64 h.hand]] w fun e w' => ∃ v, e = .returned v ∧ OwnI w' w.heap.size w'.heap.size v (freeH h) ∧ Below w.heap.size w w' := by
  obtain ⟨W1, hW1⟩ : ∃ W1, W1 = w.alloc (.cells #[.slice af lf cf, .slice ag n cg, .int .i64 h.hand] 25) := ⟨_, rfl⟩
  have s1 : W1.heap.size = w.heap.size + 1 := by rw [hW1]; simp
  have B1 : Below w.heap.size w W1 := by rw [hW1]; exact (Below.refl _ _).alloc (Nat.le_refl _) _
  have x1 : W1.cell? ⟨w.heap.size, 0, none⟩ = some (.slice af lf cf) ∧ W1.cell? ⟨w.heap.size, 1, none⟩ = some (.slice ag n cg) ∧ W1.cell? ⟨w.heap.size, 2, none⟩ = some (.int .i64 h.hand) := by rw [hW1]; simp
  obtain ⟨W2, hW2⟩ : ∃ W2, W2 = W1.alloc (.cells #[] 3) := ⟨_, rfl⟩
  have s2 : W2.heap.size = w.heap.size + 1 + 1 := by rw [hW2, World.size_alloc, s1]
  have B2 : Below (w.heap.size + 1) W1 W2 := by rw [hW2]; exact (Below.refl _ _).alloc (by omega) _
  have own2 : W2.ownsRow (w.heap.size + 1) 3 1 (.slice (some ⟨w.heap.size + 1, 0, none⟩) 0 0) 0 [] := by
    have := World.ownsRow_made (e := 3) (size := 1) W1 #[] 0 (Nat.le_refl _) (by simp [maxLen]) rfl
    rw [s1] at this
    rw [hW2]
    exact this
  have B02 : Below w.heap.size w W2 := B1.trans (B2.mono (Nat.le_succ _))
  obtain ⟨hF, hG⟩ := hH.parts
  have hok := hostOk_core lo hi af ag lf cf n cg h W2 hlf (hF.same (below_sameIn B02 hh)) hn (hG.same (below_sameIn B02 hh)) (by omega) hS
  rw [hW1] at hW2
  clear hF hG
  cases ho : okHost h
  · have hS2 : Hid (freeH h = []) := by
      show _ = _
      rw [freeH, ho]; rfl
    rw [ho] at hok
    clear hH own2
    go_enter Try.func26, Try.ntmps26
    go_wp2_with (fail)
    rw [← hW2]
    clear hW2 hW1
    refine hok.mono ?_
    rintro e w3 ⟨rfl, B3⟩
    have HB3 : Hid (Below w.heap.size w w3) := B02.trans (B3.mono (by omega))
    clear hok B3 B1 B2 B02
    go_wp2
    go_ret
    rw [hS2.out]
    exact ⟨_, rfl, ⟨_, _, rfl, Or.inl rfl⟩, HB3.out⟩
  · have hfe : Hid (freeH h = freeUp (usersH h) 8) := by
      show _ = _
      rw [freeH, ho]; rfl
    obtain ⟨hf8, _, hg1, hg2, _⟩ := okHost_frames ho
    have hus := fun (W' : World) (B : Below w.heap.size w W') (f : Int) => specUsers lo hi _ _ h f W' (hH.same (below_sameIn B hh)) (Nat.le_trans hh B.size) (by omega) (fun i hi => by rw [(okHost_guest ho hi).1.1]; omega)
    rw [ho] at hok
    clear hH
    go_enter Try.func26, Try.ntmps26
    go_wp2_with (fail)
    rw [← hW2]
    clear hW2 hW1
    refine hok.mono ?_
    rintro e w3 ⟨rfl, B3⟩
    have hst : Hid (w3.ownsRow (w.heap.size + 1) 3 1 (.slice (some ⟨w.heap.size + 1, 0, none⟩) 0 0) 0 [] ∧ Below (w.heap.size + 1) W1 w3) := ⟨own_below own2 B3, B2.trans (B3.mono (by omega))⟩
    clear hok B3 B2 B02 own2 s2
    generalize usersH h = U at *
    go_wp2
    go_loopw [3, 4] (fun v i wr => ∃ k : Nat, k ≤ 8 ∧ i = .int .i64 k ∧ Hid (wr.ownsRow (w.heap.size + 1) 3 1 v (freeUp U k).length (zv (freeUp U k))) ∧ Hid (Below (w.heap.size + 1) W1 wr)) (fun _ i _ => 8 - (intOf i).toNat)
    case atStart => exact ⟨0, Nat.zero_le _, rfl, hst.out.1, hst.out.2⟩
    case round =>
      clear hst
      obtain ⟨k, hk, rfl, hown, hB⟩ := hrel
      have sB := hB.out.size
      have HBw : Hid (Below w.heap.size w wr) := B1.trans (hB.out.mono (Nat.le_succ _))
      by_cases hkl : k < 8
      · have hki : (k : Int) < 8 := by omega
        obtain ⟨y0, y1, y2⟩ := cells3 hB.out (Nat.lt_succ_self w.heap.size) x1
        have hu1 := hus wr HBw.out (k : Int)
        have hlen := freeUp_len U k
        have hlt : w.heap.size < wr.heap.size := by omega
        clear hus
        go_wp2_with (fail)
        refine hu1.mono ?_
        rintro e w4 ⟨rfl, B4⟩
        have own4 := own_below hown.out B4
        have Bw4 : Below (w.heap.size + 1) W1 w4 := hB.out.trans (B4.mono (by omega))
        have s4 := B4.size
        by_cases hu : U (k : Int) = 0
        · obtain ⟨g, c', w5, happ, HR⟩ := int_app (k : Int) own4 Bw4 (by omega) (by omega)
          rw [← freeUp_yes U k hu] at HR
          rw [hu]
          clear hown hB hu1 own4 Bw4 B4
          generalize (freeUp U k).length = fl at *
          go_wp2
          go_roundw
          case rel => exact ⟨k + 1, by omega, by go_num, HR.out.1, HR.out.2⟩
          case measure => simp [intOf]; omega
        · have hu' : ((U (k : Int) : Int) == 0) = false := by simp; omega
          have hown' : Hid (w4.ownsRow (w.heap.size + 1) 3 1 u3 (freeUp U (k + 1)).length (zv (freeUp U (k + 1)))) := by rw [freeUp_no U k hu]; exact own4
          have HB4 : Hid (Below (w.heap.size + 1) W1 w4) := Bw4
          clear hown hB hu1 own4 Bw4 B4
          generalize U (k : Int) = uk at *
          go_wp2
          go_roundw
          case rel => exact ⟨k + 1, by omega, by go_num, hown', HB4⟩
          case measure => simp [intOf]; omega
      · obtain rfl : k = 8 := by omega
        have HO := (own_i hown.out).wide (Nat.le_succ w.heap.size)
        rw [← hfe.out] at HO
        obtain ⟨a, c, rfl, hd⟩ := HO
        have HD : Hid ((freeH h).length = 0 ∨ ∃ b, a = some ⟨b, 0, none⟩ ∧ w.heap.size ≤ b ∧ b < wr.heap.size ∧ Ints wr b 0 (freeH h) ∧ Room wr b (freeH h).length) := hd
        clear hd hown hfe hB
        go_wp2
        go_ret
        exact ⟨_, rfl, ⟨a, c, rfl, HD.out⟩, HBw.out⟩
end Go.Proofs.Ytpaeigmdhmmjmaa
