/-
  What the program's own HostFree, and the given one, answer.
-/
import Derived.Test.YtpaeigmdhmmjmaaKH
import Derived.Test.YtpaeigmdhmmjmaaKWalkFnExactHostOk
set_option linter.unusedSimpArgs false
namespace Go.Proofs.Ytpaeigmdhmmjmaa
open Go.RowKit
attribute [local go_sem ↓] Go.wp_at_zero Go.wp_at_succ exec_app exec_lod exec_house exec_mapsA exec_allocL exec_storeL exec_buildL exec_idxM exec_look exec_upd exec_allocH exec_buildH exec_storeH exec_bsL
attribute [local go_sem] bigNext_ok bigSkip_ok

/-- The frames in which no page is, up to one. -/
def freeUp (U : Int → Nat) (f : Nat) : List Int := ((List.range f).filter fun i : Nat => U (i : Int) == 0).map fun i : Nat => (i : Int)
theorem freeUp_yes (U : Int → Nat) (f : Nat) (h : U (f : Int) = 0) : freeUp U (f + 1) = freeUp U f ++ [(f : Int)] := by simp [freeUp, List.range_succ, List.filter_append, h]
theorem freeUp_no (U : Int → Nat) (f : Nat) (h : U (f : Int) ≠ 0) : freeUp U (f + 1) = freeUp U f := by simp [freeUp, List.range_succ, List.filter_append, h]
theorem freeUp_len (U : Int → Nat) (f : Nat) : (freeUp U f).length ≤ f := by
  rw [freeUp, List.length_map]
  exact Nat.le_trans (List.length_filter_le _ _) (by simp)
def freeH (h : Hst) : List Int := bif okHost h then freeUp (usersH h) 8 else []

/-- A list of words that is a call's own. -/
def OwnI (w : World) (lo hi : Nat) (v : Value) (zs : List Int) : Prop := ∃ a c, v = .slice a zs.length c ∧ (zs.length = 0 ∨ ∃ b, a = some ⟨b, 0, none⟩ ∧ lo ≤ b ∧ b < hi ∧ Ints w b 0 zs ∧ Room w b zs.length)
theorem own_i {w : World} {lo : Nat} {v : Value} {zs : List Int} (h : w.ownsRow lo 3 1 v zs.length (zv zs)) : OwnI w lo w.heap.size v zs := by
  have hc := h
  obtain ⟨hlen, hd⟩ := h
  rcases hd with ⟨rfl, h0⟩ | ⟨g, cap, cur, rfl, hg, hh, hcap, _⟩
  · exact ⟨none, 0, by rw [h0], Or.inl h0⟩
  · exact ⟨_, _, rfl, Or.inr ⟨g, rfl, hg, (hc.lt g rfl).2, own_ints hc, own_room1 hc⟩⟩

/-- One word more. -/
theorem int_app {w W : World} {N : Nat} {v : Value} {zs : List Int} (z : Int) (hown : W.ownsRow N 3 1 v zs.length (zv zs)) (hB : Below N w W) (hN : N ≤ W.heap.size) (hl : zs.length ≤ 1000) :
    ∃ g c w1, appRun Try.prog 45 45 v (.slice (some ⟨W.heap.size, 0, none⟩) 1 1) (W.alloc (.cells #[.int .i64 z] 3)) = .ok (.slice (some ⟨g, 0, none⟩) (zs.length + 1) c) w1 ∧ Hid (w1.ownsRow N 3 1 (.slice (some ⟨g, 0, none⟩) (zs.length + 1) c) (zs ++ [z]).length (zv (zs ++ [z])) ∧ Below N w w1) := by
  obtain ⟨i0, hi0, hz0, hz1, hz2⟩ := info_parts infoZ
  have hown3 := hown.alloc (.cells #[.int .i64 z] 3)
  obtain ⟨g, c, w1, hrun, own3, grow3, hat, hlt3⟩ := run_append_lies (P := Try.prog) (W.alloc (.cells #[.int .i64 z] 3)) 45 45 N 3 i0 (.int .i64 0) 1 8 Try.underlying45 hi0 hz0 hz1 hz2 rfl (by decide) _ zs.length _ hown3 ⟨W.heap.size, 0, none⟩ 1 1 [.int .i64 z] rfl (one_new W _ _) (by simp [Value.oneCell']) (by decide) (by simp [maxLen]; omega) (by omega) (by simp; omega) _ rfl
  refine ⟨g, c, w1, hrun, ?_, Below.grown (hB.alloc hN _) grow3 (by simp; omega) (fun j hj => (hown3.lt _ hj).1)⟩
  rw [List.length_append, zv, List.map_append]
  exact own3

set_option maxRecDepth 100000 in
set_option maxHeartbeats 8000000 in
theorem implFree (L n cl : Nat) (fs : List (List Int)) (hand : Int) (gs : List Gst) (w : World) (hf : fs.length = 8) (hn : n ≤ 2) (hL : LodsAt w L n gs) (hwf : WfGs n gs) :
    Calls Try.prog 55 #[.agg (houseC fs (.slice (some ⟨L, 0, none⟩) n cl) hand).toArray] w fun e w' => ∃ v, e = .returned v ∧ OwnI w' w.heap.size w'.heap.size v (freeUp (fun f => (ten gs f).length) 8) ∧ Below w.heap.size w w' := by
  obtain ⟨i0, hi0, hz0, hz1, hz2⟩ := info_parts infoZ
  obtain ⟨hgl, hLw, hLs⟩ := hL
  have hr0 : (w.alloc (.cells (houseC fs (.slice (some ⟨L, 0, none⟩) n cl) hand).toArray 74)).rangeAt w.heap.size 0 (houseC fs (.slice (some ⟨L, 0, none⟩) n cl) hand) := range_new w _ 74
  have hiH : (Try.prog.info? 74).map (·.size) = some (houseC fs (.slice (some ⟨L, 0, none⟩) n cl) hand).length := by rw [houseC_len hf]; kernel_rfl
  have hld := big_load Try.underlying74 rfl hiH _ _ _ hr0
  have B0 : Below w.heap.size w (w.alloc (.cells (houseC fs (.slice (some ⟨L, 0, none⟩) n cl) hand).toArray 74)) := (Below.refl _ _).alloc (Nat.le_refl _) _
  have ht := implTenants L n cl fs hand gs (w.alloc (.cells (houseC fs (.slice (some ⟨L, 0, none⟩) n cl) hand).toArray 74)) hf hgl hn (fun i hi => (hLs i hi).1) hwf (by rw [World.size_alloc]; omega) (fun i hi => range_below (hLs i hi).2 B0 hLw)
  have hmk : ∀ w : World, (Instr.makeSlice 45 (.int .i64 0) (.int .i64 8)).run Try.prog w = .ok (.slice (some ⟨w.heap.size, 0, none⟩) 0 8) (w.alloc (.cells (madeCells #[.int .i64 0] (8 * 1)) 3)) := fun w => by
    have h := run_make (P := Try.prog) w 45 3 i0 _ Try.underlying45 hi0 hz0 .i64 .i64 0 8 (by omega) (by omega) (by rw [hz2]; omega) (by omega)
    rw [hz1] at h
    simpa [Value.cells] using h
  generalize hh : (houseC fs (.slice (some ⟨L, 0, none⟩) n cl) hand).toArray = hs at *
  clear hh hr0 hiH hLs
  go_enter Try.func55, Try.ntmps55
  go_wp2_with (fail)
  refine ht.mono ?_
  rintro e w1 ⟨r, rfl, hr1, hW, B1⟩
  have hrl := hW.lt
  have hlook := fun (f : Int) (hf : (Lit.int .i64 f).wf = true) => hW.look f hf
  have HB1 : Hid (Below w.heap.size w w1) := B0.trans (B1.mono B0.size)
  obtain ⟨mk, hmkE⟩ : ∃ mk, mk = madeCells #[.int .i64 0] (8 * 1) := ⟨_, rfl⟩
  rw [← hmkE] at hmk
  have hst : Hid ((w1.alloc (.cells mk 3)).ownsRow w1.heap.size 3 1 (.slice (some ⟨w1.heap.size, 0, none⟩) 0 8) 0 []) := World.ownsRow_made (e := 3) (size := 1) w1 mk 8 (Nat.le_refl _) (by simp [maxLen]) (by rw [hmkE, size_madeCells])
  clear ht hW B1 B0 hld hmkE
  obtain ⟨U, hU⟩ : ∃ U : Int → Nat, U = fun f => (ten gs f).length := ⟨_, rfl⟩
  have hlk : ∀ k : Nat, k < 8 → ∃ a c, ∀ W' : World, W'.heap[r]? = w1.heap[r]? → lookRun Try.prog 105 (.map (some r)) (.int .i64 (k : Int)) W' = .ok (.slice a (U (k : Int)) c) W' := fun k hk => by
    obtain ⟨a, c, h1, _⟩ := hlook (k : Int) (by
      match k, hk with
      | 0, _ => decide
      | 1, _ => decide
      | 2, _ => decide
      | 3, _ => decide
      | 4, _ => decide
      | 5, _ => decide
      | 6, _ => decide
      | 7, _ => decide)
    rw [hU]
    exact ⟨a, c, h1⟩
  have HU : Hid (U = fun f => (ten gs f).length) := hU
  clear hlook hU
  go_wp2_with (fail)
  clear hmk
  go_loopw [4, 9] (fun v i wr => ∃ k : Nat, k ≤ 8 ∧ i = .int .i64 k ∧ Hid (wr.ownsRow w1.heap.size 3 1 v (freeUp U k).length (zv (freeUp U k))) ∧ Hid (Below w1.heap.size w1 wr)) (fun _ i _ => 8 - (intOf i).toNat)
  case atStart => exact ⟨0, Nat.zero_le _, rfl, hst.out, (Below.refl _ _).alloc (Nat.le_refl _) _⟩
  case round =>
    clear hst
    obtain ⟨k, hk, rfl, hown, hB⟩ := hrel
    have sB := hB.out.size
    by_cases hkl : k < 8
    · have hki : (k : Int) < 8 := by omega
      obtain ⟨a, c, hl0⟩ := hlk k hkl
      have hl1 := hl0 wr (hB.out.block r hrl)
      have hlen := freeUp_len U k
      clear hl0
      by_cases hu : U (k : Int) = 0
      · obtain ⟨g, c', w3, happ, HR⟩ := int_app (k : Int) hown.out hB.out sB (by omega)
        rw [← freeUp_yes U k hu] at HR
        rw [hu] at hl1
        clear hown hB
        generalize (freeUp U k).length = fl at *
        go_wp2
        go_roundw
        case rel => exact ⟨k + 1, by omega, by go_num, HR.out.1, HR.out.2⟩
        case measure => simp [intOf]; omega
      · have hu' : ((U (k : Int) : Int) == 0) = false := by simp; omega
        have hown' : Hid (wr.ownsRow w1.heap.size 3 1 u4 (freeUp U (k + 1)).length (zv (freeUp U (k + 1)))) := by rw [freeUp_no U k hu]; exact hown
        clear hown
        generalize U (k : Int) = uk at *
        go_wp2
        go_roundw
        case rel => exact ⟨k + 1, by omega, by go_num, hown', hB⟩
        case measure => simp [intOf]; omega
    · obtain rfl : k = 8 := by omega
      have HO := own_i hown.out
      have hsz := HB1.out.size
      rw [HU.out] at HO
      obtain ⟨a, c, rfl, hd⟩ := HO
      have HD : Hid ((freeUp (fun f => (ten gs f).length) 8).length = 0 ∨ ∃ b, a = some ⟨b, 0, none⟩ ∧ w.heap.size ≤ b ∧ b < wr.heap.size ∧ Ints wr b 0 (freeUp (fun f => (ten gs f).length) 8) ∧ Room wr b (freeUp (fun f => (ten gs f).length) 8).length) := by
        rcases hd with h0 | ⟨b, e, h1, h2⟩
        · exact Or.inl h0
        · exact Or.inr ⟨b, e, by omega, h2⟩
      clear hd hown
      go_wp2
      exact bodyPost_ret (v := .slice a (freeUp (fun f => (ten gs f).length) 8).length c) (by simp [results, Try.results55, go_sem]) rfl ⟨_, rfl, ⟨a, c, rfl, HD.out⟩, HB1.out.trans (hB.out.mono hsz)⟩
end Go.Proofs.Ytpaeigmdhmmjmaa
