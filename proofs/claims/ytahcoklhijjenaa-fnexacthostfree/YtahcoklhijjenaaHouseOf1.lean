/-
  What the program's own reading of a host does: the whole.
-/
import Derived.Test.YtahcoklhijjenaaHouseOf0
import Derived.Test.YtahcoklhijjenaaBuildRow0
set_option linter.unusedSimpArgs false
namespace Go.Proofs.Ytahcoklhijjenaa
open Go.RowKit
attribute [local go_sem ↓] Go.wp_at_zero Go.wp_at_succ exec_app exec_lod exec_house exec_mapsA exec_allocL exec_storeL exec_buildL exec_idxM exec_look exec_upd exec_allocH exec_buildH exec_storeH exec_bsL
attribute [local go_sem] bigNext_ok bigSkip_ok

theorem flatMap_lod {gs : List Gst} : ∀ k, k ≤ gs.length → (∀ i, i < k → Sized (gs.getD i noG)) → ((gs.take k).flatMap lodC).length = k * 66
  | 0, _, _ => by simp
  | k + 1, hk, hS => by
    rw [List.take_succ_eq_append_getElem (by omega), List.flatMap_append, List.length_append, flatMap_lod k (by omega) (fun i hi => hS i (by omega))]
    have := lodC_len (hS k (by omega))
    rw [getD_lt (by omega)] at this
    simp [this]
    omega
theorem lods_of_own {w : World} {lo L n c : Nat} {gs : List Gst} (h : w.ownsRow lo 87 66 (.slice (some ⟨L, 0, none⟩) n c) n (gs.flatMap lodC)) (hn : gs.length = n) (hS : ∀ i, i < n → Sized (gs.getD i noG)) : LodsAt w L n gs ∧ w.there L 0 (n * 66) := by
  have hlt := (h.lt L rfl).2
  have hcells := h.cells (g := L) rfl
  have hall : w.rangeAt L 0 (gs.flatMap lodC) := fun j v hj => by
    have := hcells j v hj
    rw [ad0] at this
    rw [Nat.zero_add]
    exact this
  refine ⟨⟨hn, hlt, fun i hi => ⟨hS i hi, ?_⟩⟩, fun j hj => ?_⟩
  · have e : gs.flatMap lodC = (gs.take i).flatMap lodC ++ (lodC (gs.getD i noG) ++ (gs.drop (i + 1)).flatMap lodC) := by
      have hcons : gs.drop i = gs.getD i noG :: gs.drop (i + 1) := by
        rw [getD_lt (by omega)]
        exact List.drop_eq_getElem_cons (by omega)
      have : gs = gs.take i ++ (gs.getD i noG :: gs.drop (i + 1)) := by rw [← hcons, List.take_append_drop]
      conv => lhs; rw [this]
      rw [List.flatMap_append, List.flatMap_cons]
    rw [e] at hall
    have := range_left (range_right hall (flatMap_lod i (by omega) (fun i' hi' => hS i' (by omega))))
    rwa [Nat.zero_add] at this
  · obtain ⟨_, hd⟩ := h
    rcases hd with ⟨h0, _⟩ | ⟨g, c', cur, hv, _, hh, hnc, _, hsz, _⟩
    · cases h0
    · cases hv
      rw [Nat.zero_add]
      have hj' : j < cur.size := by rw [hsz]; exact Nat.lt_of_lt_of_le hj (Nat.mul_le_mul_right _ hnc)
      have hc := cell_of_row w L j cur 87 (0, 0) hh
      exact ⟨by rw [hc]; simp [hj'], by simp [World.frozen?, hh]⟩

def houseB (h : Hst) : Bool := okHost0 h && (h.guests.all okLod0 && h.guests.all (okLod (ten h.guests)))
def HouseRead (w w' : World) (e : Ending) (h : Hst) : Prop :=
  ∃ cs : List Value, cs.length = 34 ∧ (∀ v ∈ cs, v.oneCell' = true) ∧ e = .returned (.tuple #[.agg cs.toArray, .bool (houseB h)]) ∧ Below w.heap.size w w' ∧
    (houseB h = true → ∃ L c, cs = houseC h.frames (.slice (some ⟨L, 0, none⟩) h.guests.length c) h.hand ∧ w.heap.size ≤ L ∧ LodsAt w' L h.guests.length h.guests ∧ w'.there L 0 (h.guests.length * 66))

set_option maxRecDepth 100000 in
set_option maxHeartbeats 16000000 in
theorem houseOf_main (lo hi : Nat) (af ag : Option Addr) (cf n cg : Nat) (h : Hst) (w : World) (hF : IsMem w lo hi af 8 h.frames) (hG : IsGuests w lo hi ag n h.guests) (hh : hi ≤ w.heap.size) (h0 : okHost0 h = true) (hgl : h.guests.length = n) (hwf : WfGs n h.guests) :
    Calls Try.prog 50 #[.agg #[.slice af 8 cf, .slice ag n cg, .int .i64 h.hand]] w fun e w' => HouseRead w w' e h := by
  have hp := h0
  simp only [okHost0, Bool.and_eq_true, beq_iff_eq, decide_eq_true_eq] at hp
  obtain ⟨ho, hf8, ⟨hn1, hn2⟩, hh0, hh7⟩ := hp
  rw [hgl] at hn1 hn2
  have hGu := implGuestsOk n
  rw [show (decide ((1 : Int) ≤ (n : Int)) && decide ((n : Int) ≤ 2)) = true by simp; omega] at hGu
  have hFr := implFrameOk h.hand
  rw [show (decide (0 ≤ h.hand) && decide (h.hand ≤ 7)) = true by simp; omega] at hFr
  obtain ⟨zH, hzs, hAl, hSt⟩ := house_var
  obtain ⟨zL, hAlL, hStL⟩ := lod_var
  have hBu : ∀ w : World, bigBuild Try.prog 72 #[] w = .ok (.agg hz.toArray) w := build_house0
  have hBuH := build_houseH h.hand
  have hlz : hz.length = 34 := houseC_len rfl _ _
  have h1z : ∀ v ∈ hz, v.oneCell' = true := houseC_one _ _ _ _ _
  obtain ⟨hm, hmE⟩ : ∃ hm, hm = houseC (zeroM 8) (.slice none 0 0) h.hand := ⟨_, rfl⟩
  have hlm : hm.length = 34 := by rw [hmE]; exact houseC_len rfl _ _
  have h1m : ∀ v ∈ hm, v.oneCell' = true := by rw [hmE]; exact houseC_one _ _ _ _ _
  rw [← hmE] at hBuH
  have HmE : Hid (hm = houseC (zeroM 8) (.slice none 0 0) h.hand) := hmE
  clear hmE
  have hfalse : ∀ (W : World), W.there (w.heap.size + 1) 0 34 → Below w.heap.size w W → ∃ W', bigStore Try.prog 72 (.pointer (some ⟨w.heap.size + 1, 0, none⟩)) (.agg hz.toArray) W = .ok () W' ∧ W'.rangeAt (w.heap.size + 1) 0 hz ∧ Below w.heap.size w W' := fun W ht hB => by
    refine ⟨W.setCells (w.heap.size + 1) 0 hz, ?_, World.rangeAt_setCells_same W (w.heap.size + 1) 0 hz (by rw [hlz]; exact ht), below_setCells hB (Nat.le_succ _) hz 0⟩
    have := run_storeAt_mid (P := Try.prog) W (w.heap.size + 1) 0 72 hz.toArray (by rw [show hz.toArray.size = 34 by simp [hlz]]; exact ht) (by rw [show hz.toArray.size = 34 by simp [hlz]]; kernel_rfl) (all_oneCell_toArray h1z)
    simpa [bigStore] using this
  have hiz : (Try.prog.info? 72).map (·.size) = some hz.length := by rw [hlz]; kernel_rfl
  obtain ⟨W, hW⟩ : ∃ W, W = (w.alloc (.cells #[.slice af 8 cf, .slice ag n cg, .int .i64 h.hand] 27)).alloc (.cells zH 72) := ⟨_, rfl⟩
  have hsW : W.heap.size = w.heap.size + 1 + 1 := by rw [hW]; simp
  have hth : W.there (w.heap.size + 1) 0 34 := by
    have := there_new (w.alloc (.cells #[.slice af 8 cf, .slice ag n cg, .int .i64 h.hand] 27)) zH 72
    rw [hzs, World.size_alloc] at this
    rw [hW]; exact this
  have B0 : Below w.heap.size w W := by rw [hW]; exact ((Below.refl _ _).alloc (Nat.le_refl _) _).alloc (by simp) _
  have x1 : W.cell? ⟨w.heap.size, 1, none⟩ = some (.slice ag n cg) := by rw [hW]; simp
  have x2 : W.cell? ⟨w.heap.size, 2, none⟩ = some (.int .i64 h.hand) := by rw [hW]; simp
  have hc := sheetsOf_yes lo hi af 8 cf h.frames W (hF.same (below_sameIn B0 hh)) (Nat.le_trans hh B0.size) (by omega) ho
  go_enter Try.func50, Try.ntmps50
  go_wp2_with (fail)
  refine (hGu _).mono ?_
  rintro e w1 ⟨rfl, rfl⟩
  go_wp2_with (fail)
  refine (hFr _).mono ?_
  rintro e w1 ⟨rfl, rfl⟩
  go_wp2_with (fail)
  rw [← hW]
  clear hW
  refine hc.mono ?_
  rintro e w1 ⟨rfl, S1, R1, l1, B1⟩
  have s1 := B1.size
  have B01 := B0.trans (B1.mono B0.size)
  have x1 := (B1.cell (p := ⟨w.heap.size, 1, none⟩) (by show w.heap.size < _; omega)).trans x1
  have x2 := (B1.cell (p := ⟨w.heap.size, 2, none⟩) (by show w.heap.size < _; omega)).trans x2
  have hS1 := hSt w1 hm hlm h1m
  have BU : Below w1.heap.size w1 (w1.alloc (.cells hm.toArray 72)) := (Below.refl _ _).alloc (Nat.le_refl _) _
  have thH : (w1.alloc (.cells hm.toArray 72)).there w1.heap.size 0 34 := by
    have := there_new w1 hm.toArray 72
    rwa [show hm.toArray.size = 34 by simp [hlm]] at this
  have rH : (w1.alloc (.cells hm.toArray 72)).rangeAt w1.heap.size 0 (houseC (zeroM 8) (.slice none 0 0) h.hand) := by
    have := range_new w1 hm 72
    rw [HmE.out] at this ⊢
    exact this
  have hlS : (sheetsC h.frames).length = 32 := by rw [sheetsC_len, hf8]
  have cp := copy_into (w := w1.alloc (.cells hm.toArray 72)) (dT := 65) (elem := 68) w1.heap.size 0 8 4 W.heap.size 0 8 8 8 (sheetsC h.frames) Try.underlying65 (by kernel_rfl) rfl (by omega) (range_below (sheets_range S1) BU l1) (fun j hj => thH j (by omega)) (sheetsC_one _)
  rw [hsW] at cp
  have p1 := put_setCells w1.heap.size 0 (w1.alloc (.cells hm.toArray 72)) (sheetsC h.frames)
  have q1 := World.rangeAt_setCells_same (w1.alloc (.cells hm.toArray 72)) w1.heap.size 0 (sheetsC h.frames) (by rw [hlS]; exact fun j hj => thH j (by omega))
  have q2 := World.rangeAt_setCells_apart (range_right rH (n := 32) rfl) w1.heap.size 0 (sheetsC h.frames) (Or.inr (Or.inr (by rw [hlS]; omega)))
  have thH1 := World.there_setCells thH w1.heap.size 0 (sheetsC h.frames)
  have hUp : Hid (HouseUp w ((w1.alloc (.cells hm.toArray 72)).setCells w1.heap.size 0 (sheetsC h.frames)) w1.heap.size 0 h.frames none 0 h.hand h.guests) := by
    refine ⟨range_join hlS q1 q2, thH1, World.there_setCells (there_below (there_below hth B1 (by omega)) BU (by omega)) _ _ _, by omega, by rw [size_setCells, World.size_alloc]; omega, below_setCells (B01.trans (BU.mono (by omega))) (by omega) _ _, ?_⟩
    have : (h.guests.take 0).flatMap lodC = [] := by simp
    rw [this]
    exact World.ownsRow_nil _ _ _ _
  have x1 := (p1.cell (b := w.heap.size) (o := 1) (by omega)).trans (cellk_alloc x1 (.cells hm.toArray 72))
  have hU1s : ((w1.alloc (.cells hm.toArray 72)).setCells w1.heap.size 0 (sheetsC h.frames)).heap.size = w1.heap.size + 1 := by rw [size_setCells, World.size_alloc]
  generalize (w1.alloc (.cells hm.toArray 72)).setCells w1.heap.size 0 (sheetsC h.frames) = U1 at *
  have hwU : w.heap.size < U1.heap.size := by omega
  clear S1 R1 hc q1 q2 rH thH thH1 p1 BU B1 B01 hth hGu hFr hSt
  go_wp2_with (fail)
  clear hAl hS1 cp hBuH
  go_loopw [48] (fun i wr => ∃ k : Nat, ∃ a c, k ≤ n ∧ i = .int .i64 k ∧ Hid (HouseUp w wr w1.heap.size k h.frames a c h.hand h.guests) ∧ Hid (∀ i, i < k → okLod0 (h.guests.getD i noG) = true)) (fun i _ => n - (intOf i).toNat)
  case atStart => exact ⟨0, none, 0, Nat.zero_le _, rfl, hUp, fun i hi => by omega⟩
  case round =>
    clear hUp
    obtain ⟨k, a, c, hk, rfl, hU, hA⟩ := hrel
    have hU0 := hU.out
    obtain ⟨u1, u2, u3, u4, u5, u6, u7⟩ := hU0
    have sB := u6.size
    by_cases hkl : k < n
    · have hki : (k : Int) < (n : Int) := by omega
      obtain ⟨_, hd⟩ := hG.same (below_sameIn u6 hh)
      rcases hd with hx | ⟨b, o, rfl, _, hb2, hgc⟩
      · omega
      obtain ⟨vm, vd, vs, k0, k1, k2, hGk⟩ := hgc k hkl
      have hGs := hGk
      obtain ⟨⟨a1, c1, rfl, _⟩, ⟨a2, c2, rfl, _⟩, a3, c3, rfl, _⟩ := hGs
      have hlo := implLodgerOf lo hi _ _ _ (h.guests.getD k noG) _ (hGk.same (below_sameIn ((Below.refl wr.heap.size wr).alloc (Nat.le_refl _) (.cells #[.slice a1 (h.guests.getD k noG).maps.length c1, .slice a2 (h.guests.getD k noG).disk.length c2, .slice a3 (h.guests.getD k noG).shades.length c3] 62)) (by omega))) (by simp; omega)
      have hklg : k < h.guests.length := by omega
      have hyes : okLod0 (h.guests.getD k noG) = true → ∀ i, i < k + 1 → okLod0 (h.guests.getD i noG) = true := fun e i hi => by
        by_cases hik : i = k
        · subst hik; exact e
        · exact hA.out i (by omega)
      have hno : okLod0 (h.guests.getD k noG) = false → houseB h = false := fun e => by
        have : h.guests.all okLod0 = false := all_no hklg (by rw [← getD_lt hklg (d := noG)]; exact e)
        rw [houseB, this]
        simp
      have happ := fun (W : World) (hB : Below wr.heap.size wr W) (ho : okLod0 (h.guests.getD k noG) = true) => house_app hU.out hf8 hklg (by omega) (okLod0_sized ho).1 hB
      have hlcs := fun (ho : okLod0 (h.guests.getD k noG) = true) => lodC_len (okLod0_sized ho).1
      clear hgc hGk hA
      generalize h.guests.getD k noG = g at *
      generalize g.maps.length = lm at *
      generalize g.disk.length = ld at *
      generalize g.shades.length = ls at *
      cases hok : okLod0 g
      · go_wp2_with (fail)
        refine hlo.mono ?_
        rintro e w2 ⟨⟨cs, hcl, hc1, rfl, _⟩, B2⟩
        rw [hok]
        have hSL := hStL w2 cs hcl hc1
        have B2' : Below wr.heap.size wr w2 := ((Below.refl wr.heap.size wr).alloc (Nat.le_refl _) _).trans (B2.mono (by simp))
        have B3 : Below wr.heap.size wr (w2.alloc (.cells cs.toArray 87)) := B2'.alloc B2'.size _
        obtain ⟨w4, hst4, hr4, HB4⟩ := hfalse _ (there_below u3 B3 (by omega)) (u6.trans (B3.mono sB))
        have HF : Hid (houseB h = false) := hno hok
        clear hlo B2 B2' B3 happ hlcs hyes hno hfalse
        go_wp2
        exact bodyPost_ret (results_big Try.results50 _ (w.heap.size + 1) _ rfl hr4 Try.underlying72 rfl hiz) rfl ⟨hz, hlz, h1z, by rw [HF.out]; rfl, HB4, fun e => by rw [HF.out] at e; cases e⟩
      · go_wp2_with (fail)
        refine hlo.mono ?_
        rintro e w2 ⟨⟨cs, hcl, hc1, rfl, hce⟩, B2⟩
        rw [hok]
        obtain rfl := hce hok
        have hSL := hStL w2 (lodC g) hcl hc1
        have B2' : Below wr.heap.size wr w2 := ((Below.refl wr.heap.size wr).alloc (Nat.le_refl _) _).trans (B2.mono (by simp))
        have B3 : Below wr.heap.size wr (w2.alloc (.cells (lodC g).toArray 87)) := B2'.alloc B2'.size _
        obtain ⟨y1, y2, gg, cc, w4, hap, z1, z2, HN⟩ := happ _ B3 hok
        have hiL : (Try.prog.info? 87).map (·.size) = some (lodC g).length := by rw [hcl]; kernel_rfl
        have hl2 : bigRun Try.prog 87 (.pointer (some ⟨w2.heap.size, 0, none⟩)) (w2.alloc (.cells (lodC g).toArray 87)) = .ok (.agg (lodC g).toArray) (w2.alloc (.cells (lodC g).toArray 87)) := big_load Try.underlying87 rfl hiL _ _ _ (range_new w2 _ 87)
        have HX : Hid (∀ i, i < k + 1 → okLod0 (h.guests.getD i noG) = true) := hyes hok
        rw [World.size_alloc] at hap
        have hbs := bs_lod (lodC g) hcl
        clear hlo B2 B2' B3 happ hlcs hyes hno hfalse
        generalize (lodC g).toArray = lcs at *
        go_wp2
        go_roundw
        case rel => exact ⟨k + 1, _, _, by omega, by go_num, HN, HX⟩
        case measure => simp [intOf]; omega
    · have hkk : k = n := by omega
      subst hkk
      have hSz : ∀ i, i < k → Sized (h.guests.getD i noG) := fun i hi => (okLod0_sized (hA.out i hi)).1
      have hall0 : h.guests.all okLod0 = true := by
        rw [List.all_eq_true]
        intro x hx
        obtain ⟨i, hi, rfl⟩ := List.getElem_of_mem hx
        have := hA.out i (by omega)
        rwa [getD_lt hi] at this
      rw [List.take_of_length_le (by omega)] at u7
      obtain ⟨L, c', e, hL1, hL2⟩ := u7.form (by omega)
      cases e
      obtain ⟨hLo, hth⟩ := lods_of_own u7 hgl hSz
      have hiH : (Try.prog.info? 72).map (·.size) = some (houseC h.frames (.slice (some ⟨L, 0, none⟩) k c) h.hand).length := by rw [houseC_len hf8]; kernel_rfl
      have hld : bigRun Try.prog 72 (.pointer (some ⟨w1.heap.size, 0, none⟩)) wr = .ok (.agg (houseC h.frames (.slice (some ⟨L, 0, none⟩) k c) h.hand).toArray) wr := big_load Try.underlying72 rfl hiH _ _ wr u1
      have hok := implHouseOk L k c h.frames h.hand h.guests wr hf8 hn2 hLo hwf
      have hB : houseB h = h.guests.all (okLod (ten h.guests)) := by rw [houseB, h0, hall0]; simp
      have hlH := houseC_len hf8 (.slice (some ⟨L, 0, none⟩) k c) h.hand
      have h1H := houseC_one h.frames (some ⟨L, 0, none⟩) k c h.hand
      obtain ⟨hcs, hcsE⟩ : ∃ hcs, hcs = houseC h.frames (.slice (some ⟨L, 0, none⟩) k c) h.hand := ⟨_, rfl⟩
      rw [← hcsE] at hiH hld hok hlH h1H
      have HcsE : Hid (hcs = houseC h.frames (.slice (some ⟨L, 0, none⟩) k c) h.hand) := hcsE
      clear hcsE hall0 hSz u7 hStL hAlL
      generalize h.guests.all (okLod (ten h.guests)) = bb at *
      cases bb
      · go_wp2_with (fail)
        refine hok.mono ?_
        rintro e w2 ⟨rfl, B2⟩
        obtain ⟨w4, hst4, hr4, HB4⟩ := hfalse _ (there_below u3 B2 (by omega)) (u6.trans (B2.mono sB))
        have HF : Hid (houseB h = false) := hB
        clear hok B2 hfalse hld hB
        go_wp2
        exact bodyPost_ret (results_big Try.results50 _ (w.heap.size + 1) _ rfl hr4 Try.underlying72 rfl hiz) rfl ⟨hz, hlz, h1z, by rw [HF.out]; rfl, HB4, fun e => by rw [HF.out] at e; cases e⟩
      · go_wp2_with (fail)
        refine hok.mono ?_
        rintro e w2 ⟨rfl, B2⟩
        have th2 := there_below u3 B2 (by omega)
        have u1' : w2.rangeAt w1.heap.size 0 hcs := by rw [HcsE.out]; exact u1.below B2
        have hld2 : bigRun Try.prog 72 (.pointer (some ⟨w1.heap.size, 0, none⟩)) w2 = .ok (.agg hcs.toArray) w2 := big_load Try.underlying72 rfl hiH _ _ w2 u1'
        have hst4 : bigStore Try.prog 72 (.pointer (some ⟨w.heap.size + 1, 0, none⟩)) (.agg hcs.toArray) w2 = .ok () (w2.setCells (w.heap.size + 1) 0 hcs) := by
          have := run_storeAt_mid (P := Try.prog) w2 (w.heap.size + 1) 0 72 hcs.toArray (by rw [show hcs.toArray.size = 34 by simp [hlH]]; exact th2) (by rw [show hcs.toArray.size = 34 by simp [hlH]]; kernel_rfl) (all_oneCell_toArray h1H)
          simpa [bigStore] using this
        have hr4 := World.rangeAt_setCells_same w2 (w.heap.size + 1) 0 hcs (by rw [hlH]; exact th2)
        have p4 := put_setCells (w.heap.size + 1) 0 w2 hcs
        have HB4 : Hid (Below w.heap.size w (w2.setCells (w.heap.size + 1) 0 hcs)) := below_setCells (u6.trans (B2.mono sB)) (Nat.le_succ _) hcs 0
        have hLo2 := hLo.below B2 hL2 (Nat.le_refl _)
        have hth2 := there_below hth B2 hL2
        have HL4 : Hid (LodsAt (w2.setCells (w.heap.size + 1) 0 hcs) L k h.guests ∧ (w2.setCells (w.heap.size + 1) 0 hcs).there L 0 (k * 66)) :=
          ⟨⟨hLo2.1, by rw [size_setCells]; exact hLo2.2.1, fun i hi => ⟨(hLo2.2.2 i hi).1, p4.range (by omega) (hLo2.2.2 i hi).2⟩⟩, World.there_setCells hth2 _ _ _⟩
        generalize w2.setCells (w.heap.size + 1) 0 hcs = w4 at *
        have HT : Hid (houseB h = true) := hB
        clear hok B2 hfalse hld hB th2 u1' p4 hLo2 hth2 hLo hth
        go_wp2
        refine bodyPost_ret (results_big Try.results50 _ (w.heap.size + 1) _ rfl hr4 Try.underlying72 rfl hiH) rfl ⟨hcs, hlH, h1H, by rw [HT.out]; rfl, HB4.out, fun _ => ⟨L, c, ?_, by omega, ?_, ?_⟩⟩
        · rw [HcsE.out, hgl]
        · rw [hgl]; exact HL4.out.1
        · rw [hgl]; exact HL4.out.2
end Go.Proofs.Ytahcoklhijjenaa
