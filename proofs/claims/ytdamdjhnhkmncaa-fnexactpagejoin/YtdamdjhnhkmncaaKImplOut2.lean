/-
  What the program's own spotOf and PageOut do.
-/
import Derived.Test.YtdamdjhnhkmncaaKImplOut1
import Derived.Test.YtdamdjhnhkmncaaKD
set_option linter.unusedSimpArgs false
namespace Go.Proofs.Ytdamdjhnhkmncaa
open Go.RowKit
attribute [local go_sem ↓] Go.wp_at_zero Go.wp_at_succ exec_app exec_lod exec_house exec_mapsA exec_allocL exec_storeL exec_buildL exec_idxM exec_look exec_upd exec_allocH exec_buildH exec_storeH exec_bsL exec_storeQ exec_loadQ exec_idxQ
attribute [local go_sem] bigNext_ok bigSkip_ok

/-- What spotOf answers. -/
def SpotRead (w w' : World) (e : Ending) (h : Hst) (G P : Int) : Prop :=
  ∃ (cs : List Value) (a b : Int), cs.length = 34 ∧ (∀ v ∈ cs, v.oneCell' = true) ∧ e = .returned (.tuple #[.agg cs.toArray, .agg #[.int .i64 a, .int .i64 b], .bool (isB h G P)]) ∧ Below w.heap.size w w' ∧
    (isB h G P = true → a = G ∧ b = P ∧ ∃ L c, cs = houseC h.frames (.slice (some ⟨L, 0, none⟩) h.guests.length c) h.hand ∧ w.heap.size ≤ L ∧ LodsAt w' L h.guests.length h.guests ∧ w'.there L 0 (h.guests.length * 66))

theorem results_spot {P : Program} {fn : Func} {a b u : Tmp} {t t2 : TypeId} {d : TypeDesc} {cs : List Value} {x y : Value} (h : fn.results = #[.cell a t, .cell b t2, .tmp u]) (tmps : Array Value) (R Q : Nat) (w : World) (ha : tmps.getD a undef = .pointer (some ⟨R, 0, none⟩)) (hb : tmps.getD b undef = .pointer (some ⟨Q, 0, none⟩)) (hc : w.rangeAt R 0 cs) (hu : P.underlying t = some d) (hd : d.isRow = true) (hi : (P.info? t).map (·.size) = some cs.length)
    (hc2 : w.rangeAt Q 0 [x, y]) {d2 : TypeDesc} (hu2 : P.underlying t2 = some d2) (hd2 : d2.isRow = true) (hi2 : (P.info? t2).map (·.size) = some 2) :
    (results fn tmps).run P w = .ok (.tuple #[.agg cs.toArray, .agg #[x, y], tmps.getD u undef]) w := by
  have hl := run_loadVar_mid (P := P) w R 0 t cs d hc hu hd hi
  have hl2 := run_loadVar_mid (P := P) w Q 0 t2 [x, y] d2 hc2 hu2 hd2 hi2
  rw [Array.getD_eq_getD_getElem?] at ha hb
  simp [results, h, ha, hb, asAddr, hl, hl2]
theorem storeH34 (w : World) (R : Nat) (cs : List Value) (hl : cs.length = 34) (h1 : ∀ v ∈ cs, v.oneCell' = true) (ht : w.there R 0 34) : bigStore Try.prog 74 (.pointer (some ⟨R, 0, none⟩)) (.agg cs.toArray) w = .ok () (w.setCells R 0 cs) := by
  have := run_storeAt_mid (P := Try.prog) w R 0 74 cs.toArray (by rw [show cs.toArray.size = 34 by simp [hl]]; exact ht) (by rw [show cs.toArray.size = 34 by simp [hl]]; kernel_rfl) (all_oneCell_toArray h1)
  simpa [bigStore] using this
theorem range_two {w : World} {Q : Nat} {x y : Value} (h0 : w.cell? ⟨Q, 0, none⟩ = some x) (h1 : w.cell? ⟨Q, 1, none⟩ = some y) : w.rangeAt Q 0 [x, y] := fun j v hj => by
  match j, hj with
  | 0, hj => simp at hj; subst hj; simpa using h0
  | 1, hj => simp at hj; subst hj; simpa using h1
theorem World.there_alloc' {w : World} {b o n : Nat} {ob : Obj} (h : w.there b o n) : (w.alloc ob).there b o n := fun j hj => by
  have hb : b < w.heap.size := by
    obtain ⟨v, hv⟩ := Option.isSome_iff_exists.1 (h j hj).1
    exact World.block_lt_of_cell? _ _ hv
  have B : Below w.heap.size w (w.alloc ob) := (Below.refl _ _).alloc (Nat.le_refl _) _
  rw [B.cell (p := ⟨b, o + j, none⟩) hb, B.frozen (p := ⟨b, o + j, none⟩) hb]
  exact h j hj
theorem lods_block {w w' : World} {L n : Nat} {gs : List Gst} (h : LodsAt w L n gs) (ht : w.there L 0 (n * 66)) (e : w'.heap[L]? = w.heap[L]?) (hs : L < w'.heap.size) : LodsAt w' L n gs ∧ w'.there L 0 (n * 66) :=
  ⟨⟨h.1, hs, fun i hi => ⟨(h.2.2 i hi).1, fun j v hj => (World.cell?_of_block (a := ⟨L, i * 66 + j, none⟩) e).trans ((h.2.2 i hi).2 j v hj)⟩⟩, fun j hj => by
    rw [World.cell?_of_block (a := ⟨L, 0 + j, none⟩) e, World.frozen?_of_block (a := ⟨L, 0 + j, none⟩) e]
    exact ht j hj⟩
theorem two_new {V : World} {b : Nat} {x y : Value} {t : TypeId} (e : V.heap.size = b) : (V.alloc (.cells #[x, y] t)).cell? ⟨b, 0, none⟩ = some x ∧ (V.alloc (.cells #[x, y] t)).cell? ⟨b, 1, none⟩ = some y ∧ (V.alloc (.cells #[x, y] t)).frozen? ⟨b, 0, none⟩ = false ∧ (V.alloc (.cells #[x, y] t)).frozen? ⟨b, 1, none⟩ = false := by
  subst e
  simp
/-- The two result variables written. -/
theorem spot_out {w W : World} {cs : List Value} {a b : Int} (hl : cs.length = 34) (ht : W.there (w.heap.size + 1) 0 34) (hq0 : W.cell? ⟨w.heap.size + 1 + 1, 0, none⟩ = some (.int .i64 0)) (hq1 : W.cell? ⟨w.heap.size + 1 + 1, 1, none⟩ = some (.int .i64 0)) (hB : Below w.heap.size w W) :
    (((W.setCells (w.heap.size + 1) 0 cs).setCell ⟨w.heap.size + 1 + 1, 0, none⟩ (.int .i64 a)).setCell ⟨w.heap.size + 1 + 1, 1, none⟩ (.int .i64 b)).rangeAt (w.heap.size + 1) 0 cs ∧ (((W.setCells (w.heap.size + 1) 0 cs).setCell ⟨w.heap.size + 1 + 1, 0, none⟩ (.int .i64 a)).setCell ⟨w.heap.size + 1 + 1, 1, none⟩ (.int .i64 b)).rangeAt (w.heap.size + 1 + 1) 0 [.int .i64 a, .int .i64 b] ∧
    Below w.heap.size w (((W.setCells (w.heap.size + 1) 0 cs).setCell ⟨w.heap.size + 1 + 1, 0, none⟩ (.int .i64 a)).setCell ⟨w.heap.size + 1 + 1, 1, none⟩ (.int .i64 b)) ∧
    ∀ j, j ≠ w.heap.size + 1 → j ≠ w.heap.size + 1 + 1 → (((W.setCells (w.heap.size + 1) 0 cs).setCell ⟨w.heap.size + 1 + 1, 0, none⟩ (.int .i64 a)).setCell ⟨w.heap.size + 1 + 1, 1, none⟩ (.int .i64 b)).heap[j]? = W.heap[j]? := by
  have r0 := World.rangeAt_setCells_same W (w.heap.size + 1) 0 cs (by rw [hl]; exact ht)
  have q0 : (W.setCells (w.heap.size + 1) 0 cs).cell? ⟨w.heap.size + 1 + 1, 0, none⟩ = some (.int .i64 0) := (World.cell?_of_block (a := ⟨w.heap.size + 1 + 1, 0, none⟩) (heap_setCells (w.heap.size + 1) cs 0 W (w.heap.size + 1 + 1) (by omega))).trans hq0
  have q1 : (W.setCells (w.heap.size + 1) 0 cs).cell? ⟨w.heap.size + 1 + 1, 1, none⟩ = some (.int .i64 0) := (World.cell?_of_block (a := ⟨w.heap.size + 1 + 1, 1, none⟩) (heap_setCells (w.heap.size + 1) cs 0 W (w.heap.size + 1 + 1) (by omega))).trans hq1
  refine ⟨range_otherK (range_otherK r0 (by omega)) (by omega), range_two ?_ ?_, ?_, fun j h1 h2 => ?_⟩
  · exact cellk_else (cellk_same q0) (by omega)
  · exact cellk_same (cellk_else q1 (by omega))
  · exact ((below_setCells hB (Nat.le_succ _) cs 0).setCell (p := ⟨w.heap.size + 1 + 1, 0, none⟩) (show w.heap.size ≤ w.heap.size + 1 + 1 by omega) _).setCell (p := ⟨w.heap.size + 1 + 1, 1, none⟩) (show w.heap.size ≤ w.heap.size + 1 + 1 by omega) _
  · rw [Below.heap_setCell _ _ _ _ (by simpa using h2), Below.heap_setCell _ _ _ _ (by simpa using h2), heap_setCells _ _ _ _ _ h1]

set_option maxRecDepth 100000 in
set_option maxHeartbeats 8000000 in
theorem implSpotOf (lo hi : Nat) (af ag : Option Addr) (lf cf n cg : Nat) (h : Hst) (G P : Int) (w : World) (hH : HostIn w lo hi (.slice af lf cf) (.slice ag n cg) h) (hh : hi ≤ w.heap.size) (hwf : WfGs h.guests.length h.guests) :
    Calls Try.prog 63 #[.agg #[.slice af lf cf, .slice ag n cg, .int .i64 h.hand], .int .i64 G, .int .i64 P] w fun e w' => SpotRead w w' e h G P := by
  obtain ⟨zH, hzs, hAl, hSt⟩ := house_var
  obtain ⟨W0, hW0⟩ : ∃ W0, W0 = ((w.alloc (.cells #[.slice af lf cf, .slice ag n cg, .int .i64 h.hand] 27)).alloc (.cells zH 74)).alloc (.cells #[.int .i64 0, .int .i64 0] 99) := ⟨_, rfl⟩
  have B0 : Below w.heap.size w W0 := by rw [hW0]; exact (((Below.refl _ _).alloc (Nat.le_refl _) _).alloc (by simp) _).alloc (by rw [World.size_alloc, World.size_alloc]; omega) _
  have s0 : W0.heap.size ≤ w.heap.size + 3 ∧ w.heap.size + 3 ≤ W0.heap.size := by rw [hW0]; simp
  have t0 : W0.there (w.heap.size + 1) 0 34 := by
    have := there_new (w.alloc (.cells #[.slice af lf cf, .slice ag n cg, .int .i64 h.hand] 27)) zH 74
    rw [hzs, World.size_alloc] at this
    rw [hW0]
    exact World.there_alloc' this
  have q0 : W0.cell? ⟨w.heap.size + 1 + 1, 0, none⟩ = some (.int .i64 0) ∧ W0.cell? ⟨w.heap.size + 1 + 1, 1, none⟩ = some (.int .i64 0) ∧ W0.frozen? ⟨w.heap.size + 1 + 1, 0, none⟩ = false ∧ W0.frozen? ⟨w.heap.size + 1 + 1, 1, none⟩ = false := by rw [hW0]; exact two_new (by simp)
  have hc := implHouseOf lo hi af ag lf cf n cg h W0 (hH.same (below_sameIn B0 hh)) (Nat.le_trans hh B0.size) hwf
  have hBu : ∀ w : World, bigBuild Try.prog 74 #[] w = .ok (.agg hz.toArray) w := build_house0
  have hlz : hz.length = 34 := houseC_len rfl _ _
  have h1z : ∀ v ∈ hz, v.oneCell' = true := houseC_one _ _ _ _ _
  have hiz : (Try.prog.info? 74).map (·.size) = some hz.length := by rw [hlz]; kernel_rfl
  have hPk := implPageOk P
  go_enter Try.func63, Try.ntmps63
  go_wp2_with (fail)
  rw [← hW0]
  clear hW0
  refine hc.mono ?_
  rintro e w1 ⟨cs, hl, h1, rfl, B1, hL⟩
  rw [houseB_eq] at hL ⊢
  have z1 := B1.size
  have hS := hSt w1 cs hl h1
  obtain ⟨W2, hW2⟩ : ∃ W2, W2 = w1.alloc (.cells cs.toArray 74) := ⟨_, rfl⟩
  have BA : Below w1.heap.size w1 W2 := by rw [hW2]; exact (Below.refl _ _).alloc (Nat.le_refl _) _
  have s2 : W2.heap.size ≤ w1.heap.size + 1 ∧ w1.heap.size + 1 ≤ W2.heap.size := by rw [hW2]; simp
  have hrd : W2.rangeAt w1.heap.size 0 cs := by rw [hW2]; exact range_new w1 cs _
  have B02 : Below W0.heap.size W0 W2 := B1.trans (BA.mono z1)
  have Bw2 : Below w.heap.size w W2 := B0.trans (B02.mono B0.size)
  rw [← hW2] at hS
  clear hW2 hSt hc
  -- nothing, at whatever world behind
  have hnil : ∀ W : World, Below W2.heap.size W2 W → bigStore Try.prog 74 (.pointer (some ⟨w.heap.size + 1, 0, none⟩)) (.agg hz.toArray) W = .ok () (W.setCells (w.heap.size + 1) 0 hz) ∧ W.cell? ⟨w.heap.size + 1 + 1, 0, none⟩ = some (.int .i64 0) ∧ W.cell? ⟨w.heap.size + 1 + 1, 1, none⟩ = some (.int .i64 0) ∧ W.frozen? ⟨w.heap.size + 1 + 1, 0, none⟩ = false ∧ W.frozen? ⟨w.heap.size + 1 + 1, 1, none⟩ = false ∧ w.heap.size + 1 + 1 < W.heap.size ∧ W.there (w.heap.size + 1) 0 34 ∧ Below w.heap.size w W := fun W B => by
    have BW := B02.trans (B.mono B02.size)
    have := B.size
    have tW := there_below t0 BW (by omega)
    exact ⟨storeH34 W _ hz hlz h1z tW, (BW.cell (p := ⟨w.heap.size + 1 + 1, 0, none⟩) (show w.heap.size + 1 + 1 < W0.heap.size by omega)).trans q0.1, (BW.cell (p := ⟨w.heap.size + 1 + 1, 1, none⟩) (show w.heap.size + 1 + 1 < W0.heap.size by omega)).trans q0.2.1, (BW.frozen (p := ⟨w.heap.size + 1 + 1, 0, none⟩) (show w.heap.size + 1 + 1 < W0.heap.size by omega)).trans q0.2.2.1, (BW.frozen (p := ⟨w.heap.size + 1 + 1, 1, none⟩) (show w.heap.size + 1 + 1 < W0.heap.size by omega)).trans q0.2.2.2, by omega, tW, Bw2.trans (B.mono (by omega))⟩
  have Hnil := hidE hnil
  have hspot0 : ∀ W : World, Below W2.heap.size W2 W → ∃ W', bigStore Try.prog 74 (.pointer (some ⟨w.heap.size + 1, 0, none⟩)) (.agg hz.toArray) W = .ok () W' ∧ W'.cell? ⟨w.heap.size + 1 + 1, 0, none⟩ = some (.int .i64 0) ∧ W'.cell? ⟨w.heap.size + 1 + 1, 1, none⟩ = some (.int .i64 0) ∧ W'.frozen? ⟨w.heap.size + 1 + 1, 0, none⟩ = false ∧ W'.frozen? ⟨w.heap.size + 1 + 1, 1, none⟩ = false ∧ w.heap.size + 1 + 1 < W'.heap.size ∧ Hid (((W'.setCell ⟨w.heap.size + 1 + 1, 0, none⟩ (.int .i64 0)).setCell ⟨w.heap.size + 1 + 1, 1, none⟩ (.int .i64 0)).rangeAt (w.heap.size + 1) 0 hz ∧ ((W'.setCell ⟨w.heap.size + 1 + 1, 0, none⟩ (.int .i64 0)).setCell ⟨w.heap.size + 1 + 1, 1, none⟩ (.int .i64 0)).rangeAt (w.heap.size + 1 + 1) 0 [.int .i64 0, .int .i64 0] ∧ Below w.heap.size w ((W'.setCell ⟨w.heap.size + 1 + 1, 0, none⟩ (.int .i64 0)).setCell ⟨w.heap.size + 1 + 1, 1, none⟩ (.int .i64 0))) := fun W B => by
    obtain ⟨hst, c0, c1, f0, f1, lQ, tW, bW⟩ := Hnil.out W B
    obtain ⟨o1, o2, o3, _⟩ := spot_out (a := 0) (b := 0) hlz tW c0 c1 bW
    have e := heap_setCells (w.heap.size + 1) hz 0 W (w.heap.size + 1 + 1) (by omega)
    exact ⟨_, hst, (World.cell?_of_block (a := ⟨w.heap.size + 1 + 1, 0, none⟩) e).trans c0, (World.cell?_of_block (a := ⟨w.heap.size + 1 + 1, 1, none⟩) e).trans c1, (World.frozen?_of_block (a := ⟨w.heap.size + 1 + 1, 0, none⟩) e).trans f0, (World.frozen?_of_block (a := ⟨w.heap.size + 1 + 1, 1, none⟩) e).trans f1, by rw [size_setCells]; exact lQ, o1, o2, o3⟩
  clear hnil
  have hi2 : (Try.prog.info? 99).map (·.size) = some 2 := by kernel_rfl
  cases hok : okHost h
  · have hno : isB h G P = false := by rw [isB, seeB, hok]; rfl
    obtain ⟨W3, hst, c0, c1, f0, f1, lQ, HR⟩ := hspot0 W2 (Below.refl _ _)
    have Hno := hidE hno
    have Hz := hidE (And.intro hlz (And.intro h1z hiz))
    generalize hza : hz.toArray = za at hst hBu
    generalize hca : cs.toArray = ca at *
    clear hspot0 Hnil hrd B02 Bw2 BA B0 B1 hL hPk hlz h1z hiz t0 q0 hno s0 z1 s2
    go_wp2
    refine bodyPost_ret (results_spot Try.results63 _ (w.heap.size + 1) (w.heap.size + 1 + 1) _ rfl rfl HR.out.1 Try.underlying74 rfl Hz.out.2.2 HR.out.2.1 Try.underlying99 rfl hi2) rfl ?_
    exact ⟨hz, 0, 0, Hz.out.1, Hz.out.2.1, by rw [Hno.out]; rfl, HR.out.2.2, fun e => by rw [Hno.out] at e; cases e⟩
  · obtain ⟨L, c, rfl, hL1, hL2, hL3⟩ := hL hok
    obtain ⟨hf8, hf4, _⟩ := okHost_frames hok
    have hLl := hL2.2.1
    have hiH : (Try.prog.info? 74).map (·.size) = some (houseC h.frames (.slice (some ⟨L, 0, none⟩) h.guests.length c) h.hand).length := by rw [hl]; kernel_rfl
    have hld : ∀ W : World, Below W2.heap.size W2 W → bigRun Try.prog 74 (.pointer (some ⟨w1.heap.size, 0, none⟩)) W = .ok (.agg (houseC h.frames (.slice (some ⟨L, 0, none⟩) h.guests.length c) h.hand).toArray) W := fun W B => big_load Try.underlying74 rfl hiH _ _ W (range_below hrd B (by omega))
    have hhas := implHas L h.guests.length c h.frames h.hand G W2 hf8
    have hld2 := hld W2 (Below.refl _ _)
    have he : isB h G P = ((decide (0 ≤ G) && decide (G < h.guests.length)) && (decide (0 ≤ P) && decide (P ≤ 5))) := by rw [isB, seeB, hok]; rfl
    have Hz := hidE (And.intro hlz (And.intro h1z hiz))
    have He := hidE he
    generalize hgb : (decide (0 ≤ G) && decide (G < h.guests.length)) = gb at *
    generalize hpb : (decide (0 ≤ P) && decide (P ≤ 5)) = pb at *
    generalize hza : hz.toArray = za at hBu hspot0
    have Hza := hidE hza
    obtain ⟨hcs, hcsE⟩ : ∃ hcs, hcs = houseC h.frames (.slice (some ⟨L, 0, none⟩) h.guests.length c) h.hand := ⟨_, rfl⟩
    rw [← hcsE] at hld2 hhas hS hl h1 hiH
    have HcsE := hidE hcsE
    have Hld := hidE hld
    clear hld he hlz h1z hiz hza hcsE
    generalize hca : hcs.toArray = ca at hld2 hhas hS
    rw [← HcsE.out, hca]
    have Hca := hidE hca
    clear hca
    go_wp2_with (fail)
    refine hhas.mono ?_
    rintro e w3 ⟨rfl, B3⟩
    have z3 := B3.size
    cases gb
    · obtain ⟨W4, hst, c0, c1, f0, f1, lQ, HR⟩ := hspot0 w3 B3
      have Hno := hidE (show isB h G P = false by rw [He.out]; rfl)
      clear hspot0 Hnil hrd B02 Bw2 BA B0 B1 hL1 hL2 hL3 hPk t0 q0 s0 z1 s2 hhas hld2 hS B3
      go_wp2
      refine bodyPost_ret (results_spot Try.results63 _ (w.heap.size + 1) (w.heap.size + 1 + 1) _ rfl rfl HR.out.1 Try.underlying74 rfl Hz.out.2.2 HR.out.2.1 Try.underlying99 rfl hi2) rfl ?_
      exact ⟨hz, 0, 0, Hz.out.1, Hz.out.2.1, by rw [Hno.out]; rfl, HR.out.2.2, fun e => by rw [Hno.out] at e; cases e⟩
    · have hPk3 := hPk w3
      have hld3 := Hld.out w3 B3
      rw [← HcsE.out, Hca.out] at hld3
      go_wp2_with (fail)
      refine hPk3.mono ?_
      rintro e w4 ⟨rfl, rfl⟩
      cases pb
      · obtain ⟨W4, hst, c0, c1, f0, f1, lQ, HR⟩ := hspot0 w4 B3
        have Hno := hidE (show isB h G P = false by rw [He.out]; rfl)
        clear hspot0 Hnil hrd B02 Bw2 BA B0 B1 hL1 hL2 hL3 hPk hPk3 t0 q0 s0 z1 s2 hhas hld2 hld3 hS B3
        go_wp2
        refine bodyPost_ret (results_spot Try.results63 _ (w.heap.size + 1) (w.heap.size + 1 + 1) _ rfl rfl HR.out.1 Try.underlying74 rfl Hz.out.2.2 HR.out.2.1 Try.underlying99 rfl hi2) rfl ?_
        exact ⟨hz, 0, 0, Hz.out.1, Hz.out.2.1, by rw [Hno.out]; rfl, HR.out.2.2, fun e => by rw [Hno.out] at e; cases e⟩
      · obtain ⟨_, c0, c1, f0, f1, lQ, tW, bW⟩ := Hnil.out w4 B3
        have hst := storeH34 w4 (w.heap.size + 1) hcs hl h1 tW
        obtain ⟨o1, o2, o3, o4⟩ := spot_out (a := G) (b := P) hl tW c0 c1 bW
        have e := heap_setCells (w.heap.size + 1) hcs 0 w4 (w.heap.size + 1 + 1) (by omega)
        obtain ⟨W5, hW5⟩ : ∃ W5, W5 = w4.setCells (w.heap.size + 1) 0 hcs := ⟨_, rfl⟩
        rw [← hW5] at hst o1 o2 o3 o4 e
        have l5 : w.heap.size + 1 + 1 < W5.heap.size := by rw [hW5, size_setCells]; exact lQ
        have d0 := (World.cell?_of_block (a := ⟨w.heap.size + 1 + 1, 0, none⟩) e).trans c0
        have d1 := (World.cell?_of_block (a := ⟨w.heap.size + 1 + 1, 1, none⟩) e).trans c1
        have g0 := (World.frozen?_of_block (a := ⟨w.heap.size + 1 + 1, 0, none⟩) e).trans f0
        have g1 := (World.frozen?_of_block (a := ⟨w.heap.size + 1 + 1, 1, none⟩) e).trans f1
        have Hyes := hidE (show isB h G P = true by rw [He.out]; rfl)
        have HO := hidE (And.intro o1 (And.intro o2 (And.intro o3 o4)))
        have HL := hidE (show LodsAt w4 L h.guests.length h.guests ∧ w4.there L 0 (h.guests.length * 66) from by
          have B14 : Below w1.heap.size w1 w4 := BA.trans (B3.mono (by omega))
          exact ⟨hL2.below B14 hLl (Nat.le_refl _), there_below hL3 B14 hLl⟩)
        have HLl := hidE (show L ≠ w.heap.size + 1 ∧ L ≠ w.heap.size + 1 + 1 ∧ w.heap.size ≤ L ∧ L < w4.heap.size from ⟨by omega, by omega, by omega, by omega⟩)
        have Hlh := hidE (And.intro hl (And.intro h1 hiH))
        have s5z := hidE (show w4.heap.size ≤ W5.heap.size by rw [hW5, size_setCells]; exact Nat.le_refl _)
        rw [Hca.out] at hst
        clear hspot0 Hnil hrd B02 Bw2 BA B0 B1 hL1 hL2 hL3 hPk hPk3 t0 q0 s0 z1 s2 hhas hld2 hS B3 o1 o2 o3 o4 c0 c1 f0 f1 tW bW e hW5 hl h1 hiH
        go_wp2
        refine bodyPost_ret (results_spot Try.results63 _ (w.heap.size + 1) (w.heap.size + 1 + 1) _ rfl rfl HO.out.1 Try.underlying74 rfl Hlh.out.2.2 HO.out.2.1 Try.underlying99 rfl hi2) rfl ?_
        refine ⟨hcs, G, P, Hlh.out.1, Hlh.out.2.1, by rw [Hyes.out]; rfl, HO.out.2.2.1, fun _ => ⟨rfl, rfl, L, c, HcsE.out, HLl.out.2.2.1, ?_⟩⟩
        have hs5 := s5z.out
        exact lods_block HL.out.1 HL.out.2 (HO.out.2.2.2 L HLl.out.1 HLl.out.2.1) (by have := HLl.out.2.2.2; simp; omega)

end Go.Proofs.Ytdamdjhnhkmncaa
