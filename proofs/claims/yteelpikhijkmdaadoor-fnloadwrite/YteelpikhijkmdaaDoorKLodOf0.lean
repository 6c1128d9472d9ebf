/-
  What the program's own reading of a guest does.
-/
import Derived.Test.YteelpikhijkmdaaDoorKF
set_option linter.unusedSimpArgs false
namespace Go.Proofs.YteelpikhijkmdaaDoor
open Go.RowKit
attribute [local go_sem ↓] Go.wp_at_zero Go.wp_at_succ exec_app exec_lod exec_house exec_mapsA exec_allocL exec_storeL exec_buildL exec_idxM exec_look exec_upd
attribute [local go_sem] bigNext_ok bigSkip_ok

theorem results_big {P : Program} {fn : Func} {a u : Tmp} {t : TypeId} {d : TypeDesc} {cs : List Value} (h : fn.results = #[.cell a t, .tmp u]) (tmps : Array Value) (b : Nat) (w : World) (ha : tmps.getD a undef = .pointer (some ⟨b, 0, none⟩)) (hc : w.rangeAt b 0 cs) (hu : P.underlying t = some d) (hd : d.isRow = true) (hi : (P.info? t).map (·.size) = some cs.length) :
    (results fn tmps).run P w = .ok (.tuple #[.agg cs.toArray, tmps.getD u undef]) w := by
  have hl := run_loadVar_mid (P := P) w b 0 t cs d hc hu hd hi
  rw [Array.getD_eq_getD_getElem?] at ha
  simp [results, h, ha, asAddr, hl]

/-- One block written, all others as they were. -/
def Put (X : Nat) (w w' : World) : Prop := w'.os = w.os ∧ w'.tape = w.tape ∧ w'.output = w.output ∧ w'.heap.size = w.heap.size ∧ ∀ k, k ≠ X → w'.heap[k]? = w.heap[k]?
theorem put_setCells (X o : Nat) (w : World) (vs : List Value) : Put X w (w.setCells X o vs) := by
  refine ⟨?_, ?_, ?_, size_setCells X vs o w, fun k hk => heap_setCells X vs o w k hk⟩
  · exact (below_setCells (Below.refl 0 w) (Nat.zero_le _) vs o).os
  · exact (below_setCells (Below.refl 0 w) (Nat.zero_le _) vs o).tape
  · exact (below_setCells (Below.refl 0 w) (Nat.zero_le _) vs o).output
theorem Put.below {X N : Nat} {w w' : World} (h : Put X w w') (hN : N ≤ X) : Below N w w' := ⟨h.1, h.2.1, h.2.2.1, Nat.le_of_eq h.2.2.2.1.symm, fun k hk => h.2.2.2.2 k (by omega)⟩
theorem Put.cell {X : Nat} {w w' : World} (h : Put X w w') {b o : Nat} (hb : b ≠ X) : w'.cell? ⟨b, o, none⟩ = w.cell? ⟨b, o, none⟩ := World.cell?_of_block (a := ⟨b, o, none⟩) (h.2.2.2.2 b hb)
theorem Put.range {X : Nat} {w w' : World} (h : Put X w w') {b o : Nat} {cs : List Value} (hb : b ≠ X) (hr : w.rangeAt b o cs) : w'.rangeAt b o cs := fun j v hj => (h.cell hb).trans (hr j v hj)

/-- A copy of n elements into the midst of a block, told by its run. -/
theorem copy_into {w : World} {dT : TypeId} {elem : TypeId} (X o n s : Nat) (b so sl sc dc : Nat) (cs : List Value) (hu : Tryd.prog.underlying dT = some (.slice elem)) (hs : (Tryd.prog.info? elem).map (·.size) = some s) (hm : Nat.min sl n = n) (hn : cs.length = n * s)
    (hsrc : w.rangeAt b so cs) (hth : w.there X o (n * s)) (h1 : ∀ v ∈ cs, v.oneCell' = true) :
    (Builtin.copy_ #[dT, dT] 3 #[.slice (some ⟨X, o, none⟩) n dc, .slice (some ⟨b, so, none⟩) sl sc]).run Tryd.prog w = .ok (goInt n) (w.setCells X o cs) := by
  refine run_copy_wide w dT dT 3 elem X o n dc ⟨b, so, none⟩ sl sc n s cs hu hs hm hn (fun j v hj => ?_) (fun j hj => (hth j (by omega)).1) (fun j hj => (hth j (by omega)).2) h1
  rw [adk]
  exact hsrc j v hj

theorem build_lod (w : World) : bigBuild Tryd.prog 77 #[] w = .ok (.agg (lodC zeroG).toArray) w := by kernel_rfl

def okLod0 (g : Gst) : Bool := (g.maps.length == 6) && ((g.disk.length == 6) && ((g.shades.length == 6) && okM g.disk))
/-- What reading gives. -/
def LodRead (w w' : World) (e : Ending) (g : Gst) : Prop :=
  (∃ cs : List Value, cs.length = 66 ∧ (∀ v ∈ cs, v.oneCell' = true) ∧ e = .returned (.tuple #[.agg cs.toArray, .bool (okLod0 g)]) ∧ (okLod0 g = true → cs = lodC g)) ∧ Below w.heap.size w w'

set_option maxRecDepth 100000 in
set_option maxHeartbeats 8000000 in
theorem lodgerOf_len (am ad aS : Option Addr) (lm cm ld cd ls cs : Nat) (w : World) (hno : lm ≠ 6 ∨ ld ≠ 6 ∨ ls ≠ 6) :
    Calls Tryd.prog 64 #[.agg #[.slice am lm cm, .slice ad ld cd, .slice aS ls cs]] w fun e w' => e = .returned (.tuple #[.agg (lodC zeroG).toArray, .bool false]) ∧ Below w.heap.size w w' := by
  obtain ⟨zL, hAl, hSt⟩ := lod_var
  have hBu := build_lod
  have hS1 := hSt (w.alloc (.cells #[.slice am lm cm, .slice ad ld cd, .slice aS ls cs] 108)) (lodC zeroG) (lodC_len zeroG_sized) (lodC_one _)
  rw [World.size_alloc] at hS1
  have hres := range_new (w.alloc (.cells #[.slice am lm cm, .slice ad ld cd, .slice aS ls cs] 108)) (lodC zeroG) 77
  rw [World.size_alloc] at hres
  have hB : Below w.heap.size w ((w.alloc (.cells #[.slice am lm cm, .slice ad ld cd, .slice aS ls cs] 108)).alloc (.cells (lodC zeroG).toArray 77)) := ((Below.refl _ _).alloc (Nat.le_refl _) _).alloc (by simp) _
  clear hSt
  obtain ⟨zc, hzc⟩ : ∃ zc, zc = lodC zeroG := ⟨_, rfl⟩
  have hlz : zc.length = 66 := by rw [hzc]; exact lodC_len zeroG_sized
  rw [← hzc] at hBu hS1 hres hB ⊢
  clear hzc
  have hiL : (Tryd.prog.info? 77).map (·.size) = some zc.length := by rw [hlz]; kernel_rfl
  by_cases h1 : lm = 6
  · subst h1
    by_cases h2 : ld = 6
    · subst h2
      have h3 : ((ls : Int) != 6) = true := by simp; omega
      go_enter Tryd.func64, Tryd.ntmps64
      go_wp2
      exact bodyPost_ret (results_big Tryd.results64 _ (w.heap.size + 1) _ rfl hres Tryd.underlying77 rfl hiL) rfl ⟨rfl, hB⟩
    · have h3 : ((ld : Int) != 6) = true := by simp; omega
      go_enter Tryd.func64, Tryd.ntmps64
      go_wp2
      exact bodyPost_ret (results_big Tryd.results64 _ (w.heap.size + 1) _ rfl hres Tryd.underlying77 rfl hiL) rfl ⟨rfl, hB⟩
  · have h3 : ((lm : Int) != 6) = true := by simp; omega
    go_enter Tryd.func64, Tryd.ntmps64
    go_wp2
    exact bodyPost_ret (results_big Tryd.results64 _ (w.heap.size + 1) _ rfl hres Tryd.underlying77 rfl hiL) rfl ⟨rfl, hB⟩

set_option maxRecDepth 100000 in
set_option maxHeartbeats 8000000 in
theorem lodgerOf_bad (lo hi : Nat) (am ad aS : Option Addr) (cm cd cs : Nat) (ms : List (List Int)) (w : World) (hD : IsMem w lo hi ad 6 ms) (hh : hi ≤ w.heap.size) (hno : okM ms = false) :
    Calls Tryd.prog 64 #[.agg #[.slice am 6 cm, .slice ad 6 cd, .slice aS 6 cs]] w fun e w' => e = .returned (.tuple #[.agg (lodC zeroG).toArray, .bool false]) ∧ Below w.heap.size w w' := by
  obtain ⟨zL, hz, hal⟩ := alloc_any 77 66 (by kernel_rfl)
  have hAl : ∀ w : World, bigAlloc Tryd.prog 77 w = .ok (.pointer (some ⟨w.heap.size, 0, none⟩)) (w.alloc (.cells zL 77)) := hal
  have hBu := build_lod
  have hlz := lodC_len zeroG_sized
  have h1z := lodC_one zeroG
  generalize lodC zeroG = zc at *
  have hiL : (Tryd.prog.info? 77).map (·.size) = some zc.length := by rw [hlz]; kernel_rfl
  obtain ⟨W, hW⟩ : ∃ W, W = (w.alloc (.cells #[.slice am 6 cm, .slice ad 6 cd, .slice aS 6 cs] 108)).alloc (.cells zL 77) := ⟨_, rfl⟩
  have hsW : W.heap.size = w.heap.size + 1 + 1 := by rw [hW]; simp
  have hth : W.there (w.heap.size + 1) 0 66 := by
    have := there_new (w.alloc (.cells #[.slice am 6 cm, .slice ad 6 cd, .slice aS 6 cs] 108)) zL 77
    rw [hz, World.size_alloc] at this
    rw [hW]; exact this
  have B0 : Below w.heap.size w W := by rw [hW]; exact ((Below.refl _ _).alloc (Nat.le_refl _) _).alloc (by simp) _
  have hc := sheetsOf_no lo hi ad 6 cd ms W (hD.same (below_sameIn B0 hh)) (Nat.le_trans hh B0.size) (by omega) hno
  clear hal hz
  go_enter Tryd.func64, Tryd.ntmps64
  go_wp2_with (fail)
  rw [← hW]
  clear hW
  refine hc.mono ?_
  rintro e w1 ⟨rfl, B1⟩
  have hth1 := there_below hth B1 (by omega)
  have hS1 : bigStore Tryd.prog 77 (.pointer (some ⟨w.heap.size + 1, 0, none⟩)) (.agg zc.toArray) w1 = .ok () (w1.setCells (w.heap.size + 1) 0 zc) := by
    have := run_storeAt_mid (P := Tryd.prog) w1 (w.heap.size + 1) 0 77 zc.toArray (by rw [show zc.toArray.size = 66 by simp [hlz]]; exact hth1) (by rw [show zc.toArray.size = 66 by simp [hlz]]; kernel_rfl) (all_oneCell_toArray h1z)
    simpa [bigStore] using this
  have hres := World.rangeAt_setCells_same w1 (w.heap.size + 1) 0 zc (by rw [hlz]; exact hth1)
  have HB : Hid (Below w.heap.size w (w1.setCells (w.heap.size + 1) 0 zc)) := below_setCells (B0.trans (B1.mono B0.size)) (Nat.le_succ _) zc 0
  generalize w1.setCells (w.heap.size + 1) 0 zc = w2 at *
  clear B1 hc hAl
  go_wp2
  exact bodyPost_ret (results_big Tryd.results64 _ (w.heap.size + 1) _ rfl hres Tryd.underlying77 rfl hiL) rfl ⟨rfl, HB.out⟩

set_option maxRecDepth 100000 in
set_option maxHeartbeats 8000000 in
theorem lodgerOf_yes (lo hi : Nat) (bm om bS oS : Nat) (ad : Option Addr) (cm cd cs : Nat) (g : Gst) (w : World) (hg : Sized g) (hM : Ents w bm om g.maps) (hbm : bm < w.heap.size) (hQ : Quads w bS oS g.shades) (hbS : bS < w.heap.size) (hD : IsMem w lo hi ad 6 g.disk) (hh : hi ≤ w.heap.size) (hok : okM g.disk = true) :
    Calls Tryd.prog 64 #[.agg #[.slice (some ⟨bm, om, none⟩) 6 cm, .slice ad 6 cd, .slice (some ⟨bS, oS, none⟩) 6 cs]] w fun e w' => e = .returned (.tuple #[.agg (lodC g).toArray, .bool true]) ∧ Below w.heap.size w w' := by
  obtain ⟨zL, hz, hal⟩ := alloc_any 77 66 (by kernel_rfl)
  have hAl : ∀ w : World, bigAlloc Tryd.prog 77 w = .ok (.pointer (some ⟨w.heap.size, 0, none⟩)) (w.alloc (.cells zL 77)) := hal
  obtain ⟨W, hW⟩ : ∃ W, W = (w.alloc (.cells #[.slice (some ⟨bm, om, none⟩) 6 cm, .slice ad 6 cd, .slice (some ⟨bS, oS, none⟩) 6 cs] 108)).alloc (.cells zL 77) := ⟨_, rfl⟩
  have hsW : W.heap.size = w.heap.size + 1 + 1 := by rw [hW]; simp
  have hth : W.there (w.heap.size + 1) 0 66 := by
    have := there_new (w.alloc (.cells #[.slice (some ⟨bm, om, none⟩) 6 cm, .slice ad 6 cd, .slice (some ⟨bS, oS, none⟩) 6 cs] 108)) zL 77
    rw [hz, World.size_alloc] at this
    rw [hW]; exact this
  have B0 : Below w.heap.size w W := by rw [hW]; exact ((Below.refl _ _).alloc (Nat.le_refl _) _).alloc (by simp) _
  have x0 : W.cell? ⟨w.heap.size, 0, none⟩ = some (.slice (some ⟨bm, om, none⟩) 6 cm) := by rw [hW]; simp
  have x2 : W.cell? ⟨w.heap.size, 2, none⟩ = some (.slice (some ⟨bS, oS, none⟩) 6 cs) := by rw [hW]; simp
  have hc := sheetsOf_yes lo hi ad 6 cd g.disk W (hD.same (below_sameIn B0 hh)) (Nat.le_trans hh B0.size) (by omega) hok
  obtain ⟨hg1, hg2, hg3, hg4⟩ := hg
  have hlF : (flat g.maps).length = 18 := by rw [flat_len, hg1]
  have hlS : (sheetsC g.disk).length = 24 := by rw [sheetsC_len, hg2]
  have hlQ : (quadsC g.shades).length = 24 := by rw [quadsC_len, hg4]
  have hlc := lodC_len ⟨hg1, hg2, hg3, hg4⟩
  have hiL : (Tryd.prog.info? 77).map (·.size) = some (lodC g).length := by rw [hlc]; kernel_rfl
  have h1L := lodC_one g
  have hrM := ents_range hM
  have hrQ := quads_range hQ
  have h1F := flat_one g.maps
  have h1S := sheetsC_one g.disk
  have h1Q := quadsC_one g.shades
  clear hal
  go_enter Tryd.func64, Tryd.ntmps64
  go_wp2_with (fail)
  rw [← hW]
  clear hW
  refine hc.mono ?_
  rintro e w1 ⟨rfl, S1, R1, l1, B1⟩
  have B01 := B0.trans (B1.mono B0.size)
  have s1 := B1.size
  obtain ⟨U, hU⟩ : ∃ U, U = w1.alloc (.cells zL 77) := ⟨_, rfl⟩
  have BU : Below w1.heap.size w1 U := by rw [hU]; exact (Below.refl _ _).alloc (Nat.le_refl _) _
  have sU : U.heap.size = w1.heap.size + 1 := by rw [hU]; simp
  have B0U := B01.trans (BU.mono (by omega))
  have thX : U.there w1.heap.size 0 66 := by
    have := there_new w1 zL 77
    rw [hz] at this
    rw [hU]; exact this
  have thR : U.there (w.heap.size + 1) 0 66 := there_below (there_below hth B1 (by omega)) BU (by omega)
  have y0 := (BU.cell (p := ⟨w.heap.size, 0, none⟩) (by show w.heap.size < _; omega)).trans ((B1.cell (p := ⟨w.heap.size, 0, none⟩) (by show w.heap.size < _; omega)).trans x0)
  have y2 := (BU.cell (p := ⟨w.heap.size, 2, none⟩) (by show w.heap.size < _; omega)).trans ((B1.cell (p := ⟨w.heap.size, 2, none⟩) (by show w.heap.size < _; omega)).trans x2)
  have rM := range_below hrM B0U hbm
  have rQ := range_below hrQ B0U hbS
  have rS : U.rangeAt W.heap.size 0 (sheetsC g.disk) := range_below (sheets_range S1) BU l1
  have th1 : U.there w1.heap.size 0 (6 * 3) := fun j hj => thX j (by omega)
  have cp1 := copy_into (w := U.drew) (dT := 105) (elem := 69) w1.heap.size 0 6 3 bm om 6 cm 6 (flat g.maps) Tryd.underlying105 (by kernel_rfl) rfl (by omega) rM th1 h1F
  have p1 := put_setCells w1.heap.size 0 U.drew (flat g.maps)
  have q1 := World.rangeAt_setCells_same U.drew w1.heap.size 0 (flat g.maps) (by rw [hlF]; exact th1)
  have thX1 := World.there_setCells (w := U.drew) thX w1.heap.size 0 (flat g.maps)
  generalize World.setCells U.drew w1.heap.size 0 (flat g.maps) = U1 at *
  have th2 : U1.there w1.heap.size 18 (6 * 4) := fun j hj => by have := thX1 (18 + j) (by omega); rwa [Nat.zero_add] at this
  have cp2 := copy_into (w := U1) (dT := 59) (elem := 64) w1.heap.size 18 6 4 W.heap.size 0 6 6 6 (sheetsC g.disk) Tryd.underlying59 (by kernel_rfl) rfl (by omega) (p1.range (by omega) rS) th2 h1S
  have p2 := put_setCells w1.heap.size 18 U1 (sheetsC g.disk)
  have q2 := World.rangeAt_setCells_same U1 w1.heap.size 18 (sheetsC g.disk) (by rw [hlS]; exact th2)
  have q1' := World.rangeAt_setCells_apart q1 w1.heap.size 18 (sheetsC g.disk) (Or.inr (Or.inl (by rw [hlF]; omega)))
  have thX2 := World.there_setCells (w := U1) thX1 w1.heap.size 18 (sheetsC g.disk)
  generalize World.setCells U1 w1.heap.size 18 (sheetsC g.disk) = U2 at *
  have th3 : U2.there w1.heap.size 42 (6 * 4) := fun j hj => by have := thX2 (42 + j) (by omega); rwa [Nat.zero_add] at this
  have z2 := (p2.cell (b := w.heap.size) (o := 2) (by omega)).trans ((p1.cell (b := w.heap.size) (o := 2) (by omega)).trans y2)
  have rQ2 := p2.range (by omega) (p1.range (by omega) rQ)
  have cp3 := copy_into (w := U2.drew) (dT := 106) (elem := 74) w1.heap.size 42 6 4 bS oS 6 cs 6 (quadsC g.shades) Tryd.underlying106 (by kernel_rfl) rfl (by omega) rQ2 th3 h1Q
  have p3 := put_setCells w1.heap.size 42 U2.drew (quadsC g.shades)
  have q3 := World.rangeAt_setCells_same U2.drew w1.heap.size 42 (quadsC g.shades) (by rw [hlQ]; exact th3)
  have q1'' := World.rangeAt_setCells_apart (w := U2.drew) q1' w1.heap.size 42 (quadsC g.shades) (Or.inr (Or.inl (by rw [hlF]; omega)))
  have q2' := World.rangeAt_setCells_apart (w := U2.drew) q2 w1.heap.size 42 (quadsC g.shades) (Or.inr (Or.inl (by rw [hlS]; omega)))
  generalize World.setCells U2.drew w1.heap.size 42 (quadsC g.shades) = U3 at *
  have hrL : U3.rangeAt w1.heap.size 0 (lodC g) := range_join hlF q1'' (range_join hlS (by rw [Nat.zero_add]; exact q2') (by rw [Nat.zero_add]; exact q3))
  have hl3 : bigRun Tryd.prog 77 (.pointer (some ⟨w1.heap.size, 0, none⟩)) U3 = .ok (.agg (lodC g).toArray) U3 := big_load Tryd.underlying77 rfl hiL _ _ U3 hrL
  have bU1 : Below w1.heap.size U U1 := (Below.refl w1.heap.size U).drew.trans (p1.below (Nat.le_refl _))
  have bU2 := bU1.trans (p2.below (Nat.le_refl _))
  have bU3 := bU2.drew.trans (p3.below (Nat.le_refl _))
  have thR3 : U3.there (w.heap.size + 1) 0 66 := there_below thR bU3 (by omega)
  have hS3 : bigStore Tryd.prog 77 (.pointer (some ⟨w.heap.size + 1, 0, none⟩)) (.agg (lodC g).toArray) U3 = .ok () (U3.setCells (w.heap.size + 1) 0 (lodC g)) := by
    have := run_storeAt_mid (P := Tryd.prog) U3 (w.heap.size + 1) 0 77 (lodC g).toArray (by rw [show (lodC g).toArray.size = 66 by simp [hlc]]; exact thR3) (by rw [show (lodC g).toArray.size = 66 by simp [hlc]]; kernel_rfl) (all_oneCell_toArray h1L)
    simpa [bigStore] using this
  have hres := World.rangeAt_setCells_same U3 (w.heap.size + 1) 0 (lodC g) (by rw [hlc]; exact thR3)
  have HB : Hid (Below w.heap.size w (U3.setCells (w.heap.size + 1) 0 (lodC g))) := below_setCells (B0U.trans (bU3.mono (by omega))) (Nat.le_succ _) (lodC g) 0
  generalize U3.setCells (w.heap.size + 1) 0 (lodC g) = U4 at *
  have hbw : w.heap.size < U.heap.size := by omega
  rw [hsW] at cp2
  have Hres : Hid (U4.rangeAt (w.heap.size + 1) 0 (lodC g)) := hres
  clear rM rQ rS th1 th2 th3 thX thR thX1 thX2 thR3 q1 q1' q1'' q2 q2' q3 hrL rQ2 p1 p2 p3 bU1 bU2 bU3 hres S1 R1 hth hM hQ hrM hrQ hD hc B1 BU B0U B01 x0 x2
  go_wp2_with (fail)
  rw [← hU]
  clear hU hAl
  go_region_with (fail)
  all_goals go_wp2_with (fail)
  all_goals go_region_with (fail)
  all_goals go_wp2_with (fail)
  all_goals exact bodyPost_ret (results_big Tryd.results64 _ (w.heap.size + 1) _ rfl Hres.out Tryd.underlying77 rfl hiL) rfl ⟨rfl, HB.out⟩

theorem okLod0_sized {g : Gst} (h : okLod0 g = true) : Sized g ∧ okM g.disk = true := by
  simp only [okLod0, Bool.and_eq_true, beq_iff_eq] at h
  obtain ⟨h1, h2, h3, h4⟩ := h
  exact ⟨⟨h1, h2, fun i hi => (okM_get h4 (by omega)).1, h3⟩, h4⟩

theorem implLodgerOf (lo hi : Nat) (vm vd vs : Value) (g : Gst) (w : World) (hG : GuestIn w lo hi vm vd vs g) (hh : hi ≤ w.heap.size) :
    Calls Tryd.prog 64 #[.agg #[vm, vd, vs]] w fun e w' => LodRead w w' e g := by
  obtain ⟨⟨am, cm, rfl, hM⟩, ⟨ad, cd, rfl, hD⟩, aS, cs, rfl, hS⟩ := hG
  cases ho : okLod0 g
  · have key : Calls Tryd.prog 64 #[.agg #[.slice am g.maps.length cm, .slice ad g.disk.length cd, .slice aS g.shades.length cs]] w fun e w' => e = .returned (.tuple #[.agg (lodC zeroG).toArray, .bool false]) ∧ Below w.heap.size w w' := by
      by_cases hl : g.maps.length ≠ 6 ∨ g.disk.length ≠ 6 ∨ g.shades.length ≠ 6
      · exact lodgerOf_len am ad aS _ cm _ cd _ cs w hl
      · have h1 : g.maps.length = 6 := by omega
        have h2 : g.disk.length = 6 := by omega
        have h3 : g.shades.length = 6 := by omega
        have h4 : okM g.disk = false := by
          cases hx : okM g.disk
          · rfl
          · simp [okLod0, h1, h2, h3, hx] at ho
        rw [h1, h2, h3]
        rw [h2] at hD
        exact lodgerOf_bad lo hi am ad aS cm cd cs g.disk w hD hh h4
    refine key.mono ?_
    rintro e w' ⟨rfl, hB⟩
    exact ⟨⟨lodC zeroG, lodC_len zeroG_sized, lodC_one _, by rw [ho], fun h => by rw [ho] at h; cases h⟩, hB⟩
  · obtain ⟨hg, hd⟩ := okLod0_sized ho
    obtain ⟨_, hM'⟩ := hM
    obtain ⟨_, hS'⟩ := hS
    obtain ⟨g1, g2, g3, g4⟩ := hg
    rcases hM' with h0 | ⟨bm, om, rfl, _, m2, hE⟩
    · omega
    rcases hS' with h0 | ⟨bS, oS, rfl, _, s2, hQ⟩
    · omega
    rw [g1, g2, g4]
    rw [g2] at hD
    refine (lodgerOf_yes lo hi bm om bS oS ad cm cd cs g w ⟨g1, g2, g3, g4⟩ hE (by omega) hQ (by omega) hD hh hd).mono ?_
    rintro e w' ⟨rfl, hB⟩
    exact ⟨⟨lodC g, lodC_len ⟨g1, g2, g3, g4⟩, lodC_one _, by rw [ho], fun _ => rfl⟩, hB⟩
end Go.Proofs.YteelpikhijkmdaaDoor
