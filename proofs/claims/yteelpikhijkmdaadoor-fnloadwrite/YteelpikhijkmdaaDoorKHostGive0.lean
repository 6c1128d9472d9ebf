/-
  What the program's own handing out of a host does.
-/
import Derived.Test.YteelpikhijkmdaaDoorKHostOut0
import Derived.Test.YteelpikhijkmdaaDoorKC
set_option linter.unusedSimpArgs false
set_option linter.unnecessarySimpa false
namespace Go.Proofs.YteelpikhijkmdaaDoor
open Go.RowKit
attribute [local go_sem ↓] Go.wp_at_zero Go.wp_at_succ exec_lod exec_house
attribute [local go_sem] bigNext_ok

theorem infoG : (Tryd.prog.info? 108).map (fun i => (i.zero, i.size, i.bytes)) = some (some (.agg #[.slice none 0 0, .slice none 0 0, .slice none 0 0]), 3, 72) := by kernel_rfl
theorem make_guests (n : Nat) (hn : n ≤ 1048576) (w : World) :
    (Instr.makeSlice 29 (.int .i64 n) (.int .i64 n)).run Tryd.prog w = .ok (.slice (some ⟨w.heap.size, 0, none⟩) n n) (w.alloc (.cells (madeCells #[.slice none 0 0, .slice none 0 0, .slice none 0 0] (n * 3)) 108)) := by
  obtain ⟨i0, hi, hz0, hz1, hz2⟩ := info_parts infoG
  have h := run_make (P := Tryd.prog) w 29 108 i0 _ Tryd.underlying29 hi hz0 .i64 .i64 n n (by omega) (by omega) (by rw [hz2]; omega) (by omega)
  rw [hz1] at h
  simpa [Value.cells] using h

/-- A new variable of three cells, behind a callee that only adds memory. -/
def NewT (w1 : World) (b : Nat) (x y z : Value) : Prop := w1.cell? ⟨b, 0, none⟩ = some x ∧ w1.cell? ⟨b, 1, none⟩ = some y ∧ w1.cell? ⟨b, 2, none⟩ = some z ∧ w1.frozen? ⟨b, 0, none⟩ = false ∧ w1.frozen? ⟨b, 1, none⟩ = false ∧ w1.frozen? ⟨b, 2, none⟩ = false ∧ b < w1.heap.size
theorem newT_of {V w1 : World} {t : TypeId} {x y z : Value} (B : Below (V.heap.size + 1) (V.alloc (.cells #[x, y, z] t)) w1) : NewT w1 V.heap.size x y z := by
  refine ⟨?_, ?_, ?_, ?_, ?_, ?_, ?_⟩
  · rw [B.cell (p := ⟨V.heap.size, 0, none⟩) (by simp)]; simp
  · rw [B.cell (p := ⟨V.heap.size, 1, none⟩) (by simp)]; simp
  · rw [B.cell (p := ⟨V.heap.size, 2, none⟩) (by simp)]; simp
  · rw [B.frozen (p := ⟨V.heap.size, 0, none⟩) (by simp)]; simp
  · rw [B.frozen (p := ⟨V.heap.size, 1, none⟩) (by simp)]; simp
  · rw [B.frozen (p := ⟨V.heap.size, 2, none⟩) (by simp)]; simp
  · have := B.size; simp at this; omega
theorem newT_0 {V w1 : World} {t : TypeId} {x y z : Value} (B : Below (V.alloc (.cells #[x, y, z] t)).drew.heap.size (V.alloc (.cells #[x, y, z] t)).drew w1) : NewT w1 V.heap.size x y z :=
  newT_of (t := t) (Below.trans ((Below.refl _ _).drew) (B.mono (by simp)))
theorem newT_1 {V w1 : World} {t : TypeId} {o : Obj} {x y z : Value} (B : Below ((V.alloc (.cells #[x, y, z] t)).alloc o).drew.heap.size ((V.alloc (.cells #[x, y, z] t)).alloc o).drew w1) : NewT w1 V.heap.size x y z :=
  newT_of (t := t) (Below.trans (((Below.refl _ _).alloc (by simp) _).drew) (B.mono (by simp)))

theorem cellk_drewK {w : World} {b j : Nat} {v : Value} (h : w.cell? ⟨b, j, none⟩ = some v) : w.drew.cell? ⟨b, j, none⟩ = some v := by simpa using h
theorem cellk_offK {w : World} {b b' i j : Nat} {u v : Value} (h : w.cell? ⟨b, i, none⟩ = some v) (hb : b ≠ b') : (w.setCell ⟨b', j, none⟩ u).cell? ⟨b, i, none⟩ = some v := by rw [cell_off hb]; exact h

/-- A house as its value's block has it. -/
def HouseAt (w : World) (b : Nat) (fs : List (List Int)) (v : Value) (hand : Int) : Prop := w.rangeAt b 0 (houseC fs v hand)
theorem HouseAt.below {w w' : World} {b : Nat} {fs : List (List Int)} {v : Value} {hand : Int} (h : HouseAt w b fs v hand) (hB : Below w.heap.size w w') : HouseAt w' b fs v hand := range_belowK h hB
theorem HouseAt.lods {w : World} {b : Nat} {fs : List (List Int)} {v : Value} {hand : Int} (h : HouseAt w b fs v hand) (hf : fs.length = 8) : w.cell? ⟨b, 32, none⟩ = some v ∧ w.cell? ⟨b, 33, none⟩ = some (.int .i64 hand) := by
  have := range_right h (n := 32) (by rw [sheetsC_len, hf])
  exact ⟨this 0 _ rfl, this 1 _ rfl⟩
theorem memOf_house (fs : List (List Int)) (hf : fs.length = 8) (h4 : ∀ i, i < 8 → (fs.getD i []).length = 4) (v : Value) (hand : Int) (b : Nat) (w : World) (hR : HouseAt w b fs v hand ∧ w.cell? ⟨b, 32, none⟩ = some v ∧ w.cell? ⟨b, 33, none⟩ = some (.int .i64 hand)) :
    Calls Tryd.prog 38 #[.slice (some ⟨b, 0, none⟩) 8 8] w fun e w' => ∃ T d0, d0 = w.heap.size ∧ e = .returned (.slice (some ⟨T, 0, none⟩) 8 8) ∧ OwnMem w' d0 w'.heap.size (some ⟨T, 0, none⟩) 8 fs ∧ Below w.heap.size w w' ∧ HouseAt w' b fs v hand ∧ w'.cell? ⟨b, 32, none⟩ = some v ∧ w'.cell? ⟨b, 33, none⟩ = some (.int .i64 hand) := by
  have hlt : b < w.heap.size := range_lt hR.1 (by rw [houseC_len hf]; omega)
  refine (memOf_at b 0 8 8 fs w hf hlt (range_sheets (range_left hR.1)) h4 (by omega)).mono ?_
  rintro e w1 ⟨T, rfl, hM, B1⟩
  have hA := hR.1.below B1
  exact ⟨T, _, rfl, rfl, hM, B1, hA, (hA.lods hf).1, (hA.lods hf).2⟩

theorem HouseAt.allocK {w : World} {b : Nat} {fs : List (List Int)} {v : Value} {hand : Int} (h : HouseAt w b fs v hand) (ob : Obj) : HouseAt (w.alloc ob) b fs v hand := World.rangeAt_alloc h ob
theorem HouseAt.drewK {w : World} {b : Nat} {fs : List (List Int)} {v : Value} {hand : Int} (h : HouseAt w b fs v hand) : HouseAt w.drew b fs v hand := range_drewK h
theorem HouseAt.otherK {w : World} {b b' j : Nat} {u : Value} {fs : List (List Int)} {v : Value} {hand : Int} (h : HouseAt w b fs v hand) (hb : b ≠ b') : HouseAt (w.setCell ⟨b', j, none⟩ u) b fs v hand := range_otherK h hb

/-- A host's lists have been made, the guests not yet filled in. -/
def HostMade (w wx : World) (B G n T d0 d1 : Nat) (fs : List (List Int)) (v : Value) (hand : Int) : Prop :=
  wx.cell? ⟨B, 0, none⟩ = some (.slice (some ⟨T, 0, none⟩) 8 8) ∧ wx.cell? ⟨B, 1, none⟩ = some (.slice (some ⟨G, 0, none⟩) n n) ∧ wx.cell? ⟨B, 2, none⟩ = some (.int .i64 hand) ∧
  Room wx G (n * 3) ∧ OwnMem wx d0 d1 (some ⟨T, 0, none⟩) 8 fs ∧ wx.cell? ⟨w.heap.size, 32, none⟩ = some v ∧ Below w.heap.size w wx ∧ Room wx (w.heap.size + 1) 3 ∧
  (w.heap.size + 2 ≤ G ∧ G < wx.heap.size ∧ w.heap.size + 2 ≤ d0 ∧ d1 ≤ wx.heap.size ∧ (G < d0 ∨ d1 ≤ G) ∧ w.heap.size + 2 ≤ B ∧ B < wx.heap.size ∧ B ≠ G ∧ (B < d0 ∨ d1 ≤ B))

set_option maxRecDepth 100000 in
set_option maxHeartbeats 8000000 in
theorem houseHostC (L n cl : Nat) (fs : List (List Int)) (hand : Int) (gs : List Gst) (hf : fs.length = 8) (h4 : ∀ i, i < 8 → (fs.getD i []).length = 4) (hn : gs.length = n) (hn2 : n ≤ 1000) (hS : ∀ i, i < n → Sized (gs.getD i noG)) (w : World) (hL : L < w.heap.size) (hG : ∀ i, i < n → w.rangeAt L (i * 66) (lodC (gs.getD i noG))) :
    Calls Tryd.prog 35 #[.agg (houseC fs (.slice (some ⟨L, 0, none⟩) n cl) hand).toArray] w fun e w' => ∃ vf vg, e = .returned (.agg #[vf, vg, .int .i64 hand]) ∧ OwnHost w' w.heap.size w'.heap.size vf vg ⟨fs, gs, hand⟩ ∧ Below w.heap.size w w' := by
  obtain ⟨mkG, hG0⟩ : ∃ c, c = madeCells #[.slice none 0 0, .slice none 0 0, .slice none 0 0] (n * 3) := ⟨_, rfl⟩
  have hbG : ∀ (V : World) (b : Nat), V.heap.size = b → Room (V.alloc (.cells mkG 108)) b (n * 3) := fun V b e => by rw [hG0, ← e]; exact room_made _ _ _ _
  have hmG : ∀ w : World, (Instr.makeSlice 29 (.int .i64 n) (.int .i64 n)).run Tryd.prog w = .ok (.slice (some ⟨w.heap.size, 0, none⟩) n n) (w.alloc (.cells mkG 108)) := fun w => by rw [hG0]; exact make_guests n (by omega) w
  clear hG0
  obtain ⟨hs, hsE⟩ : ∃ hs, hs = (houseC fs (.slice (some ⟨L, 0, none⟩) n cl) hand).toArray := ⟨_, rfl⟩
  have hH0 : HouseAt (w.alloc (.cells hs 67)) w.heap.size fs (.slice (some ⟨L, 0, none⟩) n cl) hand := by rw [hsE]; exact range_new w _ 67
  rw [← hsE]
  clear hsE
  have hc0 := hH0.lods hf
  obtain ⟨hc1, hc2⟩ := hc0
  have hR3 : Room ((w.alloc (.cells hs 67)).alloc (.cells #[.slice none 0 0, .slice none 0 0, .int .i64 0] 31)) (w.heap.size + 1) 3 := by
    have := room_three (w.alloc (.cells hs 67)) (.slice none 0 0) (.slice none 0 0) (.int .i64 0) 31
    rwa [World.size_alloc] at this
  go_enter Tryd.func35, Tryd.ntmps35
  go_wp2_with (fail)
  go_cut [3, 12] (fun s sg wx => ∃ B G T d0 d1, s = .pointer (some ⟨B, 0, none⟩) ∧ sg = .slice (some ⟨G, 0, none⟩) n n ∧ HostMade w wx B G n T d0 d1 fs (.slice (some ⟨L, 0, none⟩) n cl) hand)
  case first =>
    go_region_held3 (fun w' => HouseAt w' w.heap.size fs (.slice (some ⟨L, 0, none⟩) n cl) hand ∧ w'.cell? ⟨w.heap.size, 32, none⟩ = some (.slice (some ⟨L, 0, none⟩) n cl) ∧ w'.cell? ⟨w.heap.size, 33, none⟩ = some (.int .i64 hand)) (((try dsimp only); refine ⟨?_, ?_, ?_⟩ <;> (repeat' (with_reducible (first | assumption | apply HouseAt.allocK | apply HouseAt.drewK | apply HouseAt.otherK | apply cellk_alloc | apply cellk_drewK | apply cellk_offK))) <;> (first | omega | (simp; done) | (simp; omega)))) ((go_at_call 38; refine (memOf_house fs hf h4 _ hand w.heap.size _ (by assumption)).mono ?_; rintro e w1 ⟨T, d0, hd0, rfl, hM, B1, hR1, hk1, hk2⟩; (first | (have y := newT_0 B1; simp only [World.size_alloc, World.size_drew] at y; rcases y with ⟨y0, y1, y2, y3, y4, y5, y6⟩) | skip); (first | (have y := newT_1 B1; simp only [World.size_alloc, World.size_drew] at y; rcases y with ⟨y0, y1, y2, y3, y4, y5, y6⟩) | skip)))
    all_goals go_wp2_with fail
    all_goals go_meet
    all_goals go_light
    all_goals
      have hroomB := fun b n (h : Room _ b n) => h.belowK B1
      have hvia := fun N W h1 h2 => belowVia (N := N) (w := W) B1 h1 h2
      have s1 := B1.size
      simp only [World.size_alloc, World.size_drew] at s1 hd0
      refine ⟨_, _, T, d0, w1.heap.size, rfl, rfl, ?_, ?_, ?_, ?_, ?_, ?_, ?_, ?_, ?_⟩
      · first | (simp; done) | ((repeat' (with_reducible (first | assumption | (apply cellk_newK0; (simp only [World.size_alloc, World.size_drew, World.size_setCell]; done)) | apply cellk_alloc | apply cellk_same | apply cellk_else))) <;> (first | omega | (simp; done)))
      · first | (simp; done) | ((repeat' (with_reducible (first | assumption | (apply cellk_newK1; (simp only [World.size_alloc, World.size_drew, World.size_setCell]; done)) | apply cellk_alloc | apply cellk_same | apply cellk_else))) <;> (first | omega | (simp; done)))
      · first | (simp; done) | ((repeat' (with_reducible (first | assumption | (apply cellk_newK2; (simp only [World.size_alloc, World.size_drew, World.size_setCell]; done)) | apply cellk_alloc | apply cellk_same | apply cellk_else))) <;> (first | omega | (simp; done)))
      · (repeat' (with_reducible (first | (apply hbG; (simp only [World.size_alloc, World.size_drew, World.size_setCell]; done)) | apply Room.allocK | apply Room.drewK | apply Room.otherK | apply hroomB))) <;> (first | omega | (simp; done) | (simp; omega))
      · (repeat' (with_reducible (first | exact hM | apply OwnMem.allocK | apply OwnMem.drewK | apply OwnMem.otherK))) <;> (first | omega | (simp; done) | (simp; omega))
      · (repeat' (with_reducible (first | assumption | apply cellk_alloc | apply cellk_drewK | apply cellk_offK))) <;> (first | omega | (simp; done) | (simp; omega))
      · (repeat' (with_reducible (first | exact Below.refl _ _ | apply Below.setCell | apply Below.alloc | apply Below.drew | apply hvia))) <;> (first | exact Nat.le_refl _ | omega | (simp; done) | (simp; omega))
      · (repeat' (with_reducible (first | exact hR3 | apply Room.allocK | apply Room.drewK | apply Room.otherK | apply hroomB))) <;> (first | omega | (simp; done) | (simp; omega))
      · refine ⟨?_, ?_, ?_, ?_, ?_, ?_, ?_, ?_, ?_⟩ <;> (first | omega | (simp; done) | (simp; omega))
  case rest =>
    obtain ⟨B, G, T, d0, d1, rfl, rfl, c0, c1, c2, R1, hM, hv, hB, R3, n1, n2, n3, n4, n5, n6, n7, n8, n9⟩ := hcut
    clear hmG hbG hc1 hc2 hH0 hR3
    have hG0 : Hid (∀ i, i < n → wc.rangeAt L (i * 66) (lodC (gs.getD i noG))) := fun i hi => range_below (hG i hi) hB hL
    have HM : Hid (OwnMem wc d0 d1 (some ⟨T, 0, none⟩) 8 fs) := hM
    have HR1 : Hid (Room wc G (n * 3)) := R1
    have HR3 : Hid (Room wc (w.heap.size + 1) 3) := R3
    have hlt0 : w.heap.size < wc.heap.size := by omega
    clear hM R1 R3 hG
    go_wp2_with (fail)
    go_loopw [4, 5, 19] (fun _ _ i wr => ∃ k : Nat, k ≤ n ∧ i = .int .i64 k ∧ Hid (GuestsUp wr G wc.heap.size wr.heap.size k gs) ∧ Hid (Room wr G (n * 3)) ∧ Hid (∀ j, j < wc.heap.size → j ≠ G → wr.heap[j]? = wc.heap[j]?) ∧ wc.heap.size ≤ wr.heap.size ∧ Hid (Below w.heap.size w wr)) (fun _ _ i _ => n - (intOf i).toNat)
    case atStart => exact ⟨0, Nat.zero_le _, rfl, ⟨fun _ => 0, fun _ => 0, fun i hi => by omega, fun i j _ _ => by omega, fun i hi => by omega⟩, HR1.out, fun j _ _ => rfl, Nat.le_refl _, hB⟩
    case round =>
      obtain ⟨k, hk, rfl, hU, hRG, hsame, hsz, hBw⟩ := hrel
      by_cases hkl : k < n
      · have hki : (k : Int) < (n : Int) := by omega
        have hg := hS k hkl
        have hrk : Hid (wr.rangeAt L (k * 66) (lodC (gs.getD k noG))) := fun j v hj => by
          have hLG : L ≠ G := by omega
          exact (World.cell?_of_block (a := ⟨L, k * 66 + j, none⟩) (hsame.out L (by omega) hLG)).trans (hG0.out k hkl j v hj)
        have hiL : (Tryd.prog.info? 77).map (·.size) = some (lodC (gs.getD k noG)).length := by rw [lodC_len hg]; kernel_rfl
        have h1L := lodC_one (gs.getD k noG)
        have hlc := lodC_len hg
        have hzL : Tryd.zeroCells77.size = 66 := by kernel_rfl
        have hth := there_new wr Tryd.zeroCells77 77
        rw [hzL] at hth
        generalize hcs : lodC (gs.getD k noG) = cs at hrk hiL h1L hlc
        have hst : (storeCells ⟨wr.heap.size, 0, none⟩ cs).run Tryd.prog (wr.alloc (.cells Tryd.zeroCells77 77)) = .ok () ((wr.alloc (.cells Tryd.zeroCells77 77)).setCells wr.heap.size 0 cs) :=
          run_storeCells_cells (P := Tryd.prog) wr.heap.size 0 cs 0 _ (fun j hj => by simpa using (hth j (by omega)).1) (fun j hj => by simpa using (hth j (by omega)).2) h1L
        clear hzL
        go_wp2_with (first | (refine wpList_load_mid (by rfl) 77 _ (by rfl) L (k * 66) (by rfl) cs _ hrk.out Tryd.underlying77 (by rfl) hiL ?_) | fail)
        have hLG : ∀ W, Calls Tryd.prog 62 #[.agg cs.toArray] W fun e w' => ∃ a1 l1 c1 a2 l2 c2 a3 l3 c3, e = .returned (.agg #[.slice a1 l1 c1, .slice a2 l2 c2, .slice a3 l3 c3]) ∧ OwnGuest w' W.heap.size w'.heap.size (.slice a1 l1 c1) (.slice a2 l2 c2) (.slice a3 l3 c3) (gs.getD k noG) ∧ Below W.heap.size W w' := fun W => by
          rw [← hcs]
          refine (lodgerGuest _ hg W).mono ?_
          rintro e w' ⟨vm, vd, vs, rfl, hO, hB'⟩
          have hO' := hO
          obtain ⟨bm, bs, cm, cs', ad, cd, d0', d1', rfl, rfl, rfl, _⟩ := hO
          exact ⟨_, _, _, _, _, _, _, _, _, rfl, hO', hB'⟩
        have B0 : Below wr.heap.size wr ((wr.alloc (.cells Tryd.zeroCells77 77)).setCells wr.heap.size 0 cs) := below_setCells ((Below.refl _ _).alloc (Nat.le_refl _) _) (Nat.le_refl _) cs 0
        have hsV : ((wr.alloc (.cells Tryd.zeroCells77 77)).setCells wr.heap.size 0 cs).heap.size = wr.heap.size + 1 := by rw [size_setCells, World.size_alloc]
        have hrV := World.rangeAt_setCells_same (wr.alloc (.cells Tryd.zeroCells77 77)) wr.heap.size 0 cs (by rw [hlc]; exact hth)
        clear hst hth hrk
        generalize (wr.alloc (.cells Tryd.zeroCells77 77)).setCells wr.heap.size 0 cs = V at *
        have cB : V.cell? ⟨B, 1, none⟩ = some (.slice (some ⟨G, 0, none⟩) n n) := by
          rw [B0.cell (p := ⟨B, 1, none⟩) (by show B < _; omega)]
          exact (World.cell?_of_block (a := ⟨B, 1, none⟩) (hsame.out B n7 n8)).trans c1
        have RV : Hid (Room V G (n * 3)) := hRG.out.below B0 (by omega)
        have hGV : G < V.heap.size := by omega
        have hBV : B < V.heap.size := by omega
        have h30 : k * 3 < n * 3 := by omega
        have h31 : k * 3 + 1 < n * 3 := by omega
        have h32 : k * 3 + 2 < n * 3 := by omega
        have hu := Tryd.underlying77
        have hk0 : (0 : Int) ≤ (k : Int) := Int.natCast_nonneg _
        have HsV : Hid (V.heap.size = wr.heap.size + 1) := hsV
        clear hsV hcs
        have hld : ∀ w' : World, w'.rangeAt wr.heap.size 0 cs → bigRun Tryd.prog 77 (.pointer (some ⟨wr.heap.size, 0, none⟩)) w' = .ok (.agg cs.toArray) w' := fun w' h => big_load hu rfl hiL _ _ w' h
        go_region_held3 (fun w' => w'.cell? ⟨B, 1, none⟩ = some (.slice (some ⟨G, 0, none⟩) n n) ∧ w'.rangeAt wr.heap.size 0 cs) (first | (refine ⟨?_, ?_⟩ <;> assumption) | (refine ⟨?_, ?_⟩ <;> (repeat' (with_reducible (first | assumption | apply range_allocK | apply range_drewK | apply range_otherK | apply cellk_alloc | apply cellk_drewK | apply cellk_offK))) <;> (first | omega | (simp; done) | (simp; omega)))) ((go_at_call 62; refine (hLG _).mono ?_; rintro e w1 ⟨a1, l1, c1', a2, l2, c2', a3, l3, c3', rfl, hO, B1⟩; have s1 : V.heap.size ≤ w1.heap.size := B1.size; have hG1 : G < w1.heap.size := Nat.lt_of_lt_of_le hGV s1; have cB1 := (B1.cell (p := ⟨B, 1, none⟩) hBV).trans cB; have rB1 := range_belowK (w := V.drew) hrV B1; have R1 : Hid (Room w1 G (n * 3)) := Room.belowK (w := V.drew) RV.out B1; obtain ⟨⟨x0, r0⟩, f0⟩ := R1.out (k * 3) h30; obtain ⟨⟨x1, r1⟩, f1⟩ := R1.out (k * 3 + 1) h31; obtain ⟨⟨x2, r2⟩, f2⟩ := R1.out (k * 3 + 2) h32))
        have B01 : Below wr.heap.size wr w1 := B0.drew.trans (B1.mono (by have := HsV.out; simp; omega))
        have hsz1 : V.drew.heap.size = wr.heap.size + 1 := HsV.out
        have HO : Hid (OwnGuest w1 V.drew.heap.size w1.heap.size (.slice a1 l1 c1') (.slice a2 l2 c2') (.slice a3 l3 c3') (gs.getD k noG)) := hO
        have HB01 : Hid (Below wr.heap.size wr w1) := B01
        have Hsz1 : Hid (V.drew.heap.size = wr.heap.size + 1) := hsz1
        clear hO B1 B0 B01 hsz1 hld hrV rB1 cB1 cB hu hiL
        go_wp2
        go_roundw
        case rel =>
          go_light
          have B01 := HB01.out
          have hs1 := Hsz1.out
          have e1 : (((w1.setCell ⟨G, k * 3, none⟩ (.slice a1 l1 c1')).setCell ⟨G, k * 3 + 1, none⟩ (.slice a2 l2 c2')).setCell ⟨G, k * 3 + 2, none⟩ (.slice a3 l3 c3')).heap.size = w1.heap.size := by simp
          refine ⟨k + 1, by omega, by go_num, ?_, ((R1.out.put _).put _).put _, ?_, by rw [e1]; have := B01.size; omega, ?_⟩
          · have := GuestsUp.step hU.out (below_sameIn B01 (Nat.le_refl _)) (below_sameIn B01 (show G + 1 ≤ wr.heap.size by omega)) hsz R1.out h32 (show wr.heap.size ≤ V.drew.heap.size by omega) s1 (Or.inl (by omega)) HO.out
            rw [Hid, e1]
            exact this
          · intro j hj hjG
            rw [Below.heap_setCell _ _ _ _ (by simpa using hjG), Below.heap_setCell _ _ _ _ (by simpa using hjG), Below.heap_setCell _ _ _ _ (by simpa using hjG), B01.block j (by omega)]
            exact hsame.out j hj hjG
          · exact ((((hBw.out.trans (B01.mono hBw.out.size))).setCell (p := ⟨G, k * 3, none⟩) (show w.heap.size ≤ G by omega) _).setCell (p := ⟨G, k * 3 + 1, none⟩) (show w.heap.size ≤ G by omega) _).setCell (p := ⟨G, k * 3 + 2, none⟩) (show w.heap.size ≤ G by omega) _
        case measure => simp [intOf]; omega
      · have hkk : k = n := by omega
        subst hkk
        have cell : ∀ b o v, b < wc.heap.size → b ≠ G → wc.cell? ⟨b, o, none⟩ = some v → wr.cell? ⟨b, o, none⟩ = some v := fun b o v h1 h2 h3 => (World.cell?_of_block (a := ⟨b, o, none⟩) (hsame.out b h1 h2)).trans h3
        have e0 := cell B 0 _ n7 n8 c0
        have e1 := cell B 1 _ n7 n8 c1
        have e2 := cell B 2 _ n7 n8 c2
        obtain ⟨⟨x0, r0⟩, f0⟩ := HR3.out 0 (by omega)
        obtain ⟨⟨x1, r1⟩, f1⟩ := HR3.out 1 (by omega)
        obtain ⟨⟨x2, r2⟩, f2⟩ := HR3.out 2 (by omega)
        have q0 := cell (w.heap.size + 1) 0 _ (by omega) (by omega) r0
        have q1 := cell (w.heap.size + 1) 1 _ (by omega) (by omega) r1
        have q2 := cell (w.heap.size + 1) 2 _ (by omega) (by omega) r2
        have p0 := (World.frozen?_of_block (a := ⟨w.heap.size + 1, 0, none⟩) (hsame.out (w.heap.size + 1) (by omega) (by omega))).trans f0
        have p1 := (World.frozen?_of_block (a := ⟨w.heap.size + 1, 1, none⟩) (hsame.out (w.heap.size + 1) (by omega) (by omega))).trans f1
        have p2 := (World.frozen?_of_block (a := ⟨w.heap.size + 1, 2, none⟩) (hsame.out (w.heap.size + 1) (by omega) (by omega))).trans f2
        have hM2 : Hid (OwnMem wr d0 d1 (some ⟨T, 0, none⟩) 8 fs) := HM.out.same fun j h1 h2 => hsame.out j (by omega) (by omega)
        clear r0 r1 r2 f0 f1 f2 c0 c1 c2 cell
        go_wp2
        refine bodyPost_ret (v := .agg #[.slice (some ⟨T, 0, none⟩) 8 8, .slice (some ⟨G, 0, none⟩) k k, .int .i64 hand]) (by simp [results, Tryd.results35, go_sem, *]) rfl ?_
        have sU : SameIn (w.heap.size + 2) wr.heap.size wr (((wr.setCell ⟨w.heap.size + 1, 0, none⟩ (.slice (some ⟨T, 0, none⟩) 8 8)).setCell ⟨w.heap.size + 1, 1, none⟩ (.slice (some ⟨G, 0, none⟩) k k)).setCell ⟨w.heap.size + 1, 2, none⟩ (.int .i64 hand)) := fun j k1 k2 => by
          rw [Below.heap_setCell _ _ _ _ (by simp; omega), Below.heap_setCell _ _ _ _ (by simp; omega), Below.heap_setCell _ _ _ _ (by simp; omega)]
        refine ⟨_, _, rfl, ?_, ?_⟩
        · refine OwnHost.wide (lo := w.heap.size + 2) (hi := wr.heap.size) (OwnHost.same sU ?_) (by omega) (by simp)
          refine ⟨_, _, d0, d1, by rw [hf], by rw [hf]; exact hM2.out, n3, by omega, _, _, by rw [hn], Or.inr ⟨G, wc.heap.size, rfl, n1, by omega, n5, n4, by omega, by rw [hn]; exact hU.out⟩⟩
        · exact ((hBw.out.setCell (p := ⟨w.heap.size + 1, 0, none⟩) (Nat.le_succ _) _).setCell (p := ⟨w.heap.size + 1, 1, none⟩) (Nat.le_succ _) _).setCell (p := ⟨w.heap.size + 1, 2, none⟩) (Nat.le_succ _) _
theorem houseHost (L n : Nat) (fs : List (List Int)) (hand : Int) (gs : List Gst) (hf : fs.length = 8) (h4 : ∀ i, i < 8 → (fs.getD i []).length = 4) (hn : gs.length = n) (hn2 : n ≤ 1000) (hS : ∀ i, i < n → Sized (gs.getD i noG)) (w : World) (hL : L < w.heap.size) (hG : ∀ i, i < n → w.rangeAt L (i * 66) (lodC (gs.getD i noG))) :
    Calls Tryd.prog 35 #[.agg (houseC fs (.slice (some ⟨L, 0, none⟩) n n) hand).toArray] w fun e w' => ∃ vf vg, e = .returned (.agg #[vf, vg, .int .i64 hand]) ∧ OwnHost w' w.heap.size w'.heap.size vf vg ⟨fs, gs, hand⟩ ∧ Below w.heap.size w w' := houseHostC L n n fs hand gs hf h4 hn hn2 hS w hL hG
end Go.Proofs.YteelpikhijkmdaaDoor
