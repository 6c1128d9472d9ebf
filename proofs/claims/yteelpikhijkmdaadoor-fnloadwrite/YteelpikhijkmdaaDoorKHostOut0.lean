/-
  What the program's own handing out of a guest does.
-/
import Derived.Test.YteelpikhijkmdaaDoorKC
import Derived.Deep.DeepCutAuto
import Derived.Deep.RegionHeld3
import Derived.Deep.DrawnRows
import Derived.Deep.Light
set_option linter.unusedSimpArgs false
namespace Go.Proofs.YteelpikhijkmdaaDoor
open Go.RowKit
attribute [local go_sem ↓] Go.wp_at_zero Go.wp_at_succ

theorem infoM : (Tryd.prog.info? 69).map (fun i => (i.zero, i.size, i.bytes)) = some (some (.agg #[.bool false, .int .i64 0, .bool false]), 3, 24) := by kernel_rfl
theorem infoQ : (Tryd.prog.info? 74).map (fun i => (i.zero, i.size, i.bytes)) = some (some (.agg #[.bool false, .int .i64 0, .int .i64 0, .bool false]), 4, 32) := by kernel_rfl
theorem make_maps (n : Nat) (hn : n ≤ 1048576) (w : World) :
    (Instr.makeSlice 105 (.int .i64 n) (.int .i64 n)).run Tryd.prog w = .ok (.slice (some ⟨w.heap.size, 0, none⟩) n n) (w.alloc (.cells (madeCells #[.bool false, .int .i64 0, .bool false] (n * 3)) 69)) := by
  obtain ⟨i0, hi, hz0, hz1, hz2⟩ := info_parts infoM
  have h := run_make (P := Tryd.prog) w 105 69 i0 _ Tryd.underlying105 hi hz0 .i64 .i64 n n (by omega) (by omega) (by rw [hz2]; omega) (by omega)
  rw [hz1] at h
  simpa [Value.cells] using h
theorem make_shades (n : Nat) (hn : n ≤ 1048576) (w : World) :
    (Instr.makeSlice 106 (.int .i64 n) (.int .i64 n)).run Tryd.prog w = .ok (.slice (some ⟨w.heap.size, 0, none⟩) n n) (w.alloc (.cells (madeCells #[.bool false, .int .i64 0, .int .i64 0, .bool false] (n * 4)) 74)) := by
  obtain ⟨i0, hi, hz0, hz1, hz2⟩ := info_parts infoQ
  have h := run_make (P := Tryd.prog) w 106 74 i0 _ Tryd.underlying106 hi hz0 .i64 .i64 n n (by omega) (by omega) (by rw [hz2]; omega) (by omega)
  rw [hz1] at h
  simpa [Value.cells] using h

theorem Room.allocK {w : World} {b n : Nat} (h : Room w b n) (ob : Obj) : Room (w.alloc ob) b n := fun j hj => by
  obtain ⟨⟨v, hv⟩, hf⟩ := h j hj
  have hb := World.block_lt_of_cell? _ _ hv
  have B : Below w.heap.size w (w.alloc ob) := (Below.refl _ _).alloc (Nat.le_refl _) _
  exact ⟨⟨v, (B.cell (p := ⟨b, j, none⟩) hb).trans hv⟩, (B.frozen (p := ⟨b, j, none⟩) hb).trans hf⟩
theorem Room.drewK {w : World} {b n : Nat} (h : Room w b n) : Room w.drew b n := h
theorem Room.otherK {w : World} {b n b' j : Nat} {u : Value} (h : Room w b n) (hb : b ≠ b') : Room (w.setCell ⟨b', j, none⟩ u) b n := fun i hi => by
  obtain ⟨⟨v, hv⟩, hf⟩ := h i hi
  exact ⟨⟨v, by rw [cell_off hb]; exact hv⟩, by rw [frozen_put]; exact hf⟩
theorem Room.belowK {w w' : World} {b n : Nat} (h : Room w b n) (hB : Below w.heap.size w w') : Room w' b n := fun j hj => by
  obtain ⟨⟨v, hv⟩, hf⟩ := h j hj
  have hb := World.block_lt_of_cell? _ _ hv
  exact ⟨⟨v, (hB.cell (p := ⟨b, j, none⟩) hb).trans hv⟩, (hB.frozen (p := ⟨b, j, none⟩) hb).trans hf⟩
theorem range_lt {w : World} {b o : Nat} {cs : List Value} (h : w.rangeAt b o cs) (hc : 0 < cs.length) : b < w.heap.size := by
  have := h 0 _ (List.getElem?_eq_getElem hc)
  exact World.block_lt_of_cell? _ _ this
theorem range_allocK {w : World} {b o : Nat} {cs : List Value} (h : w.rangeAt b o cs) (ob : Obj) : (w.alloc ob).rangeAt b o cs := World.rangeAt_alloc h ob
theorem range_drewK {w : World} {b o : Nat} {cs : List Value} (h : w.rangeAt b o cs) : w.drew.rangeAt b o cs := (World.rangeAt_drew w b o cs).2 h
theorem range_otherK {w : World} {b o b' j : Nat} {cs : List Value} {u : Value} (h : w.rangeAt b o cs) (hb : b ≠ b') : (w.setCell ⟨b', j, none⟩ u).rangeAt b o cs := fun i v hi => by rw [cell_off hb]; exact h i v hi
theorem range_belowK {w w' : World} {b o : Nat} {cs : List Value} (h : w.rangeAt b o cs) (hB : Below w.heap.size w w') : w'.rangeAt b o cs := fun i v hi => (hB.cell (p := ⟨b, o + i, none⟩) (World.block_lt_of_cell? _ _ (h i v hi))).trans (h i v hi)
theorem OwnMem.allocK {lo hi : Nat} {w : World} {a : Option Addr} {len : Nat} {ms : List (List Int)} (h : OwnMem w lo hi a len ms) (hh : hi ≤ w.heap.size) (ob : Obj) : OwnMem (w.alloc ob) lo hi a len ms := h.same (below_sameIn ((Below.refl _ _).alloc (Nat.le_refl _) _) hh)
theorem OwnMem.drewK {lo hi : Nat} {w : World} {a : Option Addr} {len : Nat} {ms : List (List Int)} (h : OwnMem w lo hi a len ms) : OwnMem w.drew lo hi a len ms := h
theorem OwnMem.otherK {lo hi : Nat} {w : World} {a : Option Addr} {len : Nat} {ms : List (List Int)} (h : OwnMem w lo hi a len ms) {b j : Nat} (hb : b < lo ∨ hi ≤ b) (u : Value) : OwnMem (w.setCell ⟨b, j, none⟩ u) lo hi a len ms :=
  h.same fun k h1 h2 => Below.heap_setCell _ _ _ _ (by simp; omega)
def New3 (w1 : World) (b : Nat) : Prop := w1.cell? ⟨b, 0, none⟩ = some (.slice none 0 0) ∧ w1.cell? ⟨b, 1, none⟩ = some (.slice none 0 0) ∧ w1.cell? ⟨b, 2, none⟩ = some (.slice none 0 0) ∧ w1.frozen? ⟨b, 0, none⟩ = false ∧ w1.frozen? ⟨b, 1, none⟩ = false ∧ w1.frozen? ⟨b, 2, none⟩ = false ∧ b < w1.heap.size
theorem new3_of {V w1 : World} {t : TypeId} (B : Below (V.heap.size + 1) (V.alloc (.cells #[.slice none 0 0, .slice none 0 0, .slice none 0 0] t)) w1) : New3 w1 V.heap.size := by
  refine ⟨?_, ?_, ?_, ?_, ?_, ?_, ?_⟩
  · rw [B.cell (p := ⟨V.heap.size, 0, none⟩) (by simp)]; simp
  · rw [B.cell (p := ⟨V.heap.size, 1, none⟩) (by simp)]; simp
  · rw [B.cell (p := ⟨V.heap.size, 2, none⟩) (by simp)]; simp
  · rw [B.frozen (p := ⟨V.heap.size, 0, none⟩) (by simp)]; simp
  · rw [B.frozen (p := ⟨V.heap.size, 1, none⟩) (by simp)]; simp
  · rw [B.frozen (p := ⟨V.heap.size, 2, none⟩) (by simp)]; simp
  · have := B.size; simp at this; omega
theorem new3_0 {V w1 : World} {t : TypeId} (B : Below (V.alloc (.cells #[.slice none 0 0, .slice none 0 0, .slice none 0 0] t)).drew.heap.size (V.alloc (.cells #[.slice none 0 0, .slice none 0 0, .slice none 0 0] t)).drew w1) : New3 w1 V.heap.size :=
  new3_of (t := t) (Below.trans ((Below.refl _ _).drew) (B.mono (by simp)))
theorem new3_1 {V w1 : World} {t : TypeId} {o : Obj} (B : Below ((V.alloc (.cells #[.slice none 0 0, .slice none 0 0, .slice none 0 0] t)).alloc o).drew.heap.size ((V.alloc (.cells #[.slice none 0 0, .slice none 0 0, .slice none 0 0] t)).alloc o).drew w1) : New3 w1 V.heap.size :=
  new3_of (t := t) (Below.trans (((Below.refl _ _).alloc (by simp) _).drew) (B.mono (by simp)))
theorem new3_2 {V w1 : World} {t : TypeId} {o o' : Obj} (B : Below (((V.alloc (.cells #[.slice none 0 0, .slice none 0 0, .slice none 0 0] t)).alloc o).alloc o').drew.heap.size (((V.alloc (.cells #[.slice none 0 0, .slice none 0 0, .slice none 0 0] t)).alloc o).alloc o').drew w1) : New3 w1 V.heap.size :=
  new3_of (t := t) (Below.trans ((((Below.refl _ _).alloc (by simp) _).alloc (by simp) _).drew) (B.mono (by simp)))

/-- A guest's three lists have been made, none of them filled but Disk. -/
def GuestMade (w wx : World) (B bm bs T d0 d1 : Nat) (g : Gst) : Prop :=
  wx.cell? ⟨B, 0, none⟩ = some (.slice (some ⟨bm, 0, none⟩) 6 6) ∧ wx.cell? ⟨B, 1, none⟩ = some (.slice (some ⟨T, 0, none⟩) 6 6) ∧ wx.cell? ⟨B, 2, none⟩ = some (.slice (some ⟨bs, 0, none⟩) 6 6) ∧
  Room wx bm 18 ∧ Room wx bs 24 ∧ OwnMem wx d0 d1 (some ⟨T, 0, none⟩) 6 g.disk ∧ wx.rangeAt w.heap.size 0 (lodC g) ∧ Below w.heap.size w wx ∧ Room wx (w.heap.size + 1) 3 ∧
  (w.heap.size + 2 ≤ bm ∧ bm < wx.heap.size ∧ w.heap.size + 2 ≤ bs ∧ bs < wx.heap.size ∧ w.heap.size + 2 ≤ d0 ∧ d1 ≤ wx.heap.size ∧ bm ≠ bs ∧ (bm < d0 ∨ d1 ≤ bm) ∧ (bs < d0 ∨ d1 ≤ bs) ∧ w.heap.size + 2 ≤ B ∧ B < wx.heap.size ∧ B ≠ bm ∧ B ≠ bs ∧ (B < d0 ∨ d1 ≤ B))

theorem memOf_lod (g : Gst) (hg : Sized g) (b : Nat) (w : World) (hR : w.rangeAt b 0 (lodC g)) :
    Calls Tryd.prog 38 #[.slice (some ⟨b, 18, none⟩) 6 6] w fun e w' => ∃ T d0, d0 = w.heap.size ∧ e = .returned (.slice (some ⟨T, 0, none⟩) 6 6) ∧ OwnMem w' d0 w'.heap.size (some ⟨T, 0, none⟩) 6 g.disk ∧ Below w.heap.size w w' ∧ w'.rangeAt b 0 (lodC g) := by
  refine (memOf_at b 18 6 6 g.disk w hg.2.1 (range_lt hR (by rw [lodC_len hg]; omega)) (by have := lod_disk hg hR; rwa [Nat.zero_add] at this) hg.2.2.1 (by omega)).mono ?_
  rintro e w1 ⟨T, rfl, hM, B1⟩
  exact ⟨T, _, rfl, rfl, hM, B1, range_belowK hR B1⟩

theorem cellk_alloc {w : World} {b j : Nat} {v : Value} (h : w.cell? ⟨b, j, none⟩ = some v) (ob : Obj) : (w.alloc ob).cell? ⟨b, j, none⟩ = some v :=
  (((Below.refl w.heap.size w).alloc (Nat.le_refl _) ob).cell (p := ⟨b, j, none⟩) (World.block_lt_of_cell? _ _ h)).trans h
theorem cellk_same {w : World} {b j : Nat} {u v : Value} (h : w.cell? ⟨b, j, none⟩ = some v) : (w.setCell ⟨b, j, none⟩ u).cell? ⟨b, j, none⟩ = some u := by rw [cell_put h, if_pos rfl]
theorem cellk_else {w : World} {b i j : Nat} {u v : Value} (h : w.cell? ⟨b, i, none⟩ = some v) (hij : i ≠ j) : (w.setCell ⟨b, j, none⟩ u).cell? ⟨b, i, none⟩ = some v := by rw [cell_put h, if_neg hij]
theorem cellk_newK0 {w : World} {a b c : Value} {t : TypeId} {k : Nat} (e : w.heap.size = k) : (w.alloc (.cells #[a, b, c] t)).cell? ⟨k, 0, none⟩ = some a := by subst e; simp
theorem cellk_newK1 {w : World} {a b c : Value} {t : TypeId} {k : Nat} (e : w.heap.size = k) : (w.alloc (.cells #[a, b, c] t)).cell? ⟨k, 1, none⟩ = some b := by subst e; simp
theorem cellk_newK2 {w : World} {a b c : Value} {t : TypeId} {k : Nat} (e : w.heap.size = k) : (w.alloc (.cells #[a, b, c] t)).cell? ⟨k, 2, none⟩ = some c := by subst e; simp

theorem room_three (w : World) (a b c : Value) (t : TypeId) : Room (w.alloc (.cells #[a, b, c] t)) w.heap.size 3 := by
  intro j hj
  match j, hj with
  | 0, _ => exact ⟨⟨_, by simp; rfl⟩, by simp⟩
  | 1, _ => exact ⟨⟨_, by simp; rfl⟩, by simp⟩
  | 2, _ => exact ⟨⟨_, by simp; rfl⟩, by simp⟩

theorem belowVia {n N : Nat} {w W w1 : World} (B1 : Below n W w1) (h1 : N ≤ n) (h2 : Below N w W) : Below N w w1 := h2.trans (B1.mono h1)

set_option maxHeartbeats 8000000 in
theorem lodgerGuest (g : Gst) (hg : Sized g) (w : World) :
    Calls Tryd.prog 62 #[.agg (lodC g).toArray] w fun e w' => ∃ vm vd vs, e = .returned (.agg #[vm, vd, vs]) ∧ OwnGuest w' w.heap.size w'.heap.size vm vd vs g ∧ Below w.heap.size w w' := by
  obtain ⟨mk18, h18⟩ : ∃ c, c = madeCells #[.bool false, .int .i64 0, .bool false] 18 := ⟨_, rfl⟩
  obtain ⟨mk24, h24⟩ : ∃ c, c = madeCells #[.bool false, .int .i64 0, .int .i64 0, .bool false] 24 := ⟨_, rfl⟩
  have hb18 : ∀ (V : World) (b : Nat), V.heap.size = b → Room (V.alloc (.cells mk18 69)) b 18 := fun V b e => by rw [h18, ← e]; exact room_made _ _ _ _
  have hb24 : ∀ (V : World) (b : Nat), V.heap.size = b → Room (V.alloc (.cells mk24 74)) b 24 := fun V b e => by rw [h24, ← e]; exact room_made _ _ _ _
  have hm1 : ∀ w : World, (Instr.makeSlice 105 (.int .i64 6) (.int .i64 6)).run Tryd.prog w = .ok (.slice (some ⟨w.heap.size, 0, none⟩) 6 6) (w.alloc (.cells mk18 69)) := fun w => by rw [h18]; exact make_maps 6 (by omega) w
  have hm2 : ∀ w : World, (Instr.makeSlice 106 (.int .i64 6) (.int .i64 6)).run Tryd.prog w = .ok (.slice (some ⟨w.heap.size, 0, none⟩) 6 6) (w.alloc (.cells mk24 74)) := fun w => by rw [h24]; exact make_shades 6 (by omega) w
  clear h18 h24
  have hL := range_new w (lodC g) 77
  have hR3 : Room ((w.alloc (.cells (lodC g).toArray 77)).alloc (.cells #[.slice none 0 0, .slice none 0 0, .slice none 0 0] 108)) (w.heap.size + 1) 3 := by
    have := room_three (w.alloc (.cells (lodC g).toArray 77)) (.slice none 0 0) (.slice none 0 0) (.slice none 0 0) 108
    rwa [World.size_alloc] at this
  have hlen := lodC_len hg
  go_enter Tryd.func62, Tryd.ntmps62
  go_wp2_with (fail)
  go_cut [3, 4, 8] (fun s sm ss wx => ∃ B bm bs T d0 d1, s = .pointer (some ⟨B, 0, none⟩) ∧ sm = .slice (some ⟨bm, 0, none⟩) 6 6 ∧ ss = .slice (some ⟨bs, 0, none⟩) 6 6 ∧ GuestMade w wx B bm bs T d0 d1 g)
  case first =>
    go_region_held3 (fun w' => w'.rangeAt w.heap.size 0 (lodC g)) (((try dsimp only); (repeat' (with_reducible (first | assumption | apply range_allocK | apply range_drewK | apply range_otherK | apply range_belowK))) <;> (first | assumption | (simp; done) | (simp; omega)))) ((go_at_call 38; refine (memOf_lod g hg w.heap.size _ (by assumption)).mono ?_; rintro e w1 ⟨T, d0, hd0, rfl, hM, B1, hR1⟩; (first | (have y := new3_0 B1; simp only [World.size_alloc, World.size_drew] at y; rcases y with ⟨y0, y1, y2, y3, y4, y5, y6⟩) | skip); (first | (have y := new3_1 B1; simp only [World.size_alloc, World.size_drew] at y; rcases y with ⟨y0, y1, y2, y3, y4, y5, y6⟩) | skip); (first | (have y := new3_2 B1; simp only [World.size_alloc, World.size_drew] at y; rcases y with ⟨y0, y1, y2, y3, y4, y5, y6⟩) | skip)))
    all_goals go_wp2_with fail
    all_goals go_meet
    all_goals go_light
    all_goals
      have hroomB := fun b n (h : Room _ b n) => h.belowK B1
      have hvia := fun N W h1 h2 => belowVia (N := N) (w := W) B1 h1 h2
      have s1 := B1.size
      simp only [World.size_alloc, World.size_drew] at s1 hd0
      refine ⟨_, _, _, T, d0, w1.heap.size, rfl, rfl, rfl, ?_, ?_, ?_, ?_, ?_, ?_, ?_, ?_, ?_, ?_⟩
      · first | (simp; done) | ((repeat' (with_reducible (first | assumption | (apply cellk_newK0; (simp only [World.size_alloc, World.size_drew, World.size_setCell]; done)) | apply cellk_alloc | apply cellk_same | apply cellk_else))) <;> (first | omega | (simp; done)))
      · first | (simp; done) | ((repeat' (with_reducible (first | assumption | (apply cellk_newK1; (simp only [World.size_alloc, World.size_drew, World.size_setCell]; done)) | apply cellk_alloc | apply cellk_same | apply cellk_else))) <;> (first | omega | (simp; done)))
      · first | (simp; done) | ((repeat' (with_reducible (first | assumption | (apply cellk_newK2; (simp only [World.size_alloc, World.size_drew, World.size_setCell]; done)) | apply cellk_alloc | apply cellk_same | apply cellk_else))) <;> (first | omega | (simp; done)))
      · (repeat' (with_reducible (first | (apply hb18; (simp only [World.size_alloc, World.size_drew, World.size_setCell]; done)) | apply Room.allocK | apply Room.drewK | apply Room.otherK | apply hroomB))) <;> (first | omega | (simp; done) | (simp; omega))
      · (repeat' (with_reducible (first | (apply hb24; (simp only [World.size_alloc, World.size_drew, World.size_setCell]; done)) | apply Room.allocK | apply Room.drewK | apply Room.otherK | apply hroomB))) <;> (first | omega | (simp; done) | (simp; omega))
      · (repeat' (with_reducible (first | exact hM | apply OwnMem.allocK | apply OwnMem.drewK | apply OwnMem.otherK))) <;> (first | omega | (simp; done) | (simp; omega))
      · assumption
      · (repeat' (with_reducible (first | exact Below.refl _ _ | apply Below.setCell | apply Below.alloc | apply Below.drew | apply hvia))) <;> (first | exact Nat.le_refl _ | omega | (simp; done) | (simp; omega))
      · (repeat' (with_reducible (first | exact hR3 | apply Room.allocK | apply Room.drewK | apply Room.otherK | apply hroomB))) <;> (first | omega | (simp; done) | (simp; omega))
      · refine ⟨?_, ?_, ?_, ?_, ?_, ?_, ?_, ?_, ?_, ?_, ?_, ?_, ?_, ?_⟩ <;> (first | omega | (simp; done) | (simp; omega))
  case rest =>
    obtain ⟨B, bm, bs, T, d0, d1, rfl, rfl, rfl, c0, c1, c2, R1, R2, hM, hRg, hB, R3, n1, n2, n3, n4, n5, n6, n7, n8, n9, n10, n11, n12, n13, n14⟩ := hcut
    clear hm1 hm2 hb18 hb24 hL
    have hcp1 : (Builtin.copy_ #[105, 105] 3 #[.slice (some ⟨bm, 0, none⟩) 6 6, .slice (some ⟨w.heap.size, 0, none⟩) 6 6]).run Tryd.prog wc.drew = .ok (goInt 6) (wc.drew.setCells bm 0 (flat g.maps)) := by
      refine run_copy_wide wc.drew 105 105 3 69 bm 0 6 6 ⟨w.heap.size, 0, none⟩ 6 6 6 3 (flat g.maps) Tryd.underlying105 (by kernel_rfl) rfl (by rw [flat_len, hg.1]) ?_ (fun j hj => ?_) (fun j hj => ?_) (flat_one _)
      · intro j v hj
        rw [adk]
        exact range_left hRg j v hj
      · rw [flat_len, hg.1] at hj
        obtain ⟨⟨v, hv⟩, _⟩ := R1 j hj
        simp [hv]
      · rw [flat_len, hg.1] at hj
        have := (R1 j hj).2
        simpa using this
    go_wp2_with (fail)
    go_region_held3 (fun w' => w'.cell? ⟨B, 0, none⟩ = some (.slice (some ⟨bm, 0, none⟩) 6 6)) (first | go_keep | exact range_cell (w := wc.drew) c0 n12) (fail)
    have E2 := World.rangeAt_setCells_same wc.drew bm 0 (flat g.maps) (by rw [flat_len, hg.1]; exact room_there R1)
    have c02 := range_cell (o := 0) (vs := flat g.maps) (w := wc.drew) c0 n12
    have c12 := range_cell (o := 0) (vs := flat g.maps) (w := wc.drew) c1 n12
    have c22 := range_cell (o := 0) (vs := flat g.maps) (w := wc.drew) c2 n12
    have R12 := Room.setCells (w := wc.drew) R1 bm 0 (flat g.maps)
    have R22 := Room.setCells (w := wc.drew) R2 bm 0 (flat g.maps)
    have R32 := Room.setCells (w := wc.drew) R3 bm 0 (flat g.maps)
    have hM2 := OwnMem.same (w := wc.drew) (sameIn_setCells n8 wc.drew (flat g.maps) 0) hM
    have hRg2 := World.rangeAt_setCells_apart (w := wc.drew) hRg bm 0 (flat g.maps) (Or.inl (by omega))
    have hB2 := below_setCells hB.drew (show w.heap.size ≤ bm by omega) (flat g.maps) 0
    have s2 : (wc.drew.setCells bm 0 (flat g.maps)).heap.size = wc.heap.size := size_setCells bm (flat g.maps) 0 wc.drew
    clear c0 c1 c2 R1 R2 R3 hM hRg hB hcp1
    generalize wc.drew.setCells bm 0 (flat g.maps) = V at *
    rw [← s2] at n2 n4 n6 n11
    clear s2
    have hcp2 : (Builtin.copy_ #[106, 106] 3 #[.slice (some ⟨bs, 0, none⟩) 6 6, .slice (some ⟨w.heap.size, 42, none⟩) 6 6]).run Tryd.prog V.drew = .ok (goInt 6) (V.drew.setCells bs 0 (quadsC g.shades)) := by
      refine run_copy_wide V.drew 106 106 3 74 bs 0 6 6 ⟨w.heap.size, 42, none⟩ 6 6 6 4 (quadsC g.shades) Tryd.underlying106 (by kernel_rfl) rfl (by rw [quadsC_len, hg.2.2.2]) ?_ (fun j hj => ?_) (fun j hj => ?_) (quadsC_one _)
      · intro j v hj
        rw [adk]
        have := range_right (range_right hRg2 (n := 18) (by rw [flat_len, hg.1])) (n := 24) (by rw [sheetsC_len, hg.2.1]) j v hj
        simpa using this
      · rw [quadsC_len, hg.2.2.2] at hj
        obtain ⟨⟨v, hv⟩, _⟩ := R22 j hj
        simp [hv]
      · rw [quadsC_len, hg.2.2.2] at hj
        have := (R22 j hj).2
        simpa using this
    go_wp2_with (fail)
    go_region_held3 (fun w' => w'.cell? ⟨B, 2, none⟩ = some (.slice (some ⟨bs, 0, none⟩) 6 6)) (first | go_keep | exact range_cell (w := V.drew) c22 n13) (fail)
    have E3 := World.rangeAt_setCells_same V.drew bs 0 (quadsC g.shades) (by rw [quadsC_len, hg.2.2.2]; exact room_there R22)
    have E23 := World.rangeAt_setCells_apart (w := V.drew) E2 bs 0 (quadsC g.shades) (Or.inl n7)
    have c03 := range_cell (o := 0) (vs := quadsC g.shades) (w := V.drew) c02 n13
    have c13 := range_cell (o := 0) (vs := quadsC g.shades) (w := V.drew) c12 n13
    have c23 := range_cell (o := 0) (vs := quadsC g.shades) (w := V.drew) c22 n13
    have R13 := Room.setCells (w := V.drew) R12 bs 0 (quadsC g.shades)
    have R23 := Room.setCells (w := V.drew) R22 bs 0 (quadsC g.shades)
    have R33 := Room.setCells (w := V.drew) R32 bs 0 (quadsC g.shades)
    have hM3 := OwnMem.same (w := V.drew) (sameIn_setCells n9 V.drew (quadsC g.shades) 0) hM2
    have hB3 := below_setCells hB2.drew (show w.heap.size ≤ bs by omega) (quadsC g.shades) 0
    have s3 : (V.drew.setCells bs 0 (quadsC g.shades)).heap.size = V.heap.size := size_setCells bs (quadsC g.shades) 0 V.drew
    clear c02 c12 c22 R12 R22 R32 hM2 hRg2 hB2 hcp2 E2
    generalize V.drew.setCells bs 0 (quadsC g.shades) = U at *
    rw [← s3] at n2 n4 n6 n11
    clear s3
    obtain ⟨⟨x0, r0⟩, f0⟩ := R33 0 (by omega)
    obtain ⟨⟨x1, r1⟩, f1⟩ := R33 1 (by omega)
    obtain ⟨⟨x2, r2⟩, f2⟩ := R33 2 (by omega)
    have hlt : w.heap.size + 1 < U.heap.size := by omega
    have hH : Hid (Ents U bm 0 g.maps ∧ Room U bm 18 ∧ Quads U bs 0 g.shades ∧ Room U bs 24 ∧ OwnMem U d0 d1 (some ⟨T, 0, none⟩) 6 g.disk) := ⟨range_ents E23, R13, range_quads E3, R23, hM3⟩
    clear R13 R23 R33 E3 E23 hM3
    go_wp2
    refine bodyPost_ret (v := .agg #[.slice (some ⟨bm, 0, none⟩) 6 6, .slice (some ⟨T, 0, none⟩) 6 6, .slice (some ⟨bs, 0, none⟩) 6 6]) (by simp [results, Tryd.results62, go_sem, *]) rfl ?_
    obtain ⟨h1, h2, h3, h4, h5⟩ := hH.out
    have sU : SameIn (w.heap.size + 2) U.heap.size U (((U.setCell ⟨w.heap.size + 1, 0, none⟩ (.slice (some ⟨bm, 0, none⟩) 6 6)).setCell ⟨w.heap.size + 1, 1, none⟩ (.slice (some ⟨T, 0, none⟩) 6 6)).setCell ⟨w.heap.size + 1, 2, none⟩ (.slice (some ⟨bs, 0, none⟩) 6 6)) := fun k k1 k2 => by
      rw [Below.heap_setCell _ _ _ _ (by simp; omega), Below.heap_setCell _ _ _ _ (by simp; omega), Below.heap_setCell _ _ _ _ (by simp; omega)]
    refine ⟨_, _, _, rfl, ?_, ?_⟩
    · refine OwnGuest.wide (lo := w.heap.size + 2) (hi := U.heap.size) (OwnGuest.same sU ?_) (by omega) (by simp)
      refine ⟨bm, bs, 6, 6, some ⟨T, 0, none⟩, 6, d0, d1, by rw [hg.1], by rw [hg.2.1], by rw [hg.2.2.2], h1, by rw [hg.1]; exact h2, h3, by rw [hg.2.2.2]; exact h4, by rw [hg.2.1]; exact h5, n1, n2, n3, n4, n5, n6, n7, n8, n9⟩
    · exact ((hB3.setCell (p := ⟨w.heap.size + 1, 0, none⟩) (Nat.le_succ _) _).setCell (p := ⟨w.heap.size + 1, 1, none⟩) (Nat.le_succ _) _).setCell (p := ⟨w.heap.size + 1, 2, none⟩) (Nat.le_succ _) _
end Go.Proofs.YteelpikhijkmdaaDoor
