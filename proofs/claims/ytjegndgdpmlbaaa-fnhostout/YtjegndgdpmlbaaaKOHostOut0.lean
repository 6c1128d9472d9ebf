/-
  What the program's own handing out of a guest does.
-/
import Derived.Test.YtjegndgdpmlbaaaKOC
import Derived.Deep.DeepCutAuto
import Derived.Deep.RegionHeld3
import Derived.Deep.DrawnRows
import Derived.Deep.Light
set_option linter.unusedSimpArgs false
namespace Go.Proofs.Ytjegndgdpmlbaaa
open Go.RowKit
attribute [local go_sem ↓] Go.wp_at_zero Go.wp_at_succ

theorem infoM : (Try.prog.info? 35).map (fun i => (i.zero, i.size, i.bytes)) = some (some (.agg #[.bool false, .int .i64 0, .bool false]), 3, 24) := by kernel_rfl
theorem infoQ : (Try.prog.info? 49).map (fun i => (i.zero, i.size, i.bytes)) = some (some (.agg #[.bool false, .int .i64 0, .int .i64 0, .bool false]), 4, 32) := by kernel_rfl
theorem make_maps (n : Nat) (hn : n ≤ 1048576) (w : World) :
    (Instr.makeSlice 36 (.int .i64 n) (.int .i64 n)).run Try.prog w = .ok (.slice (some ⟨w.heap.size, 0, none⟩) n n) (w.alloc (.cells (madeCells #[.bool false, .int .i64 0, .bool false] (n * 3)) 35)) := by
  obtain ⟨i0, hi, hz0, hz1, hz2⟩ := info_parts infoM
  have h := run_make (P := Try.prog) w 36 35 i0 _ Try.underlying36 hi hz0 .i64 .i64 n n (by omega) (by omega) (by rw [hz2]; omega) (by omega)
  rw [hz1] at h
  simpa [Value.cells] using h
theorem make_shades (n : Nat) (hn : n ≤ 1048576) (w : World) :
    (Instr.makeSlice 37 (.int .i64 n) (.int .i64 n)).run Try.prog w = .ok (.slice (some ⟨w.heap.size, 0, none⟩) n n) (w.alloc (.cells (madeCells #[.bool false, .int .i64 0, .int .i64 0, .bool false] (n * 4)) 49)) := by
  obtain ⟨i0, hi, hz0, hz1, hz2⟩ := info_parts infoQ
  have h := run_make (P := Try.prog) w 37 49 i0 _ Try.underlying37 hi hz0 .i64 .i64 n n (by omega) (by omega) (by rw [hz2]; omega) (by omega)
  rw [hz1] at h
  simpa [Value.cells] using h

theorem Room.cast {w : World} {b b' n : Nat} (h : Room w b n) (e : b = b') : Room w b' n := e ▸ h
theorem Room.allocK {w : World} {b n : Nat} (h : Room w b n) (ob : Obj) : Room (w.alloc ob) b n := fun j hj => by
  obtain ⟨⟨v, hv⟩, hf⟩ := h j hj
  have hb := World.block_lt_of_cell? _ _ hv
  have B : Below w.heap.size w (w.alloc ob) := (Below.refl _ _).alloc (Nat.le_refl _) _
  exact ⟨⟨v, (B.cell (p := ⟨b, j, none⟩) hb).trans hv⟩, (B.frozen (p := ⟨b, j, none⟩) hb).trans hf⟩
theorem Room.drewK {w : World} {b n : Nat} (h : Room w b n) : Room w.drew b n := h
theorem Room.otherK {w : World} {b n b' j : Nat} {u : Value} (h : Room w b n) (hb : b ≠ b') : Room (w.setCell ⟨b', j, none⟩ u) b n := fun i hi => by
  obtain ⟨⟨v, hv⟩, hf⟩ := h i hi
  exact ⟨⟨v, by rw [cell_off hb]; exact hv⟩, by rw [frozen_put]; exact hf⟩
theorem Room.belowK {w w' : World} {b n : Nat} (h : Room w b n) (hB : Below w.heap.size w w') : Room w' b n := fun j hj => by
  obtain ⟨⟨v, hv⟩, hf⟩ := h j hj
  have hb := World.block_lt_of_cell? _ _ hv
  exact ⟨⟨v, (hB.cell (p := ⟨b, j, none⟩) hb).trans hv⟩, (hB.frozen (p := ⟨b, j, none⟩) hb).trans hf⟩
theorem range_drewK {w : World} {b o : Nat} {cs : List Value} (h : w.rangeAt b o cs) : w.drew.rangeAt b o cs := (World.rangeAt_drew w b o cs).2 h
theorem range_otherK {w : World} {b o b' j : Nat} {cs : List Value} {u : Value} (h : w.rangeAt b o cs) (hb : b ≠ b') : (w.setCell ⟨b', j, none⟩ u).rangeAt b o cs := fun i v hi => by rw [cell_off hb]; exact h i v hi
theorem range_belowK {w w' : World} {b o : Nat} {cs : List Value} (h : w.rangeAt b o cs) (hB : Below w.heap.size w w') : w'.rangeAt b o cs := fun i v hi => (hB.cell (p := ⟨b, o + i, none⟩) (World.block_lt_of_cell? _ _ (h i v hi))).trans (h i v hi)
theorem OwnMem.allocK {lo hi : Nat} {w : World} {a : Option Addr} {len : Nat} {ms : List (List Int)} (h : OwnMem w lo hi a len ms) (hh : hi ≤ w.heap.size) (ob : Obj) : OwnMem (w.alloc ob) lo hi a len ms := h.same (below_sameIn ((Below.refl _ _).alloc (Nat.le_refl _) _) hh)
theorem OwnMem.drewK {lo hi : Nat} {w : World} {a : Option Addr} {len : Nat} {ms : List (List Int)} (h : OwnMem w lo hi a len ms) : OwnMem w.drew lo hi a len ms := h
theorem OwnMem.otherK {lo hi : Nat} {w : World} {a : Option Addr} {len : Nat} {ms : List (List Int)} (h : OwnMem w lo hi a len ms) {b j : Nat} (hb : b < lo ∨ hi ≤ b) (u : Value) : OwnMem (w.setCell ⟨b, j, none⟩ u) lo hi a len ms :=
  h.same fun k h1 h2 => Below.heap_setCell _ _ _ _ (by simp; omega)

theorem cellk_alloc {w : World} {b j : Nat} {v : Value} (h : w.cell? ⟨b, j, none⟩ = some v) (ob : Obj) : (w.alloc ob).cell? ⟨b, j, none⟩ = some v :=
  (((Below.refl w.heap.size w).alloc (Nat.le_refl _) ob).cell (p := ⟨b, j, none⟩) (World.block_lt_of_cell? _ _ h)).trans h
theorem cellk_same {w : World} {b j : Nat} {u v : Value} (h : w.cell? ⟨b, j, none⟩ = some v) : (w.setCell ⟨b, j, none⟩ u).cell? ⟨b, j, none⟩ = some u := by rw [cell_put h, if_pos rfl]
theorem cellk_else {w : World} {b i j : Nat} {u v : Value} (h : w.cell? ⟨b, i, none⟩ = some v) (hij : i ≠ j) : (w.setCell ⟨b, j, none⟩ u).cell? ⟨b, i, none⟩ = some v := by rw [cell_put h, if_neg hij]

theorem belowVia {n N : Nat} {w W w1 : World} (B1 : Below n W w1) (h1 : N ≤ n) (h2 : Below N w W) : Below N w w1 := h2.trans (B1.mono h1)

end Go.Proofs.Ytjegndgdpmlbaaa
