/-
  A call that moves one reader on and else only makes memory: what it keeps.
-/
import Derived.Test.YteelpikhijkmdaaDoorKDraw0
namespace Go.Proofs.YteelpikhijkmdaaDoor
open Go.RowKit

/-- All blocks but the reader's are as they were; the streams are; no block has gone. -/
structure Adv (rb : Nat) (w w' : World) : Prop where
  os : w'.os = w.os
  tape : w'.tape = w.tape
  output : w'.output = w.output
  size : w.heap.size ≤ w'.heap.size
  block : ∀ k, k < w.heap.size → k ≠ rb → w'.heap[k]? = w.heap[k]?

theorem Adv.refl (rb : Nat) (w : World) : Adv rb w w := ⟨rfl, rfl, rfl, Nat.le_refl _, fun _ _ _ => rfl⟩
theorem Adv.trans {rb : Nat} {a b c : World} (h : Adv rb a b) (k : Adv rb b c) : Adv rb a c :=
  ⟨k.os.trans h.os, k.tape.trans h.tape, k.output.trans h.output, Nat.le_trans h.size k.size, fun i hi hn => (k.block i (Nat.lt_of_lt_of_le hi h.size) hn).trans (h.block i hi hn)⟩
theorem Adv.of_below {rb N : Nat} {w w' : World} (h : Below N w w') (hN : w.heap.size ≤ N) : Adv rb w w' := ⟨h.os, h.tape, h.output, h.size, fun k hk _ => h.block k (Nat.lt_of_lt_of_le hk hN)⟩
theorem Adv.alloc {rb : Nat} {a w : World} (h : Adv rb a w) (o : Obj) : Adv rb a (w.alloc o) :=
  h.trans (Adv.of_below ((Below.refl w.heap.size w).alloc (Nat.le_refl _) o) (Nat.le_refl _))
theorem Adv.drewN {rb : Nat} {a w : World} (h : Adv rb a w) (n : Nat) : Adv rb a (w.drewN n) := h.trans (Adv.of_below (below_drewN (Below.refl w.heap.size w) n) (Nat.le_refl _))
theorem Adv.drew {rb : Nat} {a w : World} (h : Adv rb a w) : Adv rb a w.drew := h.trans (Adv.of_below (Below.refl w.heap.size w).drew (Nat.le_refl _))
theorem Adv.setCell {rb : Nat} {a w : World} (h : Adv rb a w) {p : Addr} (hp : p.block = rb ∨ a.heap.size ≤ p.block) (u : Value) : Adv rb a (w.setCell p u) :=
  ⟨h.os, h.tape, h.output, by simpa [World.setCell] using h.size, fun k hk hn => (Below.heap_setCell _ _ _ _ (by omega)).trans (h.block k hk hn)⟩
theorem Adv.cell {rb : Nat} {w w' : World} (h : Adv rb w w') {p : Addr} (hp : p.block < w.heap.size) (hn : p.block ≠ rb) : w'.cell? p = w.cell? p := World.cell?_of_block (w := w) (h.block p.block hp hn)
theorem Adv.frozen {rb : Nat} {w w' : World} (h : Adv rb w w') {p : Addr} (hp : p.block < w.heap.size) (hn : p.block ≠ rb) : w'.frozen? p = w.frozen? p := World.frozen?_of_block (w := w) (h.block p.block hp hn)
/-- Below the reader nothing has turned. -/
theorem Adv.below {rb B : Nat} {w w' : World} (h : Adv rb w w') (hB : B ≤ rb) (hs : B ≤ w.heap.size) : Below B w w' := ⟨h.os, h.tape, h.output, h.size, fun k hk => h.block k (by omega) (by omega)⟩

theorem Rd.alloc {w : World} {rb k : Nat} (h : Rd w rb k) (o : Obj) : Rd (w.alloc o) rb k := h.below ((Below.refl w.heap.size w).alloc (Nat.le_refl _) o) h.lt
theorem Rd.drewN {w : World} {rb k : Nat} (h : Rd w rb k) (n : Nat) : Rd (w.drewN n) rb k := h.below (below_drewN (Below.refl w.heap.size w) n) h.lt
theorem Rd.drew {w : World} {rb k : Nat} (h : Rd w rb k) : Rd w.drew rb k := h.below (Below.refl w.heap.size w).drew h.lt
theorem Rd.step1 {w : World} {rb k : Nat} (h : Rd w rb k) : Rd (w.setCell ⟨rb, 1, none⟩ (.int .i64 ((k : Int) + 1))) rb (k + 1) := h.step (k + 1)
/-- A reader, at whatever place. -/
def RdA (w : World) (rb : Nat) : Prop := ∃ k : Nat, Rd w rb k
theorem Rd.toA {w : World} {rb k : Nat} (h : Rd w rb k) : RdA w rb := ⟨k, h⟩
theorem Rd.stepZ {w : World} {rb : Nat} (h : RdA w rb) (x : Int) (k' : Nat) (hx : x = (k' : Int)) : Rd (w.setCell ⟨rb, 1, none⟩ (.int .i64 x)) rb k' := by
  subst hx; obtain ⟨k, h⟩ := h; exact h.step k'
theorem RdA.alloc {w : World} {rb : Nat} (h : RdA w rb) (o : Obj) : RdA (w.alloc o) rb := by obtain ⟨k, h⟩ := h; exact (h.alloc o).toA
theorem RdA.drewN {w : World} {rb : Nat} (h : RdA w rb) (n : Nat) : RdA (w.drewN n) rb := by obtain ⟨k, h⟩ := h; exact (h.drewN n).toA
theorem RdA.drew {w : World} {rb : Nat} (h : RdA w rb) : RdA w.drew rb := by obtain ⟨k, h⟩ := h; exact h.drew.toA
theorem RdA.step1 {w : World} {rb : Nat} (h : RdA w rb) (k : Nat) : RdA (w.setCell ⟨rb, 1, none⟩ (.int .i64 ((k : Int) + 1))) rb := (Rd.stepZ h _ (k + 1) (by simp)).toA
theorem Rd.other {w : World} {rb k : Nat} (h : Rd w rb k) (b o : Nat) (hb : rb < b) (u : Value) : Rd (w.setCell ⟨b, o, none⟩ u) rb k :=
  h.below ((Below.refl b w).setCell (p := ⟨b, o, none⟩) (Nat.le_refl _) u) hb

theorem RdA.other {w : World} {rb : Nat} (h : RdA w rb) (b o : Nat) (hb : rb < b) (u : Value) : RdA (w.setCell ⟨b, o, none⟩ u) rb := by obtain ⟨k, h⟩ := h; exact (h.other b o hb u).toA

theorem IsRow.below {t : IntKind} {w w' : World} {a : Option Addr} {len cap : Nat} {zs : List Int} (h : IsRow t w a len cap zs) (hb : Below w.heap.size w w') : IsRow t w' a len cap zs := by
  rcases h with h | ⟨x, rfl, hle, hm, hz, hc, hw⟩
  · exact Or.inl h
  · refine Or.inr ⟨x, rfl, hle, hm, hz, fun i hi => ?_, hw⟩
    have := hc i hi
    rw [← this]
    exact hb.cell (World.block_lt_of_cell? _ _ this)
theorem IsRow.alloc {t : IntKind} {w : World} {a : Option Addr} {len cap : Nat} {zs : List Int} (h : IsRow t w a len cap zs) (o : Obj) : IsRow t (w.alloc o) a len cap zs :=
  h.below ((Below.refl w.heap.size w).alloc (Nat.le_refl _) o)

end Go.Proofs.YteelpikhijkmdaaDoor
