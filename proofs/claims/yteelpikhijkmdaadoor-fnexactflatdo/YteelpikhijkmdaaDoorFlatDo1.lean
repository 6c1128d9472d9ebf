/-
  What the program's own FlatDo does.
-/
import Derived.Test.YteelpikhijkmdaaDoorFlatDo0
import Derived.Test.YteelpikhijkmdaaDoorFlatFns0
import Derived.Deep.DeepCutAuto
set_option linter.unusedSimpArgs false
namespace Go.Proofs.YteelpikhijkmdaaDoor
open Go.RowKit
attribute [local go_sem ↓] Go.wp_at_zero Go.wp_at_succ

/-- Of what was there one block alone has turned. -/
structure Turn1 (S : Nat) (w w' : World) : Prop where
  os : w'.os = w.os
  tape : w'.tape = w.tape
  output : w'.output = w.output
  size : w.heap.size ≤ w'.heap.size
  block : ∀ k, k < w.heap.size → k ≠ S → w'.heap[k]? = w.heap[k]?
theorem Turn1.ofBelow {S : Nat} {w w' : World} (h : Below w.heap.size w w') : Turn1 S w w' := ⟨h.os, h.tape, h.output, h.size, fun k hk _ => h.block k hk⟩
theorem Turn1.trans {S : Nat} {a b c : World} (h : Turn1 S a b) (k : Turn1 S b c) : Turn1 S a c :=
  ⟨k.os.trans h.os, k.tape.trans h.tape, k.output.trans h.output, Nat.le_trans h.size k.size, fun i hi hn => (k.block i (Nat.lt_of_lt_of_le hi h.size) hn).trans (h.block i hi hn)⟩
theorem Turn1.put {S : Nat} {w w' : World} (h : Turn1 S w w') (j : Nat) (u : Value) : Turn1 S w (w'.setCell ⟨S, j, none⟩ u) :=
  ⟨h.os, h.tape, h.output, by simpa [World.setCell] using h.size, fun k hk hn => (Below.heap_setCell _ _ _ _ (by simpa using hn)).trans (h.block k hk hn)⟩
theorem Turn1.below {S N : Nat} {w0 w w' : World} (h0 : Below N w0 w) (hN : N ≤ w.heap.size) (hS : N ≤ S) (h : Turn1 S w w') : Below N w0 w' :=
  ⟨h.os.trans h0.os, h.tape.trans h0.tape, h.output.trans h0.output, Nat.le_trans h0.size h.size, fun k hk => (h.block k (by omega) (by omega)).trans (h0.block k hk)⟩

def deedF (f S : Nat) : Value := .func (.func f) #[.pointer (some ⟨S, 0, none⟩)] #[]
set_option maxRecDepth 100000 in
set_option maxHeartbeats 4000000 in
theorem soloDeeds (S : Nat) (w : World) : Calls Tryd.prog 70 #[.pointer (some ⟨S, 0, none⟩)] w fun e w' => e = .returned (.slice (some ⟨w.heap.size, 0, none⟩) 5 5) ∧ w' = w.alloc (.cells #[.nilFunc, deedF 83 S, deedF 84 S, deedF 85 S, deedF 86 S] 121) := by
  go_enter Tryd.func70, Tryd.ntmps70
  go_wp2
  go_ret
  exact ⟨rfl, rfl⟩
theorem sameIn_put {w : World} {lo hi S : Nat} (h : S < lo ∨ hi ≤ S) (u : Value) : SameIn lo hi w (w.setCell ⟨S, 0, none⟩ u) := fun k h1 h2 => Below.heap_setCell _ _ _ _ (by simp; omega)
set_option maxHeartbeats 1000000 in
theorem soloTake (S len c : Nat) (a : Option Addr) (g : Int) (w : World) {old : Value} (hS : w.cell? ⟨S, 0, none⟩ = some old) (hf : w.frozen? ⟨S, 0, none⟩ = false) :
    Calls Tryd.prog 96 #[.pointer (some ⟨S, 0, none⟩), .slice a len c, .int .i64 g] w fun e w' => e = .returned (.int .i64 g) ∧ w' = w.setCell ⟨S, 0, none⟩ (.slice a len c) := by
  go_enter Tryd.func96, Tryd.ntmps96
  go_wp2
  go_ret
  exact ⟨rfl, rfl⟩
set_option maxRecDepth 100000 in
set_option maxHeartbeats 4000000 in
theorem soloRead (S len c lo hi : Nat) (a : Option Addr) (ms : List (List Int)) (a0 a1 a2 a3 a4 : Int) (w : World) (hg : ErrT w) (hS : w.cell? ⟨S, 0, none⟩ = some (.slice a len c)) (h : IsMem w lo hi a len ms) (hh : hi ≤ w.heap.size) (hn : len ≤ 1048576) :
    Calls Tryd.prog 83 #[.pointer (some ⟨S, 0, none⟩), .agg #[.int .i64 a0, .int .i64 a1, .int .i64 a2, .int .i64 a3, .int .i64 a4]] w fun e w' => e = .returned (.int .i64 (rdG ms a2 a3)) ∧ Below w.heap.size w w' := by
  have hlS := World.block_lt_of_cell? _ _ hS
  obtain ⟨W0, hW0⟩ : ∃ W0, W0 = w.alloc (.cells #[.int .i64 a0, .int .i64 a1, .int .i64 a2, .int .i64 a3, .int .i64 a4] 37) := ⟨_, rfl⟩
  have B0 : Below w.heap.size w W0 := by rw [hW0]; exact (Below.refl _ _).alloc (Nat.le_refl _) _
  have q : Hid (W0.cell? ⟨w.heap.size, 2, none⟩ = some (.int .i64 a2) ∧ W0.cell? ⟨w.heap.size, 3, none⟩ = some (.int .i64 a3)) := by rw [hW0]; simp [Hid]
  have qS := (B0.cell (p := ⟨S, 0, none⟩) hlS).trans hS
  have hc := implFlatRead lo hi a len c ms a2 a3 W0.drew (hg.on B0.drew) (h.same (below_sameIn B0.drew hh)) (Nat.le_trans hh B0.size) hn
  replace hc := hidF hc
  clear hS h hg
  go_enter Tryd.func83, Tryd.ntmps83
  go_wp2_with (fail)
  rw [← hW0]
  clear hW0
  obtain ⟨q2, q3⟩ := q.out
  go_region_with (go_at_call 15; refine hc.out.mono ?_; rintro e w1 ⟨rfl, B1⟩)
  all_goals
    have HB := hidF (B0.drew.trans (B1.mono B0.size))
    clear B1 hc q2 q3 qS
    go_wp2
    go_ret
    exact ⟨rfl, HB.out⟩
set_option maxRecDepth 100000 in
set_option maxHeartbeats 4000000 in
theorem soloReadIn (S len c lo hi : Nat) (a : Option Addr) (ms : List (List Int)) (a0 a1 a2 a3 a4 : Int) (w : World) (hg : ErrT w) (hS : w.cell? ⟨S, 0, none⟩ = some (.slice a len c)) (h : IsMem w lo hi a len ms) (hh : hi ≤ w.heap.size) (hn : len ≤ 1048576) :
    Calls Tryd.prog 85 #[.pointer (some ⟨S, 0, none⟩), .agg #[.int .i64 a0, .int .i64 a1, .int .i64 a2, .int .i64 a3, .int .i64 a4]] w fun e w' => e = .returned (.int .i64 (riG ms a2 a3)) ∧ Below w.heap.size w w' := by
  have hlS := World.block_lt_of_cell? _ _ hS
  obtain ⟨W0, hW0⟩ : ∃ W0, W0 = w.alloc (.cells #[.int .i64 a0, .int .i64 a1, .int .i64 a2, .int .i64 a3, .int .i64 a4] 37) := ⟨_, rfl⟩
  have B0 : Below w.heap.size w W0 := by rw [hW0]; exact (Below.refl _ _).alloc (Nat.le_refl _) _
  have q : Hid (W0.cell? ⟨w.heap.size, 2, none⟩ = some (.int .i64 a2) ∧ W0.cell? ⟨w.heap.size, 3, none⟩ = some (.int .i64 a3)) := by rw [hW0]; simp [Hid]
  have qS := (B0.cell (p := ⟨S, 0, none⟩) hlS).trans hS
  have hc := implFlatReadIn lo hi a len c ms a2 a3 W0.drew (hg.on B0.drew) (h.same (below_sameIn B0.drew hh)) (Nat.le_trans hh B0.size) hn
  replace hc := hidF hc
  clear hS h hg
  go_enter Tryd.func85, Tryd.ntmps85
  go_wp2_with (fail)
  rw [← hW0]
  clear hW0
  obtain ⟨q2, q3⟩ := q.out
  go_region_with (go_at_call 16; refine hc.out.mono ?_; rintro e w1 ⟨rfl, B1⟩)
  all_goals
    have HB := hidF (B0.drew.trans (B1.mono B0.size))
    clear B1 hc q2 q3 qS
    go_wp2
    go_ret
    exact ⟨rfl, HB.out⟩
set_option maxRecDepth 100000 in
set_option maxHeartbeats 4000000 in
theorem soloWrite (S len c lo hi : Nat) (a : Option Addr) (ms : List (List Int)) (a0 a1 a2 a3 a4 : Int) (w : World) (hg : ErrT w) (hS : w.cell? ⟨S, 0, none⟩ = some (.slice a len c)) (hf : w.frozen? ⟨S, 0, none⟩ = false) (h : IsMem w lo hi a len ms) (hh : hi ≤ w.heap.size) (hn : len ≤ 1048576) (hL : ∀ i, i < len → (ms.getD i []).length ≤ 1048576) :
    Calls Tryd.prog 84 #[.pointer (some ⟨S, 0, none⟩), .agg #[.int .i64 a0, .int .i64 a1, .int .i64 a2, .int .i64 a3, .int .i64 a4]] w fun e w' => e = .returned (.int .i64 (wrG ms a2 a3 a4)) ∧ ∃ a' c', w'.cell? ⟨S, 0, none⟩ = some (.slice a' len c') ∧ OwnMem w' w.heap.size w'.heap.size a' len (wrM ms a2 a3 a4) ∧ Turn1 S w w' := by
  have hlS := World.block_lt_of_cell? _ _ hS
  obtain ⟨W0, hW0⟩ : ∃ W0, W0 = w.alloc (.cells #[.int .i64 a0, .int .i64 a1, .int .i64 a2, .int .i64 a3, .int .i64 a4] 37) := ⟨_, rfl⟩
  have B0 : Below w.heap.size w W0 := by rw [hW0]; exact (Below.refl _ _).alloc (Nat.le_refl _) _
  have q : Hid (W0.cell? ⟨w.heap.size, 2, none⟩ = some (.int .i64 a2) ∧ W0.cell? ⟨w.heap.size, 3, none⟩ = some (.int .i64 a3) ∧ W0.cell? ⟨w.heap.size, 4, none⟩ = some (.int .i64 a4)) := by rw [hW0]; simp [Hid]
  have qS := (B0.cell (p := ⟨S, 0, none⟩) hlS).trans hS
  have hfS := (B0.frozen (p := ⟨S, 0, none⟩) hlS).trans hf
  have hc := implFlatWrite lo hi a len c ms a2 a3 a4 W0.drew (hg.on B0.drew) (h.same (below_sameIn B0.drew hh)) (Nat.le_trans hh B0.size) hn hL
  replace hc := hidF hc
  have lS0 : S < W0.heap.size := Nat.lt_of_lt_of_le hlS B0.size
  have hsz : W0.drew.heap.size = W0.heap.size := rfl
  have s0 := B0.size
  clear hS hf h hg hL
  go_enter Tryd.func84, Tryd.ntmps84
  go_wp2_with (fail)
  rw [← hW0]
  clear hW0
  obtain ⟨q2, q3, q4⟩ := q.out
  go_region_with (first | (go_at_call 8; refine hc.out.mono ?_; rintro e w1 ⟨rfl, hM, B1⟩; have y := (B1.cell (p := ⟨S, 0, none⟩) (by rw [World.size_drew]; exact lS0)).trans qS; have z := (B1.frozen (p := ⟨S, 0, none⟩) (by rw [World.size_drew]; exact lS0)).trans hfS; have s1 := B1.size) | (go_at_call 96; refine (soloTake S _ _ _ _ _ y z).mono ?_; rintro e w2 ⟨rfl, rfl⟩))
  all_goals
    have lS1 : S < w1.heap.size := by omega
    have e1 := cell_put (j := 0) (u := Value.slice (some ⟨W0.drew.heap.size, 0, none⟩) len len) y
    have HM := hidF (show OwnMem (w1.setCell ⟨S, 0, none⟩ (.slice (some ⟨W0.drew.heap.size, 0, none⟩) len len)) w.heap.size (w1.setCell ⟨S, 0, none⟩ (.slice (some ⟨W0.drew.heap.size, 0, none⟩) len len)).heap.size (some ⟨W0.drew.heap.size, 0, none⟩) len (wrM ms a2 a3 a4) from (hM.same (sameIn_put (S := S) (Or.inl (by omega)) _)).wide (show w.heap.size ≤ W0.drew.heap.size by omega) (by rw [World.size_setCell]; exact Nat.le_refl _))
    have HT := hidF (((Turn1.ofBelow (S := S) B0.drew).trans (Turn1.ofBelow B1)).put 0 (.slice (some ⟨W0.drew.heap.size, 0, none⟩) len len))
    clear hM B1 hc q2 q3 q4 qS hfS y z
    replace e1 := e1.trans (congrArg some (if_pos rfl))
    go_wp2
    go_ret
    exact ⟨rfl, some ⟨W0.drew.heap.size, 0, none⟩, len, e1, HM.out, HT.out⟩
set_option maxRecDepth 100000 in
set_option maxHeartbeats 4000000 in
theorem soloWriteIn (S len c lo hi : Nat) (a : Option Addr) (ms : List (List Int)) (a0 a1 a2 a3 a4 : Int) (w : World) (hg : ErrT w) (hS : w.cell? ⟨S, 0, none⟩ = some (.slice a len c)) (hf : w.frozen? ⟨S, 0, none⟩ = false) (h : IsMem w lo hi a len ms) (hh : hi ≤ w.heap.size) (hn : len ≤ 1048576) (hL : ∀ i, i < len → (ms.getD i []).length ≤ 1048576) :
    Calls Tryd.prog 86 #[.pointer (some ⟨S, 0, none⟩), .agg #[.int .i64 a0, .int .i64 a1, .int .i64 a2, .int .i64 a3, .int .i64 a4]] w fun e w' => e = .returned (.int .i64 (wiG ms a2 a3 a4)) ∧ ∃ a' c', w'.cell? ⟨S, 0, none⟩ = some (.slice a' len c') ∧ OwnMem w' w.heap.size w'.heap.size a' len (wiM ms a2 a3 a4) ∧ Turn1 S w w' := by
  have hlS := World.block_lt_of_cell? _ _ hS
  obtain ⟨W0, hW0⟩ : ∃ W0, W0 = w.alloc (.cells #[.int .i64 a0, .int .i64 a1, .int .i64 a2, .int .i64 a3, .int .i64 a4] 37) := ⟨_, rfl⟩
  have B0 : Below w.heap.size w W0 := by rw [hW0]; exact (Below.refl _ _).alloc (Nat.le_refl _) _
  have q : Hid (W0.cell? ⟨w.heap.size, 2, none⟩ = some (.int .i64 a2) ∧ W0.cell? ⟨w.heap.size, 3, none⟩ = some (.int .i64 a3) ∧ W0.cell? ⟨w.heap.size, 4, none⟩ = some (.int .i64 a4)) := by rw [hW0]; simp [Hid]
  have qS := (B0.cell (p := ⟨S, 0, none⟩) hlS).trans hS
  have hfS := (B0.frozen (p := ⟨S, 0, none⟩) hlS).trans hf
  have hc := implFlatWriteIn lo hi a len c ms a2 a3 a4 W0.drew (hg.on B0.drew) (h.same (below_sameIn B0.drew hh)) (Nat.le_trans hh B0.size) hn hL
  replace hc := hidF hc
  have lS0 : S < W0.heap.size := Nat.lt_of_lt_of_le hlS B0.size
  have hsz : W0.drew.heap.size = W0.heap.size := rfl
  have s0 := B0.size
  clear hS hf h hg hL
  go_enter Tryd.func86, Tryd.ntmps86
  go_wp2_with (fail)
  rw [← hW0]
  clear hW0
  obtain ⟨q2, q3, q4⟩ := q.out
  go_region_with (first | (go_at_call 17; refine hc.out.mono ?_; rintro e w1 ⟨TT, rfl, hM, B1⟩; have y := (B1.cell (p := ⟨S, 0, none⟩) (by rw [World.size_drew]; exact lS0)).trans qS; have z := (B1.frozen (p := ⟨S, 0, none⟩) (by rw [World.size_drew]; exact lS0)).trans hfS; have s1 := B1.size) | (go_at_call 96; refine (soloTake S _ _ _ _ _ y z).mono ?_; rintro e w2 ⟨rfl, rfl⟩))
  all_goals
    have lS1 : S < w1.heap.size := by omega
    have e1 := cell_put (j := 0) (u := Value.slice (some ⟨TT, 0, none⟩) len len) y
    have HM := hidF (show OwnMem (w1.setCell ⟨S, 0, none⟩ (.slice (some ⟨TT, 0, none⟩) len len)) w.heap.size (w1.setCell ⟨S, 0, none⟩ (.slice (some ⟨TT, 0, none⟩) len len)).heap.size (some ⟨TT, 0, none⟩) len (wiM ms a2 a3 a4) from (hM.same (sameIn_put (S := S) (Or.inl (by omega)) _)).wide (show w.heap.size ≤ W0.drew.heap.size by omega) (by rw [World.size_setCell]; exact Nat.le_refl _))
    have HT := hidF (((Turn1.ofBelow (S := S) B0.drew).trans (Turn1.ofBelow B1)).put 0 (.slice (some ⟨TT, 0, none⟩) len len))
    clear hM B1 hc q2 q3 q4 qS hfS y z
    replace e1 := e1.trans (congrArg some (if_pos rfl))
    go_wp2
    go_ret
    exact ⟨rfl, some ⟨TT, 0, none⟩, len, e1, HM.out, HT.out⟩
set_option maxRecDepth 100000 in
set_option maxHeartbeats 4000000 in
theorem soloDeedOf (S D : Nat) (k : Int) (w : World) (c1 : w.cell? ⟨D, 1, none⟩ = some (deedF 83 S)) (c2 : w.cell? ⟨D, 2, none⟩ = some (deedF 84 S)) (c3 : w.cell? ⟨D, 3, none⟩ = some (deedF 85 S)) (c4 : w.cell? ⟨D, 4, none⟩ = some (deedF 86 S)) :
    Calls Tryd.prog 69 #[.slice (some ⟨D, 0, none⟩) 5 5, .int .i64 k] w fun e w' => e = .returned (.tuple #[if k = 1 then deedF 83 S else if k = 2 then deedF 84 S else if k = 3 then deedF 85 S else if k = 4 then deedF 86 S else .nilFunc, .bool (decide (1 ≤ k) && decide (k ≤ 4))]) ∧ w' = w := by
  rcases (by omega : k = 1 ∨ k = 2 ∨ k = 3 ∨ k = 4 ∨ k < 1 ∨ 4 < k) with rfl | rfl | rfl | rfl | hk | hk
  · go_enter Tryd.func69, Tryd.ntmps69
    go_wp2
    refine bodyPost_ret (v := .tuple #[deedF 83 S, .bool true]) (by simp [results, Tryd.results69, go_sem]) rfl ⟨by simp, rfl⟩
  · go_enter Tryd.func69, Tryd.ntmps69
    go_wp2
    refine bodyPost_ret (v := .tuple #[deedF 84 S, .bool true]) (by simp [results, Tryd.results69, go_sem]) rfl ⟨by simp, rfl⟩
  · go_enter Tryd.func69, Tryd.ntmps69
    go_wp2
    refine bodyPost_ret (v := .tuple #[deedF 85 S, .bool true]) (by simp [results, Tryd.results69, go_sem]) rfl ⟨by simp, rfl⟩
  · go_enter Tryd.func69, Tryd.ntmps69
    go_wp2
    refine bodyPost_ret (v := .tuple #[deedF 86 S, .bool true]) (by simp [results, Tryd.results69, go_sem]) rfl ⟨by simp, rfl⟩
  · have hk' : ¬ (1 : Int) ≤ k := by omega
    rw [show (if k = 1 then deedF 83 S else if k = 2 then deedF 84 S else if k = 3 then deedF 85 S else if k = 4 then deedF 86 S else .nilFunc) = Value.nilFunc by rw [if_neg (by omega), if_neg (by omega), if_neg (by omega), if_neg (by omega)], show (decide (1 ≤ k) && decide (k ≤ 4)) = false by simp; omega]
    go_enter Tryd.func69, Tryd.ntmps69
    go_wp2
    refine bodyPost_ret (v := .tuple #[.nilFunc, .bool false]) (by simp [results, Tryd.results69, go_sem]) rfl ⟨rfl, rfl⟩
  · have hk1 : ¬ k < 1 := by omega
    have hk5 : (5 : Int) ≤ k := by omega
    have hk5' : ¬ k < 5 := by omega
    rw [show (if k = 1 then deedF 83 S else if k = 2 then deedF 84 S else if k = 3 then deedF 85 S else if k = 4 then deedF 86 S else .nilFunc) = Value.nilFunc by rw [if_neg (by omega), if_neg (by omega), if_neg (by omega), if_neg (by omega)], show (decide (1 ≤ k) && decide (k ≤ 4)) = false by simp; omega]
    go_enter Tryd.func69, Tryd.ntmps69
    go_wp2
    refine bodyPost_ret (v := .tuple #[.nilFunc, .bool false]) (by simp [results, Tryd.results69, go_sem]) rfl ⟨rfl, rfl⟩

set_option maxRecDepth 100000 in
set_option maxHeartbeats 4000000 in
theorem soloDo (S len c lo hi : Nat) (a : Option Addr) (ms : List (List Int)) (a0 a1 a2 a3 a4 : Int) (w : World) (hg : ErrT w) (hS : w.cell? ⟨S, 0, none⟩ = some (.slice a len c)) (hf : w.frozen? ⟨S, 0, none⟩ = false) (hM : OwnMem w lo hi a len ms) (hh : hi ≤ S) (hlo : lo ≤ w.heap.size) (hn : len ≤ 1048576) (hL : ∀ i, i < len → (ms.getD i []).length ≤ 1048576) :
    Calls Tryd.prog 46 #[.pointer (some ⟨S, 0, none⟩), .agg #[.int .i64 a0, .int .i64 a1, .int .i64 a2, .int .i64 a3, .int .i64 a4]] w fun e w' => e = .returned (.int .i64 (fdG ms (a0, a1, a2, a3, a4))) ∧ ∃ a' c', w'.cell? ⟨S, 0, none⟩ = some (.slice a' len c') ∧ OwnMem w' lo w'.heap.size a' len (fdM ms (a0, a1, a2, a3, a4)) ∧ Turn1 S w w' := by
  have hlS := World.block_lt_of_cell? _ _ hS
  obtain ⟨W0, hW0⟩ : ∃ W0, W0 = w.alloc (.cells #[.int .i64 a0, .int .i64 a1, .int .i64 a2, .int .i64 a3, .int .i64 a4] 37) := ⟨_, rfl⟩
  have B0 : Below w.heap.size w W0 := by rw [hW0]; exact (Below.refl _ _).alloc (Nat.le_refl _) _
  have s0 : W0.heap.size = w.heap.size + 1 := by rw [hW0]; simp
  have q : Hid (W0.cell? ⟨w.heap.size, 0, none⟩ = some (.int .i64 a0) ∧ W0.cell? ⟨w.heap.size, 1, none⟩ = some (.int .i64 a1) ∧ W0.cell? ⟨w.heap.size, 2, none⟩ = some (.int .i64 a2) ∧ W0.cell? ⟨w.heap.size, 3, none⟩ = some (.int .i64 a3) ∧ W0.cell? ⟨w.heap.size, 4, none⟩ = some (.int .i64 a4)) := by rw [hW0]; simp [Hid]
  have hsz : W0.drew.heap.size = W0.heap.size := rfl
  go_enter Tryd.func46, Tryd.ntmps46
  go_wp2_with (fail)
  rw [← hW0]
  clear hW0
  obtain ⟨q0, q1, q2, q3, q4⟩ := q.out
  obtain ⟨fv, hfv⟩ : ∃ fv : Value, fv = (if a0 = 1 then deedF 83 S else if a0 = 2 then deedF 84 S else if a0 = 3 then deedF 85 S else if a0 = 4 then deedF 86 S else .nilFunc) := ⟨_, rfl⟩
  obtain ⟨bv, hbv⟩ : ∃ bv : Bool, bv = (decide (1 ≤ a0) && decide (a0 ≤ 4)) := ⟨_, rfl⟩
  go_cut [5, 6] (fun s5 s6 wx => s5 = fv ∧ s6 = .bool bv ∧ Hid (Below W0.heap.size W0 wx))
  case first =>
    obtain ⟨W1, hW1⟩ : ∃ W1, W1 = W0.drew.alloc (.cells #[.nilFunc, deedF 83 S, deedF 84 S, deedF 85 S, deedF 86 S] 121) := ⟨_, rfl⟩
    have B1 : Below W0.heap.size W0 W1 := by rw [hW1]; exact ((Below.refl W0.heap.size W0).drew).alloc (Nat.le_refl _) _
    have y0 := (B1.cell (p := ⟨w.heap.size, 0, none⟩) (show w.heap.size < W0.heap.size by omega)).trans q0
    have key : ∀ j u, (#[.nilFunc, deedF 83 S, deedF 84 S, deedF 85 S, deedF 86 S] : Array Value)[j]? = some u → W1.cell? ⟨W0.heap.size, j, none⟩ = some u := fun j u hj => by
      rw [hW1, show W0.heap.size = W0.drew.heap.size from rfl, cell_of_row _ _ _ _ _ _ (heap_alloc_new W0.drew _)]
      exact hj
    have hd := hidF (soloDeeds S W0.drew)
    rw [← hW1] at hd
    have ho := hidF (soloDeedOf S W0.heap.size a0 W1 (key 1 _ rfl) (key 2 _ rfl) (key 3 _ rfl) (key 4 _ rfl))
    rw [← hfv, ← hbv, s0] at ho
    have HB1 := hidF B1
    clear hW1 B1 key hfv hbv hM hL hg hS hf
    go_region_with (first | (go_at_call 70; refine hd.out.mono ?_; rintro e w1 ⟨rfl, rfl⟩) | (go_at_call 69; refine ho.out.mono ?_; rintro e w2 ⟨rfl, rfl⟩))
    all_goals go_wp2_with fail
    all_goals go_meet
    all_goals exact ⟨rfl, rfl, HB1.out⟩
  case rest =>
    obtain ⟨rfl, rfl, hBc⟩ := hcut
    have sc := hBc.out.size
    have hB2 := hidF (B0.trans (hBc.out.mono B0.size))
    have y0 := (hBc.out.cell (p := ⟨w.heap.size, 0, none⟩) (show w.heap.size < _ by omega)).trans q0
    have y1 := (hBc.out.cell (p := ⟨w.heap.size, 1, none⟩) (show w.heap.size < _ by omega)).trans q1
    have y2 := (hBc.out.cell (p := ⟨w.heap.size, 2, none⟩) (show w.heap.size < _ by omega)).trans q2
    have y3 := (hBc.out.cell (p := ⟨w.heap.size, 3, none⟩) (show w.heap.size < _ by omega)).trans q3
    have y4 := (hBc.out.cell (p := ⟨w.heap.size, 4, none⟩) (show w.heap.size < _ by omega)).trans q4
    have xS := (hB2.out.cell (p := ⟨S, 0, none⟩) hlS).trans hS
    have xf := (hB2.out.frozen (p := ⟨S, 0, none⟩) hlS).trans hf
    have hM2 := hM.same (below_sameIn hB2.out (by omega))
    have hg2 := hg.on hB2.out
    have sw := hB2.out.size
    clear hBc q0 q1 q2 q3 q4 q B0 hS hf hM hg
    generalize wc = w2 at *
    rw [hfv, hbv]
    clear hfv hbv
    rcases (by omega : a0 = 1 ∨ a0 = 2 ∨ a0 = 3 ∨ a0 = 4 ∨ a0 < 1 ∨ 4 < a0) with rfl | rfl | rfl | rfl | hk | hk
    · have hr := hidF (soloRead S len c lo hi a ms 1 a1 a2 a3 a4 w2 hg2 xS hM2.mem (by omega) hn)
      simp only [if_true, if_false, deedF, eq_self, reduceIte, Int.reduceEq]
      go_wp2_with (fail)
      refine hr.out.mono ?_
      rintro e w3 ⟨rfl, B3⟩
      have HB3 := hidF B3
      clear B3 hr
      go_wp2
      go_ret
      exact ⟨rfl, a, c, (HB3.out.cell (p := ⟨S, 0, none⟩) (show S < _ by omega)).trans xS, (hM2.same (below_sameIn HB3.out (by omega))).wide (Nat.le_refl _) (by have := HB3.out.size; omega), (Turn1.ofBelow hB2.out).trans (Turn1.ofBelow HB3.out)⟩
    · have hr := hidF (soloWrite S len c lo hi a ms 2 a1 a2 a3 a4 w2 hg2 xS xf hM2.mem (by omega) hn hL)
      simp only [if_true, if_false, deedF, eq_self, reduceIte, Int.reduceEq]
      go_wp2_with (fail)
      refine hr.out.mono ?_
      rintro e w3 ⟨rfl, a', c', e3, M3, T3⟩
      have HM3 := hidF M3
      have HT3 := hidF T3
      replace e3 := hidF e3
      clear M3 T3 hr
      go_wp2
      go_ret
      exact ⟨rfl, a', c', e3.out, HM3.out.wide (by omega) (Nat.le_refl _), (Turn1.ofBelow hB2.out).trans HT3.out⟩
    · have hr := hidF (soloReadIn S len c lo hi a ms 3 a1 a2 a3 a4 w2 hg2 xS hM2.mem (by omega) hn)
      simp only [if_true, if_false, deedF, eq_self, reduceIte, Int.reduceEq]
      go_wp2_with (fail)
      refine hr.out.mono ?_
      rintro e w3 ⟨rfl, B3⟩
      have HB3 := hidF B3
      clear B3 hr
      go_wp2
      go_ret
      exact ⟨rfl, a, c, (HB3.out.cell (p := ⟨S, 0, none⟩) (show S < _ by omega)).trans xS, (hM2.same (below_sameIn HB3.out (by omega))).wide (Nat.le_refl _) (by have := HB3.out.size; omega), (Turn1.ofBelow hB2.out).trans (Turn1.ofBelow HB3.out)⟩
    · have hr := hidF (soloWriteIn S len c lo hi a ms 4 a1 a2 a3 a4 w2 hg2 xS xf hM2.mem (by omega) hn hL)
      simp only [if_true, if_false, deedF, eq_self, reduceIte, Int.reduceEq]
      go_wp2_with (fail)
      refine hr.out.mono ?_
      rintro e w3 ⟨rfl, a', c', e3, M3, T3⟩
      have HM3 := hidF M3
      have HT3 := hidF T3
      replace e3 := hidF e3
      clear M3 T3 hr
      go_wp2
      go_ret
      exact ⟨rfl, a', c', e3.out, HM3.out.wide (by omega) (Nat.le_refl _), (Turn1.ofBelow hB2.out).trans HT3.out⟩
    · have hG : fdG ms (a0, a1, a2, a3, a4) = 0 := by
        unfold fdG
        rw [show ((a0, a1, a2, a3, a4) : A5).1 = a0 from rfl, beq_eq_false_iff_ne.2 (show a0 ≠ 1 by omega), beq_eq_false_iff_ne.2 (show a0 ≠ 2 by omega), beq_eq_false_iff_ne.2 (show a0 ≠ 3 by omega), beq_eq_false_iff_ne.2 (show a0 ≠ 4 by omega)]
        rfl
      have hMs : fdM ms (a0, a1, a2, a3, a4) = ms := by
        unfold fdM
        rw [show ((a0, a1, a2, a3, a4) : A5).1 = a0 from rfl, beq_eq_false_iff_ne.2 (show a0 ≠ 2 by omega), beq_eq_false_iff_ne.2 (show a0 ≠ 4 by omega)]
        rfl
      replace hG := hidF hG
      replace hMs := hidF hMs
      rw [if_neg (by omega), if_neg (by omega), if_neg (by omega), if_neg (by omega), show (decide (1 ≤ a0) && decide (a0 ≤ 4)) = false by simp; omega]
      go_wp2
      go_ret
      exact ⟨by rw [hG.out]; rfl, a, c, xS, by rw [hMs.out]; exact hM2.wide (Nat.le_refl _) (by omega), Turn1.ofBelow hB2.out⟩
    · have hG : fdG ms (a0, a1, a2, a3, a4) = 0 := by
        unfold fdG
        rw [show ((a0, a1, a2, a3, a4) : A5).1 = a0 from rfl, beq_eq_false_iff_ne.2 (show a0 ≠ 1 by omega), beq_eq_false_iff_ne.2 (show a0 ≠ 2 by omega), beq_eq_false_iff_ne.2 (show a0 ≠ 3 by omega), beq_eq_false_iff_ne.2 (show a0 ≠ 4 by omega)]
        rfl
      have hMs : fdM ms (a0, a1, a2, a3, a4) = ms := by
        unfold fdM
        rw [show ((a0, a1, a2, a3, a4) : A5).1 = a0 from rfl, beq_eq_false_iff_ne.2 (show a0 ≠ 2 by omega), beq_eq_false_iff_ne.2 (show a0 ≠ 4 by omega)]
        rfl
      replace hG := hidF hG
      replace hMs := hidF hMs
      rw [if_neg (by omega), if_neg (by omega), if_neg (by omega), if_neg (by omega), show (decide (1 ≤ a0) && decide (a0 ≤ 4)) = false by simp; omega]
      go_wp2
      go_ret
      exact ⟨by rw [hG.out]; rfl, a, c, xS, by rw [hMs.out]; exact hM2.wide (Nat.le_refl _) (by omega), Turn1.ofBelow hB2.out⟩

set_option maxRecDepth 100000 in
set_option maxHeartbeats 4000000 in
theorem implFlatDo (lo hi : Nat) (a : Option Addr) (len cap : Nat) (ms : List (List Int)) (a0 a1 a2 a3 a4 : Int) (w : World) (hg : ErrT w) (h : IsMem w lo hi a len ms) (hh : hi ≤ w.heap.size) (hn : len ≤ 1048576) (hL : ∀ i, i < len → (ms.getD i []).length ≤ 1048576) :
    Calls Tryd.prog 14 #[.slice a len cap, .agg #[.int .i64 a0, .int .i64 a1, .int .i64 a2, .int .i64 a3, .int .i64 a4]] w fun e w' => ∃ a' c, e = .returned (.tuple #[.slice a' len c, .int .i64 (fdG ms (a0, a1, a2, a3, a4))]) ∧ OwnMem w' w.heap.size w'.heap.size a' len (fdM ms (a0, a1, a2, a3, a4)) ∧ Below w.heap.size w w' := by
  obtain ⟨W0, hW0⟩ : ∃ W0, W0 = w.alloc (.cells #[.int .i64 a0, .int .i64 a1, .int .i64 a2, .int .i64 a3, .int .i64 a4] 37) := ⟨_, rfl⟩
  have B0 : Below w.heap.size w W0 := by rw [hW0]; exact (Below.refl _ _).alloc (Nat.le_refl _) _
  have s0 : W0.heap.size = w.heap.size + 1 := by rw [hW0]; simp
  have q : Hid (W0.cell? ⟨w.heap.size, 0, none⟩ = some (.int .i64 a0) ∧ W0.cell? ⟨w.heap.size, 1, none⟩ = some (.int .i64 a1) ∧ W0.cell? ⟨w.heap.size, 2, none⟩ = some (.int .i64 a2) ∧ W0.cell? ⟨w.heap.size, 3, none⟩ = some (.int .i64 a3) ∧ W0.cell? ⟨w.heap.size, 4, none⟩ = some (.int .i64 a4)) := by rw [hW0]; simp [Hid]
  have hc := stays_any lo hi a len cap ms W0 (h.same (below_sameIn B0 hh)) (Nat.le_trans hh B0.size) hn hL
  go_enter Tryd.func14, Tryd.ntmps14
  go_wp2_with (fail)
  rw [← hW0]
  clear hW0
  refine hc.mono ?_
  rintro e w1 ⟨rfl, hM, B1⟩
  have s1 := B1.size
  obtain ⟨q0, q1, q2, q3, q4⟩ := q.out
  have y0 := (B1.cell (p := ⟨w.heap.size, 0, none⟩) (show w.heap.size < W0.heap.size by omega)).trans q0
  have y1 := (B1.cell (p := ⟨w.heap.size, 1, none⟩) (show w.heap.size < W0.heap.size by omega)).trans q1
  have y2 := (B1.cell (p := ⟨w.heap.size, 2, none⟩) (show w.heap.size < W0.heap.size by omega)).trans q2
  have y3 := (B1.cell (p := ⟨w.heap.size, 3, none⟩) (show w.heap.size < W0.heap.size by omega)).trans q3
  have y4 := (B1.cell (p := ⟨w.heap.size, 4, none⟩) (show w.heap.size < W0.heap.size by omega)).trans q4
  obtain ⟨W2, hW2⟩ : ∃ W2, W2 = w1.alloc (.cells #[.slice (some ⟨W0.heap.size, 0, none⟩) len len] 88) := ⟨_, rfl⟩
  have B2 : Below w1.heap.size w1 W2 := by rw [hW2]; exact (Below.refl _ _).alloc (Nat.le_refl _) _
  have cS : W2.cell? ⟨w1.heap.size, 0, none⟩ = some (.slice (some ⟨W0.heap.size, 0, none⟩) len len) := by rw [hW2]; simp
  have fS : W2.frozen? ⟨w1.heap.size, 0, none⟩ = false := by rw [hW2]; simp
  have hBw : Below w.heap.size w W2 := B0.trans ((B1.trans (B2.mono s1)).mono B0.size)
  have s2 := B2.size
  have hdo := hidF (soloDo w1.heap.size len len W0.heap.size w1.heap.size _ ms a0 a1 a2 a3 a4 W2 (hg.on hBw) cS fS (hM.same (below_sameIn B2 (Nat.le_refl _))) (Nat.le_refl _) (by omega) hn hL)
  have HBw := hidF hBw
  have lw : w.heap.size < w1.heap.size := by omega
  rw [s0] at hW2
  clear hc q q0 q1 q2 q3 q4 hM B1 B2 cS fS hBw h hg hL B0
  go_wp2_with (fail)
  rw [← hW2]
  clear hW2 y0 y1 y2 y3 y4
  refine hdo.out.mono ?_
  rintro e w3 ⟨rfl, a', c', e3, M3, T3⟩
  have HM3 := hidF M3
  have HT3 := hidF T3
  clear M3 T3 hdo
  go_wp2
  refine bodyPost_ret (v := .tuple #[.slice a' len c', .int .i64 (fdG ms (a0, a1, a2, a3, a4))]) (by simp [results, Tryd.results14, go_sem]) rfl ?_
  exact ⟨a', c', rfl, HM3.out.wide (by omega) (Nat.le_refl _), HT3.out.below HBw.out (by omega) (by omega)⟩
end Go.Proofs.YteelpikhijkmdaaDoor
