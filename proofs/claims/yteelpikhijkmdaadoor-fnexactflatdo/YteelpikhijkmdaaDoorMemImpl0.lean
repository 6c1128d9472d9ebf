/-
  What the program's own functions on memory do.
-/
import Derived.Test.YteelpikhijkmdaaDoorMem0
import Derived.Laws.IdiomCopy
namespace Go.Proofs.YteelpikhijkmdaaDoor
open Go.RowKit

set_option maxHeartbeats 400000 in
theorem implWordOk (z : Int) (w : World) :
    Calls Tryd.prog 59 #[.int .i64 z] w fun e w' => e = .returned (.bool (okZ z)) ∧ w' = w := by
  by_cases h0 : 0 ≤ z
  · by_cases h1 : z ≤ 63
    · rw [show okZ z = true by simp [okZ, h0, h1]]
      go_enter Tryd.func59, Tryd.ntmps59
      go_wp2
      go_ret
      exact ⟨rfl, rfl⟩
    · rw [show okZ z = false by simp [okZ, h1]]
      go_enter Tryd.func59, Tryd.ntmps59
      go_wp2
      go_ret
      exact ⟨rfl, rfl⟩
  · rw [show okZ z = false by simp [okZ, h0]]
    go_enter Tryd.func59, Tryd.ntmps59
    go_wp2
    go_ret
    exact ⟨rfl, rfl⟩

/-- A page as a value. -/
def pageV (zs : List Int) : Value := .agg #[.int .i64 (zs.getD 0 0), .int .i64 (zs.getD 1 0), .int .i64 (zs.getD 2 0), .int .i64 (zs.getD 3 0)]

set_option maxHeartbeats 1000000 in
theorem sheetOf_len (a : Option Addr) (len cap : Nat) (w : World) (h : ((len : Int) == 4) = false) :
    Calls Tryd.prog 61 #[.slice a len cap] w fun e w' => e = .returned (.tuple #[pageV [], .bool false]) ∧ Below w.heap.size w w' := by
  go_enter Tryd.func61, Tryd.ntmps61
  go_wp2
  refine bodyPost_ret (v := .tuple #[pageV [], .bool false]) (by simp [results, Tryd.results61, go_sem, pageV]) rfl ⟨rfl, ?_⟩
  (repeat' (with_reducible (first | exact Below.refl _ _ | apply Below.setCell | apply Below.alloc | apply below_drewN | apply Below.drew))) <;> (first | exact Nat.le_refl _ | (simp; done) | (simp; omega))

theorem room_four (w : World) (t : TypeId) : Room (w.alloc (.cells #[.int .i64 0, .int .i64 0, .int .i64 0, .int .i64 0] t)) w.heap.size 4 := by
  intro j hj
  match j, hj with
  | 0, _ => exact ⟨⟨_, by simp; rfl⟩, by simp⟩
  | 1, _ => exact ⟨⟨_, by simp; rfl⟩, by simp⟩
  | 2, _ => exact ⟨⟨_, by simp; rfl⟩, by simp⟩
  | 3, _ => exact ⟨⟨_, by simp; rfl⟩, by simp⟩

set_option maxHeartbeats 1000000 in
theorem sheetOf_four (b o cap : Nat) (zs : List Int) (w : World) (hl : zs.length = 4) (hb : b < w.heap.size) (hc : Ints w b o zs) :
    Calls Tryd.prog 61 #[.slice (some ⟨b, o, none⟩) 4 cap] w fun e w' => e = .returned (bif zs.all okZ then .tuple #[pageV zs, .bool true] else .tuple #[pageV [], .bool false]) ∧ Below w.heap.size w w' := by
  go_enter Tryd.func61, Tryd.ntmps61
  go_wp2
  go_loopw [5, 6, 13] (fun _ _ i wr => ∃ k : Nat, k ≤ 4 ∧ i = .int .i64 k ∧ Hid ((zs.take k).all okZ = true) ∧ Hid (Ints wr (w.heap.size + 1) 0 (zs.take k)) ∧ Hid (Room wr (w.heap.size + 1) 4) ∧ Hid (Room wr w.heap.size 4) ∧ w.heap.size + 1 < wr.heap.size ∧ Below w.heap.size w wr) (fun _ _ i _ => 4 - (intOf i).toNat)
  case atStart =>
    refine ⟨0, Nat.zero_le _, rfl, rfl, fun i hi => by simp at hi, ?_, ?_, by simp, ?_⟩
    · have := room_four (w.alloc (.cells #[.int .i64 0, .int .i64 0, .int .i64 0, .int .i64 0] 64)) 64
      simp at this
      exact this
    · exact (room_four w 64).below ((Below.refl _ _).alloc (Nat.le_refl _) _) (by simp)
    · (repeat' (with_reducible (first | exact Below.refl _ _ | apply Below.setCell | apply Below.alloc | apply below_drewN | apply Below.drew))) <;> (first | exact Nat.le_refl _ | (simp; done) | (simp; omega))
  case round =>
    obtain ⟨k, hk, rfl, hok, hE, hR, hR0, hlt, hB⟩ := hrel
    by_cases hk4 : k < 4
    · have q := hc k (by omega)
      generalize hG : zs.getD k 0 = z at q
      have c := (hB.cell (p := ⟨b, o + k, none⟩) hb).trans q
      have HG : Hid (zs.getD k 0 = z) := hG
      have hlt' : k < zs.length := by omega
      have hg : zs[k] = z := by rw [← hG, getD_lt hlt']
      have hki : (k : Int) < 4 := by omega
      clear hG q
      cases hO : okZ z
      · have HF : Hid (zs.all okZ = false) := all_no hlt' (by rw [hg]; exact hO)
        obtain ⟨⟨u0, d0⟩, f0⟩ := hR0.out 0 (by omega)
        obtain ⟨⟨u1, d1⟩, f1⟩ := hR0.out 1 (by omega)
        obtain ⟨⟨u2, d2⟩, f2⟩ := hR0.out 2 (by omega)
        obtain ⟨⟨u3, d3⟩, f3⟩ := hR0.out 3 (by omega)
        clear hg hok hR hE
        go_wp2_with (go_at_call 59; refine (implWordOk _ _).mono ?_; rintro e w' ⟨rfl, rfl⟩; rw [hO])
        refine bodyPost_ret (v := .tuple #[pageV [], .bool false]) (by simp [results, Tryd.results61, go_sem, pageV, *]) rfl ⟨by rw [HF.out]; rfl, ?_⟩
        (repeat' (with_reducible (first | exact Below.refl _ _ | apply Below.setCell | apply Below.alloc | apply below_drewN | apply Below.drew | refine Below.trans ?_ (Below.mono (by assumption) ?_)))) <;> (first | exact Nat.le_refl _ | (simp; done) | (simp; omega) | (simp at *; omega))
      · have HT : Hid ((zs.take (k + 1)).all okZ = true) := all_more hlt' hok.out (by rw [hg]; exact hO)
        obtain ⟨⟨u0, d0⟩, f0⟩ := hR.out k (by omega)
        clear hg hok
        go_wp2_with (go_at_call 59; refine (implWordOk _ _).mono ?_; rintro e w' ⟨rfl, rfl⟩; rw [hO])
        go_roundw
        case rel =>
          refine ⟨k + 1, by omega, by go_num, HT, ints_put hR.out hE.out hlt' (by omega) HG.out, hR.out.put _, fun j hj => ?_, by simpa using hlt, ?_⟩
          · rw [cell_off (by omega), frozen_put]; exact hR0.out j hj
          · (repeat' (with_reducible (first | exact Below.refl _ _ | apply Below.setCell | apply Below.alloc | apply below_drewN | apply Below.drew | refine Below.trans ?_ (Below.mono (by assumption) ?_)))) <;> (first | exact Nat.le_refl _ | (simp; done) | (simp; omega) | (simp at *; omega))
        case measure => simp [intOf]; omega
    · have hkk : k = 4 := by omega
      subst hkk
      have HA : Hid (zs.all okZ = true) := by
        have := hok.out
        rwa [List.take_of_length_le (by omega)] at this
      have hE' := hE.out
      rw [List.take_of_length_le (by omega)] at hE'
      have e0 := hE' 0 (by omega)
      have e1 := hE' 1 (by omega)
      have e2 := hE' 2 (by omega)
      have e3 := hE' 3 (by omega)
      simp only [Nat.zero_add] at e0 e1 e2 e3
      obtain ⟨⟨u0, d0⟩, f0⟩ := hR0.out 0 (by omega)
      obtain ⟨⟨u1, d1⟩, f1⟩ := hR0.out 1 (by omega)
      obtain ⟨⟨u2, d2⟩, f2⟩ := hR0.out 2 (by omega)
      obtain ⟨⟨u3, d3⟩, f3⟩ := hR0.out 3 (by omega)
      clear hok hE hE' hR
      go_wp2
      refine bodyPost_ret (v := .tuple #[pageV zs, .bool true]) (by simp [results, Tryd.results61, go_sem, pageV, *]) rfl ⟨by rw [HA.out]; rfl, ?_⟩
      (repeat' (with_reducible (first | exact Below.refl _ _ | apply Below.setCell | apply Below.alloc | apply below_drewN | apply Below.drew | refine Below.trans ?_ (Below.mono (by assumption) ?_)))) <;> (first | exact Nat.le_refl _ | (simp; done) | (simp; omega) | (simp at *; omega))

theorem sheetOf_any (lo hi : Nat) (a : Option Addr) (len cap : Nat) (zs : List Int) (w : World) (h : IsInts w lo hi a len zs) (hh : hi ≤ w.heap.size) :
    Calls Tryd.prog 61 #[.slice a len cap] w fun e w' => e = .returned (bif okP zs then .tuple #[pageV zs, .bool true] else .tuple #[pageV [], .bool false]) ∧ Below w.heap.size w w' := by
  obtain ⟨hl, hd⟩ := h
  by_cases h4 : len = 4
  · subst h4
    rcases hd with h0 | ⟨b, o, rfl, _, h2, hc⟩
    · omega
    refine (sheetOf_four b o cap zs w hl (by omega) hc).mono ?_
    rintro e w' ⟨rfl, hB⟩
    exact ⟨by simp [okP, hl], hB⟩
  · refine (sheetOf_len a len cap w (by simp; omega)).mono ?_
    rintro e w' ⟨rfl, hB⟩
    have : okP zs = false := by simp [okP, hl, h4]
    exact ⟨by rw [this]; rfl, hB⟩

theorem infoZ : (Tryd.prog.info? 3).map (fun i => (i.zero, i.size, i.bytes)) = some (some (.int .i64 0), 1, 8) := by kernel_rfl
theorem infoS : (Tryd.prog.info? 56).map (fun i => (i.zero, i.size, i.bytes)) = some (some (.slice none 0 0), 1, 24) := by kernel_rfl
theorem infoP : (Tryd.prog.info? 64).map (fun i => (i.zero, i.size, i.bytes)) = some (some (.agg #[.int .i64 0, .int .i64 0, .int .i64 0, .int .i64 0]), 4, 32) := by kernel_rfl

/-- 'make' of words, of pages as lists, of pages as arrays. -/
theorem make_ints (n : Nat) (hn : n ≤ 1048576) (w : World) :
    (Instr.makeSlice 56 (.int .i64 n) (.int .i64 n)).run Tryd.prog w = .ok (.slice (some ⟨w.heap.size, 0, none⟩) n n) (w.alloc (.cells (madeCells #[.int .i64 0] n) 3)) := by
  obtain ⟨i0, hi, hz0, hz1, hz2⟩ := info_parts infoZ
  have h := run_make (P := Tryd.prog) w 56 3 i0 _ Tryd.underlying56 hi hz0 .i64 .i64 n n (by omega) (by omega) (by rw [hz2]; omega) (by omega)
  rw [hz1] at h
  simpa [Value.cells] using h
theorem make_mems (n : Nat) (hn : n ≤ 1048576) (w : World) :
    (Instr.makeSlice 23 (.int .i64 n) (.int .i64 n)).run Tryd.prog w = .ok (.slice (some ⟨w.heap.size, 0, none⟩) n n) (w.alloc (.cells (madeCells #[.slice none 0 0] n) 56)) := by
  obtain ⟨i0, hi, hz0, hz1, hz2⟩ := info_parts infoS
  have h := run_make (P := Tryd.prog) w 23 56 i0 _ Tryd.underlying23 hi hz0 .i64 .i64 n n (by omega) (by omega) (by rw [hz2]; omega) (by omega)
  rw [hz1] at h
  simpa [Value.cells] using h
theorem make_sheets (n : Nat) (hn : n ≤ 1048576) (w : World) :
    (Instr.makeSlice 59 (.int .i64 n) (.int .i64 n)).run Tryd.prog w = .ok (.slice (some ⟨w.heap.size, 0, none⟩) n n) (w.alloc (.cells (madeCells #[.int .i64 0, .int .i64 0, .int .i64 0, .int .i64 0] (n * 4)) 64)) := by
  obtain ⟨i0, hi, hz0, hz1, hz2⟩ := info_parts infoP
  have h := run_make (P := Tryd.prog) w 59 64 i0 _ Tryd.underlying59 hi hz0 .i64 .i64 n n (by omega) (by omega) (by rw [hz2]; omega) (by omega)
  rw [hz1] at h
  simpa [Value.cells] using h

theorem four_new (w : World) (a b c d : Value) (t : TypeId) : ∀ j u, [a, b, c, d][j]? = some u → (w.alloc (.cells #[a, b, c, d] t)).cell? ((⟨w.heap.size, 0, none⟩ : Addr).add j) = some u := by
  intro j u hj
  match j, hj with
  | 0, hj => simp at hj; subst hj; simp [Addr.add]
  | 1, hj => simp at hj; subst hj; simp [Addr.add]
  | 2, hj => simp at hj; subst hj; simp [Addr.add]
  | 3, hj => simp at hj; subst hj; simp [Addr.add]
  | j + 4, hj => simp at hj

theorem ints_four {W : World} {p : Nat} (hR : Room W p 4) (z0 z1 z2 z3 : Int) :
    Ints ((((W.setCell ⟨p, 0, none⟩ (.int .i64 z0)).setCell ⟨p, 1, none⟩ (.int .i64 z1)).setCell ⟨p, 2, none⟩ (.int .i64 z2)).setCell ⟨p, 3, none⟩ (.int .i64 z3)) p 0 [z0, z1, z2, z3] := by
  have h0 : Ints W p 0 ([z0, z1, z2, z3].take 0) := fun i hi => by simp at hi
  have h1 := ints_put (k := 0) hR h0 (by simp) (by omega) (z := z0) rfl
  have h2 := ints_put (k := 1) (hR.put _) h1 (by simp) (by omega) (z := z1) rfl
  have h3 := ints_put (k := 2) ((hR.put _).put _) h2 (by simp) (by omega) (z := z2) rfl
  exact ints_put (k := 3) (((hR.put _).put _).put _) h3 (by simp) (by omega) (z := z3) rfl

set_option maxHeartbeats 1000000 in
theorem sheetWords (z0 z1 z2 z3 : Int) (w : World) :
    Calls Tryd.prog 66 #[.agg #[.int .i64 z0, .int .i64 z1, .int .i64 z2, .int .i64 z3]] w fun e w' => ∃ p, e = .returned (.slice (some ⟨p, 0, none⟩) 4 4) ∧ w.heap.size ≤ p ∧ p < w'.heap.size ∧ Ints w' p 0 [z0, z1, z2, z3] ∧ Room w' p 4 ∧ Below w.heap.size w w' := by
  have hmk : ∀ w : World, (Instr.makeSlice 56 (.int .i64 4) (.int .i64 4)).run Tryd.prog w = .ok (.slice (some ⟨w.heap.size, 0, none⟩) 4 4) (w.alloc (.cells (madeCells #[.int .i64 0] 4) 3)) := fun w => make_ints 4 (by omega) w
  obtain ⟨W, hW⟩ : ∃ W, W = (w.alloc (.cells #[.int .i64 z0, .int .i64 z1, .int .i64 z2, .int .i64 z3] 64)).alloc (.cells (madeCells #[.int .i64 0] 4) 3) := ⟨_, rfl⟩
  have hR : Room W (w.heap.size + 1) 4 := by
    have := room_made (w.alloc (.cells #[.int .i64 z0, .int .i64 z1, .int .i64 z2, .int .i64 z3] 64)) #[.int .i64 0] 4 3
    rw [hW]
    simpa using this
  have hcp : (Builtin.copy_ #[56, 56] 3 #[.slice (some ⟨w.heap.size + 1, 0, none⟩) 4 4, .slice (some ⟨w.heap.size, 0, none⟩) 4 4]).run Tryd.prog W = .ok (goInt 4) ((((W.setCell ⟨w.heap.size + 1, 0, none⟩ (.int .i64 z0)).setCell ⟨w.heap.size + 1, 1, none⟩ (.int .i64 z1)).setCell ⟨w.heap.size + 1, 2, none⟩ (.int .i64 z2)).setCell ⟨w.heap.size + 1, 3, none⟩ (.int .i64 z3)) := by
    refine run_copy_cells W 56 56 3 3 (w.heap.size + 1) 0 4 4 ⟨w.heap.size, 0, none⟩ 4 4 [.int .i64 z0, .int .i64 z1, .int .i64 z2, .int .i64 z3] Tryd.underlying56 (by kernel_rfl) rfl ?_ (fun j hj => ?_) (fun j hj => ?_) (by simp [Value.oneCell'])
    · intro j u hj
      have h1 := four_new w (.int .i64 z0) (.int .i64 z1) (.int .i64 z2) (.int .i64 z3) 64 j u hj
      have hB : Below (w.heap.size + 1) (w.alloc (.cells #[.int .i64 z0, .int .i64 z1, .int .i64 z2, .int .i64 z3] 64)) W := by
        rw [hW]
        exact (Below.refl _ _).alloc (by simp) _
      have e : (⟨w.heap.size, 0, none⟩ : Addr).add j = ⟨w.heap.size, j, none⟩ := by by_cases h : j = 0 <;> simp [Addr.add, h]
      rw [e] at h1 ⊢
      rw [hB.cell (p := ⟨w.heap.size, j, none⟩) (by simp)]
      exact h1
    · obtain ⟨⟨v, hv⟩, _⟩ := hR j (by simpa using hj)
      simp [hv]
    · have := (hR j (by simpa using hj)).2
      simpa using this
  have hI := ints_four hR z0 z1 z2 z3
  have hR' := (((hR.put (j := 0) (.int .i64 z0)).put (j := 1) (.int .i64 z1)).put (j := 2) (.int .i64 z2)).put (j := 3) (.int .i64 z3)
  have hB : Below w.heap.size w ((((W.setCell ⟨w.heap.size + 1, 0, none⟩ (.int .i64 z0)).setCell ⟨w.heap.size + 1, 1, none⟩ (.int .i64 z1)).setCell ⟨w.heap.size + 1, 2, none⟩ (.int .i64 z2)).setCell ⟨w.heap.size + 1, 3, none⟩ (.int .i64 z3)) := by
    rw [hW]
    (repeat' (with_reducible (first | exact Below.refl _ _ | apply Below.setCell | apply Below.alloc | apply below_drewN | apply Below.drew))) <;> (first | exact Nat.le_refl _ | (simp; done) | (simp; omega))
  have hS : w.heap.size + 1 < ((((W.setCell ⟨w.heap.size + 1, 0, none⟩ (.int .i64 z0)).setCell ⟨w.heap.size + 1, 1, none⟩ (.int .i64 z1)).setCell ⟨w.heap.size + 1, 2, none⟩ (.int .i64 z2)).setCell ⟨w.heap.size + 1, 3, none⟩ (.int .i64 z3)).heap.size := by
    rw [hW]
    simp
  generalize hV : ((((W.setCell ⟨w.heap.size + 1, 0, none⟩ (.int .i64 z0)).setCell ⟨w.heap.size + 1, 1, none⟩ (.int .i64 z1)).setCell ⟨w.heap.size + 1, 2, none⟩ (.int .i64 z2)).setCell ⟨w.heap.size + 1, 3, none⟩ (.int .i64 z3)) = V at hcp hI hR' hB hS
  rw [hW] at hcp
  clear hV hW hR
  go_enter Tryd.func66, Tryd.ntmps66
  go_wp2
  go_ret
  exact ⟨_, rfl, by omega, hS, hI, hR', hB⟩
end Go.Proofs.YteelpikhijkmdaaDoor
