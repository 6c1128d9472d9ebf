/-
  What the program's own functions on memory do.
-/
import Derived.Test.YtjegndgdpmlbaaaKOA
import Derived.Laws.IdiomCopy
namespace Go.Proofs.Ytjegndgdpmlbaaa
open Go.RowKit

set_option maxHeartbeats 400000 in
theorem implWordOk (z : Int) (w : World) :
    Calls Try.prog 102 #[.int .i64 z] w fun e w' => e = .returned (.bool (okZ z)) ∧ w' = w := by
  by_cases h0 : 0 ≤ z
  · by_cases h1 : z ≤ 63
    · rw [show okZ z = true by simp [okZ, h0, h1]]
      go_enter Try.func102, Try.ntmps102
      go_wp2
      go_ret
      exact ⟨rfl, rfl⟩
    · rw [show okZ z = false by simp [okZ, h1]]
      go_enter Try.func102, Try.ntmps102
      go_wp2
      go_ret
      exact ⟨rfl, rfl⟩
  · rw [show okZ z = false by simp [okZ, h0]]
    go_enter Try.func102, Try.ntmps102
    go_wp2
    go_ret
    exact ⟨rfl, rfl⟩

/-- A page as a value. -/
def pageV (zs : List Int) : Value := .agg #[.int .i64 (zs.getD 0 0), .int .i64 (zs.getD 1 0), .int .i64 (zs.getD 2 0), .int .i64 (zs.getD 3 0)]

set_option maxHeartbeats 1000000 in
theorem sheetOf_len (a : Option Addr) (len cap : Nat) (w : World) (h : ((len : Int) == 4) = false) :
    Calls Try.prog 84 #[.slice a len cap] w fun e w' => e = .returned (.tuple #[pageV [], .bool false]) ∧ Below w.heap.size w w' := by
  go_enter Try.func84, Try.ntmps84
  go_wp2
  refine bodyPost_ret (v := .tuple #[pageV [], .bool false]) (by simp [results, Try.results84, go_sem, pageV]) rfl ⟨rfl, ?_⟩
  (repeat' (with_reducible (first | exact Below.refl _ _ | apply Below.setCell | apply Below.alloc | apply below_drewN | apply Below.drew))) <;> (first | exact Nat.le_refl _ | (simp; done) | (simp; omega))

theorem room_four (w : World) (t : TypeId) : Room (w.alloc (.cells #[.int .i64 0, .int .i64 0, .int .i64 0, .int .i64 0] t)) w.heap.size 4 := by
  intro j hj
  match j, hj with
  | 0, _ => exact ⟨⟨_, by simp; rfl⟩, by simp⟩
  | 1, _ => exact ⟨⟨_, by simp; rfl⟩, by simp⟩
  | 2, _ => exact ⟨⟨_, by simp; rfl⟩, by simp⟩
  | 3, _ => exact ⟨⟨_, by simp; rfl⟩, by simp⟩

set_option maxHeartbeats 1000000 in
theorem sheetOf_four (b o cap : Nat) (zs : List Int) (w : World) (hl : zs.length = 4) (hb : b < w.heap.size) (hc : Ints w b o zs) :
    Calls Try.prog 84 #[.slice (some ⟨b, o, none⟩) 4 cap] w fun e w' => e = .returned (bif zs.all okZ then .tuple #[pageV zs, .bool true] else .tuple #[pageV [], .bool false]) ∧ Below w.heap.size w w' := by
  go_enter Try.func84, Try.ntmps84
  go_wp2
  go_loopw [5, 6, 13] (fun _ _ i wr => ∃ k : Nat, k ≤ 4 ∧ i = .int .i64 k ∧ Hid ((zs.take k).all okZ = true) ∧ Hid (Ints wr (w.heap.size + 1) 0 (zs.take k)) ∧ Hid (Room wr (w.heap.size + 1) 4) ∧ Hid (Room wr w.heap.size 4) ∧ w.heap.size + 1 < wr.heap.size ∧ Below w.heap.size w wr) (fun _ _ i _ => 4 - (intOf i).toNat)
  case atStart =>
    refine ⟨0, Nat.zero_le _, rfl, rfl, fun i hi => by simp at hi, ?_, ?_, by simp, ?_⟩
    · have := room_four (w.alloc (.cells #[.int .i64 0, .int .i64 0, .int .i64 0, .int .i64 0] 56)) 56
      simp at this
      exact this
    · exact (room_four w 56).below ((Below.refl _ _).alloc (Nat.le_refl _) _) (by simp)
    · (repeat' (with_reducible (first | exact Below.refl _ _ | apply Below.setCell | apply Below.alloc | apply below_drewN | apply Below.drew))) <;> (first | exact Nat.le_refl _ | (simp; done) | (simp; omega))
  case round =>
    obtain ⟨k, hk, rfl, hok, hE, hR, hR0, hlt, hB⟩ := hrel
    by_cases hk4 : k < 4
    · have q := hc k (by omega)
      generalize hG : zs.getD k 0 = z at q
      have c := (hB.cell (p := ⟨b, o + k, none⟩) hb).trans q
      have HG : Hid (zs.getD k 0 = z) := hG
      have hlt' : k < zs.length := by omega
      have hg : zs[k] = z := by rw [← hG, getD_lt hlt']
      have hki : (k : Int) < 4 := by omega
      clear hG q
      cases hO : okZ z
      · have HF : Hid (zs.all okZ = false) := all_no hlt' (by rw [hg]; exact hO)
        obtain ⟨⟨u0, d0⟩, f0⟩ := hR0.out 0 (by omega)
        obtain ⟨⟨u1, d1⟩, f1⟩ := hR0.out 1 (by omega)
        obtain ⟨⟨u2, d2⟩, f2⟩ := hR0.out 2 (by omega)
        obtain ⟨⟨u3, d3⟩, f3⟩ := hR0.out 3 (by omega)
        clear hg hok hR hE
        go_wp2_with (go_at_call 102; refine (implWordOk _ _).mono ?_; rintro e w' ⟨rfl, rfl⟩; rw [hO])
        refine bodyPost_ret (v := .tuple #[pageV [], .bool false]) (by simp [results, Try.results84, go_sem, pageV, *]) rfl ⟨by rw [HF.out]; rfl, ?_⟩
        (repeat' (with_reducible (first | exact Below.refl _ _ | apply Below.setCell | apply Below.alloc | apply below_drewN | apply Below.drew | refine Below.trans ?_ (Below.mono (by assumption) ?_)))) <;> (first | exact Nat.le_refl _ | (simp; done) | (simp; omega) | (simp at *; omega))
      · have HT : Hid ((zs.take (k + 1)).all okZ = true) := all_more hlt' hok.out (by rw [hg]; exact hO)
        obtain ⟨⟨u0, d0⟩, f0⟩ := hR.out k (by omega)
        clear hg hok
        go_wp2_with (go_at_call 102; refine (implWordOk _ _).mono ?_; rintro e w' ⟨rfl, rfl⟩; rw [hO])
        go_roundw
        case rel =>
          refine ⟨k + 1, by omega, by go_num, HT, ints_put hR.out hE.out hlt' (by omega) HG.out, hR.out.put _, fun j hj => ?_, by simpa using hlt, ?_⟩
          · rw [cell_off (by omega), frozen_put]; exact hR0.out j hj
          · (repeat' (with_reducible (first | exact Below.refl _ _ | apply Below.setCell | apply Below.alloc | apply below_drewN | apply Below.drew | refine Below.trans ?_ (Below.mono (by assumption) ?_)))) <;> (first | exact Nat.le_refl _ | (simp; done) | (simp; omega) | (simp at *; omega))
        case measure => simp [intOf]; omega
    · have hkk : k = 4 := by omega
      subst hkk
      have HA : Hid (zs.all okZ = true) := by
        have := hok.out
        rwa [List.take_of_length_le (by omega)] at this
      have hE' := hE.out
      rw [List.take_of_length_le (by omega)] at hE'
      have e0 := hE' 0 (by omega)
      have e1 := hE' 1 (by omega)
      have e2 := hE' 2 (by omega)
      have e3 := hE' 3 (by omega)
      simp only [Nat.zero_add] at e0 e1 e2 e3
      obtain ⟨⟨u0, d0⟩, f0⟩ := hR0.out 0 (by omega)
      obtain ⟨⟨u1, d1⟩, f1⟩ := hR0.out 1 (by omega)
      obtain ⟨⟨u2, d2⟩, f2⟩ := hR0.out 2 (by omega)
      obtain ⟨⟨u3, d3⟩, f3⟩ := hR0.out 3 (by omega)
      clear hok hE hE' hR
      go_wp2
      refine bodyPost_ret (v := .tuple #[pageV zs, .bool true]) (by simp [results, Try.results84, go_sem, pageV, *]) rfl ⟨by rw [HA.out]; rfl, ?_⟩
      (repeat' (with_reducible (first | exact Below.refl _ _ | apply Below.setCell | apply Below.alloc | apply below_drewN | apply Below.drew | refine Below.trans ?_ (Below.mono (by assumption) ?_)))) <;> (first | exact Nat.le_refl _ | (simp; done) | (simp; omega) | (simp at *; omega))

theorem sheetOf_any (lo hi : Nat) (a : Option Addr) (len cap : Nat) (zs : List Int) (w : World) (h : IsInts w lo hi a len zs) (hh : hi ≤ w.heap.size) :
    Calls Try.prog 84 #[.slice a len cap] w fun e w' => e = .returned (bif okP zs then .tuple #[pageV zs, .bool true] else .tuple #[pageV [], .bool false]) ∧ Below w.heap.size w w' := by
  obtain ⟨hl, hd⟩ := h
  by_cases h4 : len = 4
  · subst h4
    rcases hd with h0 | ⟨b, o, rfl, _, h2, hc⟩
    · omega
    refine (sheetOf_four b o cap zs w hl (by omega) hc).mono ?_
    rintro e w' ⟨rfl, hB⟩
    exact ⟨by simp [okP, hl], hB⟩
  · refine (sheetOf_len a len cap w (by simp; omega)).mono ?_
    rintro e w' ⟨rfl, hB⟩
    have : okP zs = false := by simp [okP, hl, h4]
    exact ⟨by rw [this]; rfl, hB⟩

theorem infoZ : (Try.prog.info? 3).map (fun i => (i.zero, i.size, i.bytes)) = some (some (.int .i64 0), 1, 8) := by kernel_rfl
theorem infoS : (Try.prog.info? 41).map (fun i => (i.zero, i.size, i.bytes)) = some (some (.slice none 0 0), 1, 24) := by kernel_rfl
theorem infoP : (Try.prog.info? 56).map (fun i => (i.zero, i.size, i.bytes)) = some (some (.agg #[.int .i64 0, .int .i64 0, .int .i64 0, .int .i64 0]), 4, 32) := by kernel_rfl

/-- 'make' of words, of pages as lists, of pages as arrays. -/
theorem make_ints (n : Nat) (hn : n ≤ 1048576) (w : World) :
    (Instr.makeSlice 41 (.int .i64 n) (.int .i64 n)).run Try.prog w = .ok (.slice (some ⟨w.heap.size, 0, none⟩) n n) (w.alloc (.cells (madeCells #[.int .i64 0] n) 3)) := by
  obtain ⟨i0, hi, hz0, hz1, hz2⟩ := info_parts infoZ
  have h := run_make (P := Try.prog) w 41 3 i0 _ Try.underlying41 hi hz0 .i64 .i64 n n (by omega) (by omega) (by rw [hz2]; omega) (by omega)
  rw [hz1] at h
  simpa [Value.cells] using h
theorem make_mems (n : Nat) (hn : n ≤ 1048576) (w : World) :
    (Instr.makeSlice 23 (.int .i64 n) (.int .i64 n)).run Try.prog w = .ok (.slice (some ⟨w.heap.size, 0, none⟩) n n) (w.alloc (.cells (madeCells #[.slice none 0 0] n) 41)) := by
  obtain ⟨i0, hi, hz0, hz1, hz2⟩ := info_parts infoS
  have h := run_make (P := Try.prog) w 23 41 i0 _ Try.underlying23 hi hz0 .i64 .i64 n n (by omega) (by omega) (by rw [hz2]; omega) (by omega)
  rw [hz1] at h
  simpa [Value.cells] using h
theorem make_sheets (n : Nat) (hn : n ≤ 1048576) (w : World) :
    (Instr.makeSlice 69 (.int .i64 n) (.int .i64 n)).run Try.prog w = .ok (.slice (some ⟨w.heap.size, 0, none⟩) n n) (w.alloc (.cells (madeCells #[.int .i64 0, .int .i64 0, .int .i64 0, .int .i64 0] (n * 4)) 56)) := by
  obtain ⟨i0, hi, hz0, hz1, hz2⟩ := info_parts infoP
  have h := run_make (P := Try.prog) w 69 56 i0 _ Try.underlying69 hi hz0 .i64 .i64 n n (by omega) (by omega) (by rw [hz2]; omega) (by omega)
  rw [hz1] at h
  simpa [Value.cells] using h

theorem four_new (w : World) (a b c d : Value) (t : TypeId) : ∀ j u, [a, b, c, d][j]? = some u → (w.alloc (.cells #[a, b, c, d] t)).cell? ((⟨w.heap.size, 0, none⟩ : Addr).add j) = some u := by
  intro j u hj
  match j, hj with
  | 0, hj => simp at hj; subst hj; simp [Addr.add]
  | 1, hj => simp at hj; subst hj; simp [Addr.add]
  | 2, hj => simp at hj; subst hj; simp [Addr.add]
  | 3, hj => simp at hj; subst hj; simp [Addr.add]
  | j + 4, hj => simp at hj

theorem ints_four {W : World} {p : Nat} (hR : Room W p 4) (z0 z1 z2 z3 : Int) :
    Ints ((((W.setCell ⟨p, 0, none⟩ (.int .i64 z0)).setCell ⟨p, 1, none⟩ (.int .i64 z1)).setCell ⟨p, 2, none⟩ (.int .i64 z2)).setCell ⟨p, 3, none⟩ (.int .i64 z3)) p 0 [z0, z1, z2, z3] := by
  have h0 : Ints W p 0 ([z0, z1, z2, z3].take 0) := fun i hi => by simp at hi
  have h1 := ints_put (k := 0) hR h0 (by simp) (by omega) (z := z0) rfl
  have h2 := ints_put (k := 1) (hR.put _) h1 (by simp) (by omega) (z := z1) rfl
  have h3 := ints_put (k := 2) ((hR.put _).put _) h2 (by simp) (by omega) (z := z2) rfl
  exact ints_put (k := 3) (((hR.put _).put _).put _) h3 (by simp) (by omega) (z := z3) rfl

set_option maxHeartbeats 1000000 in
theorem sheetWords (z0 z1 z2 z3 : Int) (w : World) :
    Calls Try.prog 82 #[.agg #[.int .i64 z0, .int .i64 z1, .int .i64 z2, .int .i64 z3]] w fun e w' => ∃ p, e = .returned (.slice (some ⟨p, 0, none⟩) 4 4) ∧ w.heap.size ≤ p ∧ p < w'.heap.size ∧ Ints w' p 0 [z0, z1, z2, z3] ∧ Room w' p 4 ∧ Below w.heap.size w w' := by
  have hmk : ∀ w : World, (Instr.makeSlice 41 (.int .i64 4) (.int .i64 4)).run Try.prog w = .ok (.slice (some ⟨w.heap.size, 0, none⟩) 4 4) (w.alloc (.cells (madeCells #[.int .i64 0] 4) 3)) := fun w => make_ints 4 (by omega) w
  obtain ⟨W, hW⟩ : ∃ W, W = (w.alloc (.cells #[.int .i64 z0, .int .i64 z1, .int .i64 z2, .int .i64 z3] 56)).alloc (.cells (madeCells #[.int .i64 0] 4) 3) := ⟨_, rfl⟩
  have hR : Room W (w.heap.size + 1) 4 := by
    have := room_made (w.alloc (.cells #[.int .i64 z0, .int .i64 z1, .int .i64 z2, .int .i64 z3] 56)) #[.int .i64 0] 4 3
    rw [hW]
    simpa using this
  have hcp : (Builtin.copy_ #[41, 41] 3 #[.slice (some ⟨w.heap.size + 1, 0, none⟩) 4 4, .slice (some ⟨w.heap.size, 0, none⟩) 4 4]).run Try.prog W = .ok (goInt 4) ((((W.setCell ⟨w.heap.size + 1, 0, none⟩ (.int .i64 z0)).setCell ⟨w.heap.size + 1, 1, none⟩ (.int .i64 z1)).setCell ⟨w.heap.size + 1, 2, none⟩ (.int .i64 z2)).setCell ⟨w.heap.size + 1, 3, none⟩ (.int .i64 z3)) := by
    refine run_copy_cells W 41 41 3 3 (w.heap.size + 1) 0 4 4 ⟨w.heap.size, 0, none⟩ 4 4 [.int .i64 z0, .int .i64 z1, .int .i64 z2, .int .i64 z3] Try.underlying41 (by kernel_rfl) rfl ?_ (fun j hj => ?_) (fun j hj => ?_) (by simp [Value.oneCell'])
    · intro j u hj
      have h1 := four_new w (.int .i64 z0) (.int .i64 z1) (.int .i64 z2) (.int .i64 z3) 56 j u hj
      have hB : Below (w.heap.size + 1) (w.alloc (.cells #[.int .i64 z0, .int .i64 z1, .int .i64 z2, .int .i64 z3] 56)) W := by
        rw [hW]
        exact (Below.refl _ _).alloc (by simp) _
      have e : (⟨w.heap.size, 0, none⟩ : Addr).add j = ⟨w.heap.size, j, none⟩ := by by_cases h : j = 0 <;> simp [Addr.add, h]
      rw [e] at h1 ⊢
      rw [hB.cell (p := ⟨w.heap.size, j, none⟩) (by simp)]
      exact h1
    · obtain ⟨⟨v, hv⟩, _⟩ := hR j (by simpa using hj)
      simp [hv]
    · have := (hR j (by simpa using hj)).2
      simpa using this
  have hI := ints_four hR z0 z1 z2 z3
  have hR' := (((hR.put (j := 0) (.int .i64 z0)).put (j := 1) (.int .i64 z1)).put (j := 2) (.int .i64 z2)).put (j := 3) (.int .i64 z3)
  have hB : Below w.heap.size w ((((W.setCell ⟨w.heap.size + 1, 0, none⟩ (.int .i64 z0)).setCell ⟨w.heap.size + 1, 1, none⟩ (.int .i64 z1)).setCell ⟨w.heap.size + 1, 2, none⟩ (.int .i64 z2)).setCell ⟨w.heap.size + 1, 3, none⟩ (.int .i64 z3)) := by
    rw [hW]
    (repeat' (with_reducible (first | exact Below.refl _ _ | apply Below.setCell | apply Below.alloc | apply below_drewN | apply Below.drew))) <;> (first | exact Nat.le_refl _ | (simp; done) | (simp; omega))
  have hS : w.heap.size + 1 < ((((W.setCell ⟨w.heap.size + 1, 0, none⟩ (.int .i64 z0)).setCell ⟨w.heap.size + 1, 1, none⟩ (.int .i64 z1)).setCell ⟨w.heap.size + 1, 2, none⟩ (.int .i64 z2)).setCell ⟨w.heap.size + 1, 3, none⟩ (.int .i64 z3)).heap.size := by
    rw [hW]
    simp
  generalize hV : ((((W.setCell ⟨w.heap.size + 1, 0, none⟩ (.int .i64 z0)).setCell ⟨w.heap.size + 1, 1, none⟩ (.int .i64 z1)).setCell ⟨w.heap.size + 1, 2, none⟩ (.int .i64 z2)).setCell ⟨w.heap.size + 1, 3, none⟩ (.int .i64 z3)) = V at hcp hI hR' hB hS
  rw [hW] at hcp
  clear hV hW hR
  go_enter Try.func82, Try.ntmps82
  go_wp2
  go_ret
  exact ⟨_, rfl, by omega, hS, hI, hR', hB⟩
end Go.Proofs.Ytjegndgdpmlbaaa

/-
  What the program's own reading of memory into arrays, and its handing out of it, do.
-/
namespace Go.Proofs.Ytjegndgdpmlbaaa
open Go.RowKit

/-- Pages as arrays, one behind the other. -/
def Sheets (w : World) (b : Nat) (ms : List (List Int)) : Prop := ∀ i, i < ms.length →
  w.cell? ⟨b, i * 4, none⟩ = some (.int .i64 ((ms.getD i []).getD 0 0)) ∧ w.cell? ⟨b, i * 4 + 1, none⟩ = some (.int .i64 ((ms.getD i []).getD 1 0)) ∧
  w.cell? ⟨b, i * 4 + 2, none⟩ = some (.int .i64 ((ms.getD i []).getD 2 0)) ∧ w.cell? ⟨b, i * 4 + 3, none⟩ = some (.int .i64 ((ms.getD i []).getD 3 0))
theorem Sheets.below {N : Nat} {w w' : World} {b : Nat} {ms : List (List Int)} (h : Sheets w b ms) (hb : Below N w w') (hN : b < N) : Sheets w' b ms := fun i hi =>
  ⟨(hb.cell (p := ⟨b, i * 4, none⟩) hN).trans (h i hi).1, (hb.cell (p := ⟨b, i * 4 + 1, none⟩) hN).trans (h i hi).2.1, (hb.cell (p := ⟨b, i * 4 + 2, none⟩) hN).trans (h i hi).2.2.1, (hb.cell (p := ⟨b, i * 4 + 3, none⟩) hN).trans (h i hi).2.2.2⟩

/-- One page more is written. -/
theorem sheets_put {w : World} {b n k : Nat} {ms : List (List Int)} (hR : Room w b n) (hE : Sheets w b (ms.take k)) (hk : k < ms.length) (hn : k * 4 + 3 < n) {z0 z1 z2 z3 : Int} (hg : ms.getD k [] = [z0, z1, z2, z3]) :
    Sheets ((((w.setCell ⟨b, k * 4, none⟩ (.int .i64 z0)).setCell ⟨b, k * 4 + 1, none⟩ (.int .i64 z1)).setCell ⟨b, k * 4 + 2, none⟩ (.int .i64 z2)).setCell ⟨b, k * 4 + 3, none⟩ (.int .i64 z3)) b (ms.take (k + 1)) := by
  have key : ∀ x v, w.cell? ⟨b, x, none⟩ = some v → ((((w.setCell ⟨b, k * 4, none⟩ (.int .i64 z0)).setCell ⟨b, k * 4 + 1, none⟩ (.int .i64 z1)).setCell ⟨b, k * 4 + 2, none⟩ (.int .i64 z2)).setCell ⟨b, k * 4 + 3, none⟩ (.int .i64 z3)).cell? ⟨b, x, none⟩ =
      some (if x = k * 4 + 3 then .int .i64 z3 else if x = k * 4 + 2 then .int .i64 z2 else if x = k * 4 + 1 then .int .i64 z1 else if x = k * 4 then .int .i64 z0 else v) := fun x v hv => cell_put (cell_put (cell_put (cell_put hv)))
  intro i hi
  simp only [List.length_take] at hi
  have hget : (ms.take (k + 1)).getD i [] = ms.getD i [] := by
    simp only [List.getD_eq_getElem?_getD]
    rw [List.getElem?_take_of_lt (by omega)]
  rw [hget]
  by_cases hik : i = k
  · subst hik
    rw [hg]
    obtain ⟨⟨u0, d0⟩, _⟩ := hR (i * 4) (by omega)
    obtain ⟨⟨u1, d1⟩, _⟩ := hR (i * 4 + 1) (by omega)
    obtain ⟨⟨u2, d2⟩, _⟩ := hR (i * 4 + 2) (by omega)
    obtain ⟨⟨u3, d3⟩, _⟩ := hR (i * 4 + 3) (by omega)
    refine ⟨(key _ _ d0).trans ?_, (key _ _ d1).trans ?_, (key _ _ d2).trans ?_, (key _ _ d3).trans ?_⟩
    · rw [if_neg (by omega), if_neg (by omega), if_neg (by omega), if_pos rfl]; rfl
    · rw [if_neg (by omega), if_neg (by omega), if_pos rfl]; rfl
    · rw [if_neg (by omega), if_pos rfl]; rfl
    · rw [if_pos rfl]; rfl
  · have hi' : i < (ms.take k).length := by simp only [List.length_take]; omega
    obtain ⟨e0, e1, e2, e3⟩ := hE i hi'
    have hget' : (ms.take k).getD i [] = ms.getD i [] := by
      simp only [List.getD_eq_getElem?_getD]
      rw [List.getElem?_take_of_lt (by omega)]
    rw [hget'] at e0 e1 e2 e3
    refine ⟨(key _ _ e0).trans ?_, (key _ _ e1).trans ?_, (key _ _ e2).trans ?_, (key _ _ e3).trans ?_⟩
    all_goals rw [if_neg (by omega), if_neg (by omega), if_neg (by omega), if_neg (by omega)]

/-- What comes of reading memory. -/
def SheetsPost (w : World) (len : Nat) (ms : List (List Int)) (e : Ending) (w' : World) : Prop :=
  (okM ms = true → e = .returned (.tuple #[.slice (some ⟨w.heap.size, 0, none⟩) len len, .bool true]) ∧ Sheets w' w.heap.size ms ∧ Room w' w.heap.size (len * 4) ∧ w.heap.size < w'.heap.size) ∧
  (okM ms = false → e = .returned (.tuple #[.slice none 0 0, .bool false])) ∧ Below w.heap.size w w'

set_option maxHeartbeats 1000000 in
theorem sheetsOf_any (lo hi : Nat) (a : Option Addr) (len cap : Nat) (ms : List (List Int)) (w : World) (h : IsMem w lo hi a len ms) (hh : hi ≤ w.heap.size) (hn : len ≤ 1048576) :
    Calls Try.prog 58 #[.slice a len cap] w fun e w' => SheetsPost w len ms e w' := by
  obtain ⟨hl, hd⟩ := h
  have hmk := make_sheets len hn
  go_enter Try.func58, Try.ntmps58
  go_wp2
  clear hmk
  go_loopw [5, 6, 7, 8, 14] (fun _ _ _ _ i wr => ∃ k : Nat, k ≤ len ∧ i = .int .i64 k ∧ Hid ((ms.take k).all okP = true) ∧ Hid (Sheets wr w.heap.size (ms.take k)) ∧ Hid (Room wr w.heap.size (len * 4)) ∧ w.heap.size < wr.heap.size ∧ Below w.heap.size w wr) (fun _ _ _ _ i _ => len - (intOf i).toNat)
  case atStart => exact ⟨0, Nat.zero_le _, rfl, rfl, fun i hi => by simp at hi, room_made _ _ _ _, by simp, (Below.refl _ _).alloc (Nat.le_refl _) _⟩
  case round =>
    obtain ⟨k, hk, rfl, hok, hE, hR, hlt, hB⟩ := hrel
    by_cases hkl : k < len
    · rcases hd with h0 | ⟨b, o, rfl, hb1, hb2, hc⟩
      · omega
      obtain ⟨a', l, c, q, hI⟩ := hc k hkl
      have hbs : b < w.heap.size := by omega
      have c0 := (hB.cell (p := ⟨b, o + k, none⟩) hbs).trans q
      have hI' : Hid (IsInts wr lo hi a' l (ms.getD k [])) := hI.same (below_sameIn hB hh)
      have hlt' : k < ms.length := by omega
      have hg : ms.getD k [] = ms[k] := getD_lt hlt'
      have hki : (k : Int) < (len : Int) := by omega
      have hhr : hi ≤ wr.heap.size := by omega
      clear q hI hc
      cases hO : okP (ms.getD k [])
      · have HF : Hid (okM ms = false) := all_no (f := okP) hlt' (by rw [← hg]; exact hO)
        clear hg
        go_wp2_with (fail)
        refine (sheetOf_any lo hi a' l c _ _ hI'.out hhr).mono ?_
        rintro e w1 ⟨rfl, B1⟩
        rw [hO]
        unfold pageV
        have hB1 := hB.trans (B1.mono hB.size)
        have h1 := hB1.size
        clear hok hE hR hI'
        go_wp2
        refine bodyPost_ret (v := .tuple #[.slice none 0 0, .bool false]) (by simp [results, Try.results58, go_sem]) rfl ?_
        refine ⟨fun h => (by rw [HF.out] at h; cases h), fun _ => rfl, ?_⟩
        (repeat' (with_reducible (first | exact Below.refl _ _ | apply Below.setCell | apply Below.alloc | apply below_drewN | apply Below.drew | refine Below.trans ?_ (Below.mono (by assumption) ?_)))) <;> (first | exact Nat.le_refl _ | (simp; done) | (simp; omega) | (simp at *; omega))
      · have HT : Hid ((ms.take (k + 1)).all okP = true) := all_more hlt' hok.out (by rw [← hg]; exact hO)
        have hf := okP_four hO
        clear hg hok
        go_wp2_with (fail)
        refine (sheetOf_any lo hi a' l c _ _ hI'.out hhr).mono ?_
        rintro e w1 ⟨rfl, B1⟩
        rw [hO]
        unfold pageV
        have hB1 := hB.trans (B1.mono hB.size)
        have h1 := B1.size
        have R1 : Hid (Room w1 w.heap.size (len * 4)) := hR.out.below B1 hlt
        have E1 : Hid (Sheets w1 w.heap.size (ms.take k)) := hE.out.below B1 hlt
        have HG : Hid (ms.getD k [] = [(ms.getD k []).getD 0 0, (ms.getD k []).getD 1 0, (ms.getD k []).getD 2 0, (ms.getD k []).getD 3 0]) := hf
        generalize (ms.getD k []).getD 0 0 = z0 at HG
        generalize (ms.getD k []).getD 1 0 = z1 at HG
        generalize (ms.getD k []).getD 2 0 = z2 at HG
        generalize (ms.getD k []).getD 3 0 = z3 at HG
        clear hf hI' hE hR
        obtain ⟨⟨u0, d0⟩, f0⟩ := R1.out (k * 4) (by omega)
        obtain ⟨⟨u1, d1⟩, f1⟩ := R1.out (k * 4 + 1) (by omega)
        obtain ⟨⟨u2, d2⟩, f2⟩ := R1.out (k * 4 + 2) (by omega)
        obtain ⟨⟨u3, d3⟩, f3⟩ := R1.out (k * 4 + 3) (by omega)
        have hlt1 : w.heap.size < w1.heap.size := by omega
        have hlt2 : w.heap.size < w1.heap.size + 1 := by omega
        go_wp2
        go_roundw
        case rel =>
          have hs3 : w.heap.size < ((((w1.setCell ⟨w.heap.size, k * 4, none⟩ (.int .i64 z0)).setCell ⟨w.heap.size, k * 4 + 1, none⟩ (.int .i64 z1)).setCell ⟨w.heap.size, k * 4 + 2, none⟩ (.int .i64 z2)).setCell ⟨w.heap.size, k * 4 + 3, none⟩ (.int .i64 z3)).heap.size := by simpa using hlt1
          have b3 : ∀ (W : World) o, Below W.heap.size W (W.alloc o) := fun W o => (Below.refl _ _).alloc (Nat.le_refl _) _
          refine ⟨k + 1, by omega, by go_num, HT, (sheets_put R1.out E1.out hlt' (by omega) HG.out).below (b3 _ _) hs3, ((((R1.out.put _).put _).put _).put _).below (b3 _ _) hs3, by simp; omega, ?_⟩
          (repeat' (with_reducible (first | exact Below.refl _ _ | apply Below.setCell | apply Below.alloc | apply below_drewN | apply Below.drew | refine Below.trans ?_ (Below.mono (by assumption) ?_)))) <;> (first | exact Nat.le_refl _ | (simp; done) | (simp; omega) | (simp at *; omega))
        case measure => simp [intOf]; omega
    · have hkk : k = len := by omega
      have HA : Hid (okM ms = true) := by
        have := hok.out
        rwa [List.take_of_length_le (by omega)] at this
      have HE : Hid (Sheets wr w.heap.size ms) := by
        have := hE.out
        rwa [List.take_of_length_le (by omega)] at this
      clear hE hok
      go_wp2
      refine bodyPost_ret (v := .tuple #[.slice (some ⟨w.heap.size, 0, none⟩) len len, .bool true]) (by simp [results, Try.results58, go_sem]) rfl ?_
      exact ⟨fun _ => ⟨rfl, HE.out, hR.out, hlt⟩, fun h => (by rw [HA.out] at h; cases h), hB⟩

set_option maxHeartbeats 1000000 in
/-- Handing out: each page in a block of its own. -/
theorem memOf_any (b len cap : Nat) (ms : List (List Int)) (w : World) (hl : ms.length = len) (hb : b < w.heap.size) (hS : Sheets w b ms) (h4 : ∀ i, i < len → (ms.getD i []).length = 4) (hn : len ≤ 1048576) :
    Calls Try.prog 55 #[.slice (some ⟨b, 0, none⟩) len cap] w fun e w' => ∃ T, e = .returned (.slice (some ⟨T, 0, none⟩) len len) ∧ OwnMem w' w.heap.size w'.heap.size (some ⟨T, 0, none⟩) len ms ∧ Below w.heap.size w w' := by
  have hmk := make_mems len hn
  go_enter Try.func55, Try.ntmps55
  go_wp2
  clear hmk
  go_loopw [4, 5, 11] (fun _ _ i wr => ∃ k : Nat, k ≤ len ∧ i = .int .i64 k ∧ Hid (OwnUpto wr w.heap.size w.heap.size wr.heap.size k ms) ∧ Hid (Room wr w.heap.size len) ∧ w.heap.size < wr.heap.size ∧ Below w.heap.size w wr) (fun _ _ i _ => len - (intOf i).toNat)
  case atStart => exact ⟨0, Nat.zero_le _, rfl, ⟨fun _ => 0, fun i j h1 h2 => by omega, fun i hi => by omega⟩, room_made _ _ _ _, by simp, (Below.refl _ _).alloc (Nat.le_refl _) _⟩
  case round =>
    obtain ⟨k, hk, rfl, hE, hR, hlt, hB⟩ := hrel
    by_cases hkl : k < len
    · obtain ⟨q0, q1, q2, q3⟩ := hS k (by omega)
      have hf := four (h4 k hkl)
      have HG : Hid (ms.getD k [] = [(ms.getD k []).getD 0 0, (ms.getD k []).getD 1 0, (ms.getD k []).getD 2 0, (ms.getD k []).getD 3 0]) := hf
      generalize (ms.getD k []).getD 0 0 = z0 at HG q0
      generalize (ms.getD k []).getD 1 0 = z1 at HG q1
      generalize (ms.getD k []).getD 2 0 = z2 at HG q2
      generalize (ms.getD k []).getD 3 0 = z3 at HG q3
      have c0 := (hB.cell (p := ⟨b, k * 4, none⟩) hb).trans q0
      have c1 := (hB.cell (p := ⟨b, k * 4 + 1, none⟩) hb).trans q1
      have c2 := (hB.cell (p := ⟨b, k * 4 + 2, none⟩) hb).trans q2
      have c3 := (hB.cell (p := ⟨b, k * 4 + 3, none⟩) hb).trans q3
      have hki : (k : Int) < (len : Int) := by omega
      clear hf q0 q1 q2 q3
      go_wp2_with (fail)
      refine (sheetWords z0 z1 z2 z3 _).mono ?_
      rintro e w1 ⟨p, rfl, hp1, hp2, hI, hRp, B1⟩
      have C1 : Below wr.heap.size wr w1 := Below.trans ((Below.refl _ _).alloc (Nat.le_refl _) _) (B1.mono (by simp))
      have hp0 : wr.heap.size ≤ p := by simp at hp1; omega
      have R1 : Hid (Room w1 w.heap.size len) := hR.out.below C1 hlt
      have hlt1 : w.heap.size < w1.heap.size := Nat.lt_of_lt_of_le hlt C1.size
      have hB1 := hB.trans (C1.mono hB.size)
      obtain ⟨⟨u0, d0⟩, f0⟩ := R1.out k hkl
      have HI : Hid (Ints w1 p 0 [z0, z1, z2, z3]) := hI
      have HRp : Hid (Room w1 p 4) := hRp
      clear hI hRp c0 c1 c2 c3 hp1 B1
      go_wp2
      go_roundw
      case rel =>
        obtain ⟨⟨v0, e0⟩, g0⟩ := hR.out k hkl
        refine ⟨k + 1, by omega, by go_num, ?_, R1.out.put _, by simpa using hlt1, ?_⟩
        · have := OwnUpto.step (c := 4) (l := 4) hE.out (below_sameIn C1 (Nat.le_refl _)) (Nat.le_refl _) hlt hp0 hp2 (by rw [HG.out]; rfl) (by rw [HG.out]; exact HI.out) (fun j hj => (HRp.out j hj).2) e0 g0
          simpa [World.setCell, Hid] using this
        · exact hB1.setCell (p := ⟨w.heap.size, k, none⟩) (Nat.le_refl _) _
      case measure => simp [intOf]; omega
    · have hkk : k = len := by omega
      subst hkk
      clear hR
      go_wp2
      go_ret
      exact ⟨_, rfl, ⟨hl, Or.inr ⟨_, rfl, Nat.le_refl _, hlt, hE.out⟩⟩, hB⟩
end Go.Proofs.Ytjegndgdpmlbaaa

/-
  What the program's own MemNew, MemOk, MemAt, MemWith do.
-/
namespace Go.Proofs.Ytjegndgdpmlbaaa
open Go.RowKit

/-- The word at a place; memory with another word there. -/
def atM (ms : List (List Int)) (p o : Nat) : Int := (ms.getD p []).getD o 0
def putM (ms : List (List Int)) (p o : Nat) (z : Int) : List (List Int) := ms.set p ((ms.getD p []).set o z)
theorem putM_at {ms : List (List Int)} {p : Nat} (o : Nat) (z : Int) (hp : p < ms.length) : (putM ms p o z).getD p [] = (ms.getD p []).set o z := by
  rw [putM, List.getD_eq_getElem?_getD, List.getElem?_set_self hp]; rfl
theorem putM_off {ms : List (List Int)} {p i : Nat} (o : Nat) (z : Int) (h : i ≠ p) : (putM ms p o z).getD i [] = ms.getD i [] := by
  rw [putM, List.getD_eq_getElem?_getD, List.getElem?_set_ne (fun e => h e.symm), ← List.getD_eq_getElem?_getD]

theorem Sheets.at {w : World} {b : Nat} {ms : List (List Int)} (h : Sheets w b ms) {i j : Nat} (hi : i < ms.length) (hj : j < 4) : w.cell? ⟨b, i * 4 + j, none⟩ = some (.int .i64 (atM ms i j)) := by
  obtain ⟨h0, h1, h2, h3⟩ := h i hi
  match j, hj with
  | 0, _ => exact h0
  | 1, _ => exact h1
  | 2, _ => exact h2
  | 3, _ => exact h3

theorem sheetsOf_no (lo hi : Nat) (a : Option Addr) (len cap : Nat) (ms : List (List Int)) (w : World) (h : IsMem w lo hi a len ms) (hh : hi ≤ w.heap.size) (hn : len ≤ 1048576) (ho : okM ms = false) :
    Calls Try.prog 58 #[.slice a len cap] w fun e w' => e = .returned (.tuple #[.slice none 0 0, .bool false]) ∧ Below w.heap.size w w' :=
  (sheetsOf_any lo hi a len cap ms w h hh hn).mono fun _ _ p => ⟨p.2.1 ho, p.2.2⟩
theorem sheetsOf_yes (lo hi : Nat) (a : Option Addr) (len cap : Nat) (ms : List (List Int)) (w : World) (h : IsMem w lo hi a len ms) (hh : hi ≤ w.heap.size) (hn : len ≤ 1048576) (ho : okM ms = true) :
    Calls Try.prog 58 #[.slice a len cap] w fun e w' => e = .returned (.tuple #[.slice (some ⟨w.heap.size, 0, none⟩) len len, .bool true]) ∧ Sheets w' w.heap.size ms ∧ Room w' w.heap.size (len * 4) ∧ w.heap.size < w'.heap.size ∧ Below w.heap.size w w' :=
  (sheetsOf_any lo hi a len cap ms w h hh hn).mono fun _ _ p => ⟨(p.1 ho).1, (p.1 ho).2.1, (p.1 ho).2.2.1, (p.1 ho).2.2.2, p.2.2⟩

/-- Pages of noughts. -/
def zeroM (n : Nat) : List (List Int) := List.replicate n [0, 0, 0, 0]
theorem zeroM_get {n i : Nat} (h : i < n) : (zeroM n).getD i [] = [0, 0, 0, 0] := by simp [zeroM, List.getD_eq_getElem?_getD, h]

end Go.Proofs.Ytjegndgdpmlbaaa

/-
  What the given functions that ask of memory do.
-/
namespace Go.Proofs.Ytjegndgdpmlbaaa
open Go.RowKit

set_option maxHeartbeats 400000 in
theorem specIn (n l h : Int) (w : World) :
    Calls Try.prog 49 #[.int .i64 n, .int .i64 l, .int .i64 h] w fun e w' => e = .returned (.bool (decide (l ≤ n) && decide (n ≤ h))) ∧ w' = w := by
  by_cases h0 : l ≤ n
  · by_cases h1 : n ≤ h
    · rw [show (decide (l ≤ n) && decide (n ≤ h)) = true by simp [h0, h1]]
      go_enter Try.func49, Try.ntmps49
      go_wp2
      go_ret
      exact ⟨rfl, rfl⟩
    · rw [show (decide (l ≤ n) && decide (n ≤ h)) = false by simp [h1]]
      go_enter Try.func49, Try.ntmps49
      go_wp2
      go_ret
      exact ⟨rfl, rfl⟩
  · rw [show (decide (l ≤ n) && decide (n ≤ h)) = false by simp [h0]]
    go_enter Try.func49, Try.ntmps49
    go_wp2
    go_ret
    exact ⟨rfl, rfl⟩

set_option maxHeartbeats 1000000 in
theorem specPageOk (lo hi : Nat) (a : Option Addr) (len cap : Nat) (zs : List Int) (w : World) (h : IsInts w lo hi a len zs) (hn : len ≤ 1048576) :
    Calls Try.prog 80 #[.slice a len cap] w fun e w' => e = .returned (.bool (okP zs)) ∧ w' = w := by
  obtain ⟨hl, hd⟩ := h
  go_enter Try.func80, Try.ntmps80
  go_wp2
  go_loop [3] (fun i => ∃ k : Nat, k ≤ len ∧ i = .int .i64 k ∧ Hid ((zs.take k).all okZ = true)) (fun i => len - (intOf i).toNat)
  case atStart => exact ⟨0, Nat.zero_le _, rfl, rfl⟩
  case round =>
    obtain ⟨k, hk, rfl, hok⟩ := hrel
    by_cases hkl : k < len
    · rcases hd with h0 | ⟨b, o, rfl, _, _, hc⟩
      · omega
      have c := hc k (by omega)
      have hlt' : k < zs.length := by omega
      have hg : zs.getD k 0 = zs[k] := getD_lt hlt'
      generalize hz : zs.getD k 0 = z at c hg
      have hI := specIn z 0 63
      rw [show (decide (0 ≤ z) && decide (z ≤ 63)) = okZ z from rfl] at hI
      have hki : (k : Int) < (len : Int) := by omega
      clear hc hz
      cases hO : okZ z
      · have HF : Hid (okP zs = false) := by
          have := all_no (f := okZ) hlt' (by rw [← hg]; exact hO)
          show okP zs = false
          simp [okP, this]
        rw [hO] at hI
        clear hg
        go_wp2_with (go_at_call 49; refine (hI _).mono ?_; rintro e w' ⟨rfl, rfl⟩)
        go_ret
        exact ⟨by rw [HF.out]; rfl, rfl⟩
      · have HT : Hid ((zs.take (k + 1)).all okZ = true) := all_more hlt' hok.out (by rw [← hg]; exact hO)
        rw [hO] at hI
        clear hg
        go_wp2_with (go_at_call 49; refine (hI _).mono ?_; rintro e w' ⟨rfl, rfl⟩)
        go_round
        case rel => exact ⟨k + 1, by omega, by go_num, HT⟩
        case measure => simp [intOf]; omega
    · have HA : Hid (okP zs = ((len : Int) == 4)) := by
        have := hok.out
        rw [List.take_of_length_le (by omega)] at this
        show okP zs = _
        rw [okP, this, hl, Bool.true_and]
        by_cases h4 : len = 4
        · subst h4; rfl
        · have : ¬ (len : Int) = 4 := by omega
          rw [beq_eq_false_iff_ne.mpr h4, beq_eq_false_iff_ne.mpr this]
      go_wp2
      go_ret
      exact ⟨by rw [HA.out]; rfl, rfl⟩

set_option maxHeartbeats 1000000 in
theorem specMemOk (lo hi : Nat) (a : Option Addr) (len cap : Nat) (ms : List (List Int)) (w : World) (h : IsMem w lo hi a len ms) (hn : len ≤ 1048576) (hL : ∀ i, i < len → (ms.getD i []).length ≤ 1048576) :
    Calls Try.prog 48 #[.slice a len cap] w fun e w' => e = .returned (.bool (okM ms)) ∧ w' = w := by
  obtain ⟨hl, hd⟩ := h
  go_enter Try.func48, Try.ntmps48
  go_wp2
  go_loop [3] (fun i => ∃ k : Nat, k ≤ len ∧ i = .int .i64 k ∧ Hid ((ms.take k).all okP = true)) (fun i => len - (intOf i).toNat)
  case atStart => exact ⟨0, Nat.zero_le _, rfl, rfl⟩
  case round =>
    obtain ⟨k, hk, rfl, hok⟩ := hrel
    by_cases hkl : k < len
    · rcases hd with h0 | ⟨b, o, rfl, _, _, hc⟩
      · omega
      obtain ⟨a', l, c, q, hI⟩ := hc k hkl
      have hlt' : k < ms.length := by omega
      have hg : ms.getD k [] = ms[k] := getD_lt hlt'
      have hP := fun cap => specPageOk lo hi a' l cap _ w hI (by rw [← hI.1]; exact hL k hkl)
      have hki : (k : Int) < (len : Int) := by omega
      clear hc
      cases hO : okP (ms.getD k [])
      · have HF : Hid (okM ms = false) := all_no (f := okP) hlt' (by rw [← hg]; exact hO)
        rw [hO] at hP
        clear hg hI
        go_wp2_with (go_at_call 80; refine (hP _).mono ?_; rintro e w' ⟨rfl, rfl⟩)
        go_ret
        exact ⟨by rw [HF.out]; rfl, rfl⟩
      · have HT : Hid ((ms.take (k + 1)).all okP = true) := all_more hlt' hok.out (by rw [← hg]; exact hO)
        rw [hO] at hP
        clear hg hI
        go_wp2_with (go_at_call 80; refine (hP _).mono ?_; rintro e w' ⟨rfl, rfl⟩)
        go_round
        case rel => exact ⟨k + 1, by omega, by go_num, HT⟩
        case measure => simp [intOf]; omega
    · have HA : Hid (okM ms = true) := by
        have := hok.out
        rwa [List.take_of_length_le (by omega)] at this
      go_wp2
      go_ret
      exact ⟨by rw [HA.out]; rfl, rfl⟩

end Go.Proofs.Ytjegndgdpmlbaaa
