/-
  What the law's own copying and comparing of acts do, and what acts that came in are told to the walk as.
-/
import Derived.Test.YtfmdjomeackigaaActs1
import Derived.Deep.Slices
import Derived.Lib.SmallJoins
import Derived.ProofKit
import Derived.OpenShut
namespace Go.Proofs.Ytfmdjomeackigaa
open Go.RowKit

set_option maxHeartbeats 400000 in
theorem toAct_any (a0 a1 a2 a3 a4 : Int) (w : World) :
    Calls Try.prog 24 #[.agg #[.int .i64 a0, .int .i64 a1, .int .i64 a2, .int .i64 a3, .int .i64 a4]] w fun e w' => e = .returned (.agg #[.int .i64 a0, .int .i64 a1, .int .i64 a2, .int .i64 a3, .int .i64 a4]) ∧ Below w.heap.size w w' := by
  go_enter Try.func24, Try.ntmps24
  go_wp2
  refine bodyPost_ret (v := .agg #[.int .i64 a0, .int .i64 a1, .int .i64 a2, .int .i64 a3, .int .i64 a4]) ?res rfl ⟨rfl, ?_⟩
  case res => simp [results, Try.results24, go_sem]
  (repeat' (with_reducible (first | exact Below.refl _ _ | apply Below.setCell | apply Below.alloc | apply below_drewN | apply Below.drew | refine Below.trans ?_ (Below.mono (by assumption) ?_)))) <;> (first | exact Nat.le_refl _ | (simp; done) | (simp; omega) | (simp at *; omega))

theorem infoA : (Try.prog.info? 32).map (fun i => (i.zero, i.size, i.bytes)) = some (some (.agg #[.int .i64 0, .int .i64 0, .int .i64 0, .int .i64 0, .int .i64 0]), 5, 40) := by kernel_rfl
theorem make_acts (n : Nat) (hn : n ≤ 1048576) (w : World) :
    (Instr.makeSlice 25 (.int .i64 n) (.int .i64 n)).run Try.prog w = .ok (.slice (some ⟨w.heap.size, 0, none⟩) n n) (w.alloc (.cells (madeCells #[.int .i64 0, .int .i64 0, .int .i64 0, .int .i64 0, .int .i64 0] (n * 5)) 32)) := by
  obtain ⟨i0, hi, hz0, hz1, hz2⟩ := info_parts infoA
  have h := run_make (P := Try.prog) w 25 32 i0 _ Try.underlying25 hi hz0 .i64 .i64 n n (by omega) (by omega) (by rw [hz2]; omega) (by omega)
  rw [hz1] at h
  simpa [Value.cells] using h

/-- One act more is written. -/
theorem acts_put {w : World} {b n k : Nat} {xs : List A5} (hR : Room w b n) (hE : Acts w b 0 (xs.take k)) (hk : k < xs.length) (hn : k * 5 + 4 < n) {a0 a1 a2 a3 a4 : Int} (hg : xs.getD k noA = (a0, a1, a2, a3, a4)) :
    Acts (((((w.setCell ⟨b, k * 5, none⟩ (.int .i64 a0)).setCell ⟨b, k * 5 + 1, none⟩ (.int .i64 a1)).setCell ⟨b, k * 5 + 2, none⟩ (.int .i64 a2)).setCell ⟨b, k * 5 + 3, none⟩ (.int .i64 a3)).setCell ⟨b, k * 5 + 4, none⟩ (.int .i64 a4)) b 0 (xs.take (k + 1)) := by
  have key : ∀ x v, w.cell? ⟨b, x, none⟩ = some v → (((((w.setCell ⟨b, k * 5, none⟩ (.int .i64 a0)).setCell ⟨b, k * 5 + 1, none⟩ (.int .i64 a1)).setCell ⟨b, k * 5 + 2, none⟩ (.int .i64 a2)).setCell ⟨b, k * 5 + 3, none⟩ (.int .i64 a3)).setCell ⟨b, k * 5 + 4, none⟩ (.int .i64 a4)).cell? ⟨b, x, none⟩ =
      some (if x = k * 5 + 4 then .int .i64 a4 else if x = k * 5 + 3 then .int .i64 a3 else if x = k * 5 + 2 then .int .i64 a2 else if x = k * 5 + 1 then .int .i64 a1 else if x = k * 5 then .int .i64 a0 else v) := fun x v hv => cell_put (cell_put (cell_put (cell_put (cell_put hv))))
  intro i hi
  simp only [List.length_take] at hi
  simp only [Nat.zero_add]
  have hget : (xs.take (k + 1)).getD i noA = xs.getD i noA := by
    simp only [List.getD_eq_getElem?_getD]
    rw [List.getElem?_take_of_lt (by omega)]
  rw [hget]
  by_cases hik : i = k
  · subst hik
    rw [hg]
    obtain ⟨⟨u0, d0⟩, _⟩ := hR (i * 5) (by omega)
    obtain ⟨⟨u1, d1⟩, _⟩ := hR (i * 5 + 1) (by omega)
    obtain ⟨⟨u2, d2⟩, _⟩ := hR (i * 5 + 2) (by omega)
    obtain ⟨⟨u3, d3⟩, _⟩ := hR (i * 5 + 3) (by omega)
    obtain ⟨⟨u4, d4⟩, _⟩ := hR (i * 5 + 4) (by omega)
    refine ⟨(key _ _ d0).trans ?_, (key _ _ d1).trans ?_, (key _ _ d2).trans ?_, (key _ _ d3).trans ?_, (key _ _ d4).trans ?_⟩
    · rw [if_neg (by omega), if_neg (by omega), if_neg (by omega), if_neg (by omega), if_pos rfl]
    · rw [if_neg (by omega), if_neg (by omega), if_neg (by omega), if_pos rfl]
    · rw [if_neg (by omega), if_neg (by omega), if_pos rfl]
    · rw [if_neg (by omega), if_pos rfl]
    · rw [if_pos rfl]
  · have hi' : i < (xs.take k).length := by simp only [List.length_take]; omega
    obtain ⟨e0, e1, e2, e3, e4⟩ := hE i hi'
    simp only [Nat.zero_add] at e0 e1 e2 e3 e4
    have hget' : (xs.take k).getD i noA = xs.getD i noA := by
      simp only [List.getD_eq_getElem?_getD]
      rw [List.getElem?_take_of_lt (by omega)]
    rw [hget'] at e0 e1 e2 e3 e4
    refine ⟨(key _ _ e0).trans ?_, (key _ _ e1).trans ?_, (key _ _ e2).trans ?_, (key _ _ e3).trans ?_, (key _ _ e4).trans ?_⟩
    all_goals rw [if_neg (by omega), if_neg (by omega), if_neg (by omega), if_neg (by omega), if_neg (by omega)]

set_option maxHeartbeats 2000000 in
theorem toActS_any (a : Option Addr) (len cap : Nat) (xs : List A5) (w : World) (h : IsActs w a len xs) (hn : len ≤ 1048576) :
    Calls Try.prog 10 #[.slice a len cap] w fun e w' => e = .returned (.slice (some ⟨w.heap.size, 0, none⟩) len len) ∧ Acts w' w.heap.size 0 xs ∧ w.heap.size < w'.heap.size ∧ Below w.heap.size w w' := by
  obtain ⟨hl, hd⟩ := h
  have hmk := make_acts len hn
  go_enter Try.func10, Try.ntmps10
  go_wp2
  clear hmk
  go_loopw [4] (fun i wr => ∃ k : Nat, k ≤ len ∧ i = .int .i64 k ∧ Hid (Acts wr w.heap.size 0 (xs.take k)) ∧ Hid (Room wr w.heap.size (len * 5)) ∧ w.heap.size < wr.heap.size ∧ Below w.heap.size w wr) (fun i _ => len - (intOf i).toNat)
  case atStart => exact ⟨0, Nat.zero_le _, rfl, fun i hi => by simp at hi, room_made _ _ _ _, by simp, (Below.refl _ _).alloc (Nat.le_refl _) _⟩
  case round =>
    obtain ⟨k, hk, rfl, hE, hR, hlt, hB⟩ := hrel
    by_cases hkl : k < len
    · rcases hd with h0 | ⟨b, o, rfl, hb, hc⟩
      · omega
      have hki : (k : Int) < (len : Int) := by omega
      rcases hG : xs.getD k noA with ⟨a0, a1, a2, a3, a4⟩
      obtain ⟨c0, c1, c2, c3, c4⟩ := hc.at hB hb (by omega) hG
      have HG : Hid (xs.getD k noA = (a0, a1, a2, a3, a4)) := hG
      clear hG
      have hR1 : ∀ w', Below wr.heap.size wr w' → Room w' w.heap.size (len * 5) := fun w' h => hR.out.below h hlt
      go_wp2_with (go_at_call 24; refine (toAct_any _ _ _ _ _ _).mono ?_; rintro e w' ⟨rfl, hB'⟩; obtain ⟨⟨u0, d0⟩, f0⟩ := hR1 _ hB' (k * 5) (by omega); obtain ⟨⟨u1, d1⟩, f1⟩ := hR1 _ hB' (k * 5 + 1) (by omega); obtain ⟨⟨u2, d2⟩, f2⟩ := hR1 _ hB' (k * 5 + 2) (by omega); obtain ⟨⟨u3, d3⟩, f3⟩ := hR1 _ hB' (k * 5 + 3) (by omega); obtain ⟨⟨u4, d4⟩, f4⟩ := hR1 _ hB' (k * 5 + 4) (by omega))
      go_roundw
      case rel =>
        have hs' := hB'.size
        refine ⟨k + 1, by omega, by go_num, acts_put (hR1 _ hB') (hE.out.below hB' hlt) (by omega) (by omega) HG.out, ((((((hR1 _ hB').put _).put _).put _).put _).put _), by simp; omega, ?_⟩
        have hB2 := hB.trans (hB'.mono hB.size)
        exact ((((hB2.setCell (p := ⟨w.heap.size, k * 5, none⟩) (Nat.le_refl _) _).setCell (p := ⟨w.heap.size, k * 5 + 1, none⟩) (Nat.le_refl _) _).setCell (p := ⟨w.heap.size, k * 5 + 2, none⟩) (Nat.le_refl _) _).setCell (p := ⟨w.heap.size, k * 5 + 3, none⟩) (Nat.le_refl _) _).setCell (p := ⟨w.heap.size, k * 5 + 4, none⟩) (Nat.le_refl _) _
      case measure => simp [intOf]; omega
    · have HE : Hid (Acts wr w.heap.size 0 xs) := by
        have := hE.out
        rwa [List.take_of_length_le (by omega)] at this
      clear hE hR
      go_wp2
      go_ret
      exact ⟨rfl, HE.out, hlt, hB⟩

set_option maxHeartbeats 400000 in
theorem eqAct_same (a0 a1 a2 a3 a4 : Int) (w : World) :
    Calls Try.prog 27 #[.agg #[.int .i64 a0, .int .i64 a1, .int .i64 a2, .int .i64 a3, .int .i64 a4], .agg #[.int .i64 a0, .int .i64 a1, .int .i64 a2, .int .i64 a3, .int .i64 a4]] w fun e w' => e = .returned (.bool true) ∧ Below w.heap.size w w' := by
  go_enter Try.func27, Try.ntmps27
  go_wp2
  go_ret
  refine ⟨rfl, ?_⟩
  (repeat' (with_reducible (first | exact Below.refl _ _ | apply Below.setCell | apply Below.alloc | apply below_drewN | apply Below.drew | refine Below.trans ?_ (Below.mono (by assumption) ?_)))) <;> (first | exact Nat.le_refl _ | (simp; done) | (simp; omega) | (simp at *; omega))

set_option maxHeartbeats 1000000 in
theorem eqActS_same (b o b' o' len cap cap' : Nat) (xs : List A5) (w : World) (hl : xs.length = len) (hm : len ≤ 1048576) (hb : b < w.heap.size) (hb' : b' < w.heap.size) (hc : Acts w b o xs) (hc' : Acts w b' o' xs) :
    Calls Try.prog 12 #[.slice (some ⟨b, o, none⟩) len cap, .slice (some ⟨b', o', none⟩) len cap'] w fun e w' => e = .returned (.bool true) ∧ Below w.heap.size w w' := by
  go_enter Try.func12, Try.ntmps12
  go_wp2
  go_loopw [5] (fun i wr => ∃ k : Nat, k ≤ len ∧ i = .int .i64 k ∧ Below w.heap.size w wr) (fun i _ => len - (intOf i).toNat)
  case atStart => exact ⟨0, Nat.zero_le _, rfl, Below.refl _ _⟩
  case round =>
    obtain ⟨k, hk, rfl, hB⟩ := hrel
    have hs := hB.size
    by_cases hlt : k < len
    · rcases hE : xs.getD k noA with ⟨a0, a1, a2, a3, a4⟩
      obtain ⟨c0, c1, c2, c3, c4⟩ := hc.at hB hb (by omega) hE
      obtain ⟨d0, d1, d2, d3, d4⟩ := hc'.at hB hb' (by omega) hE
      have hlti : (k : Int) < (len : Int) := by omega
      clear hE
      go_wp2_with (fail)
      go_region_with (go_at_call 27; refine (eqAct_same _ _ _ _ _ _).mono ?_; rintro e w' ⟨rfl, hB'⟩)
      all_goals
        go_wp2
        go_roundw
        case rel =>
          refine ⟨k + 1, by omega, by go_num, ?_⟩
          (repeat' (with_reducible (first | exact Below.refl _ _ | apply Below.setCell | apply Below.alloc | apply below_drewN | apply Below.drew | refine Below.trans ?_ (Below.mono (by assumption) ?_)))) <;> (first | exact Nat.le_refl _ | (simp; done) | (simp; omega) | (simp at *; omega))
        case measure => simp [intOf]; omega
    · go_wp2
      go_ret
      exact ⟨rfl, hB⟩
end Go.Proofs.Ytfmdjomeackigaa
