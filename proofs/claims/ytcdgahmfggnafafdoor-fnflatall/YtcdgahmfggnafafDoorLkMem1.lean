/-
  What the laws' own comparing of memory does, of any two that have the same lengths.
-/
import Derived.Test.YtcdgahmfggnafafDoorLkMem0
namespace Go.Proofs.YtcdgahmfggnafafDoor
open Go.RowKit

theorem take_snoc_eq {α : Type} {l m : List α} {k : Nat} {d : α} (hl : k < l.length) (hm : k < m.length) (h : l.take k = m.take k) (hd : l.getD k d = m.getD k d) : l.take (k + 1) = m.take (k + 1) := by
  rw [List.take_succ_eq_append_getElem hl, List.take_succ_eq_append_getElem hm, h]
  rw [getD_lt hl, getD_lt hm] at hd
  rw [hd]

set_option maxHeartbeats 1000000 in
theorem lkInts_any (lo hi lo' hi' : Nat) (a a' : Option Addr) (len cap cap' : Nat) (zs ys : List Int) (w : World) (h : IsInts w lo hi a len zs) (h' : IsInts w lo' hi' a' len ys) (hn : len ≤ 1048576) :
    Calls Tryd.prog 18 #[.slice a len cap, .slice a' len cap'] w fun e w' => e = .returned (.bool (decide (zs = ys))) ∧ ∃ m, w' = w.drewN m := by
  obtain ⟨hl, hd⟩ := h
  obtain ⟨hl', hd'⟩ := h'
  go_enter Tryd.func18, Tryd.ntmps18
  go_wp2
  go_loopw [5] (fun i wr => ∃ k m : Nat, k ≤ len ∧ i = .int .i64 k ∧ wr = w.drewN m ∧ Hid (zs.take k = ys.take k)) (fun i _ => len - (intOf i).toNat)
  case atStart => exact ⟨0, 0, Nat.zero_le _, rfl, rfl, rfl⟩
  case round =>
    obtain ⟨k, m, hk, rfl, rfl, hEq⟩ := hrel
    by_cases hkl : k < len
    · rcases hd with h0 | ⟨b, o, rfl, _, _, hc⟩
      · omega
      rcases hd' with h0 | ⟨b', o', rfl, _, _, hc'⟩
      · omega
      have c := hc k (by omega)
      have c' := hc' k (by omega)
      have hki : (k : Int) < (len : Int) := by omega
      clear hc hc'
      by_cases hzy : zs.getD k 0 = ys.getD k 0
      · have HE : Hid (zs.take (k + 1) = ys.take (k + 1)) := take_snoc_eq (by omega) (by omega) hEq.out hzy
        rw [← hzy] at c'
        generalize zs.getD k 0 = z at c c'
        clear hzy hEq
        go_wp2_with (fail)
        go_quiet (fail)
        go_wp2
        go_roundw
        case rel => exact ⟨k + 1, _, by omega, by go_num, by first | rfl | (rw [World.drewN_drewN]), HE⟩
        case measure => simp [intOf]; omega
      · have HN : Hid (decide (zs = ys) = false) := by
          refine decide_eq_false ?_
          intro e
          exact hzy (by rw [e])
        have hne : (zs.getD k 0 == ys.getD k 0) = false := by simpa using hzy
        generalize zs.getD k 0 = z at c hne
        generalize ys.getD k 0 = y at c' hne
        clear hzy hEq
        go_wp2_with (fail)
        go_quiet (fail)
        go_wp2
        go_ret
        exact ⟨by rw [HN.out]; rfl, _, by first | rfl | (rw [World.drewN_drewN])⟩
    · have HY : Hid (decide (zs = ys) = true) := by
        refine decide_eq_true ?_
        have := hEq.out
        rwa [List.take_of_length_le (by omega), List.take_of_length_le (by omega)] at this
      go_wp2
      go_ret
      exact ⟨by rw [HY.out]; rfl, m, rfl⟩

set_option maxHeartbeats 1000000 in
theorem lkMem_any (lo hi lo' hi' : Nat) (a a' : Option Addr) (len cap cap' : Nat) (ms ns : List (List Int)) (w : World) (h : IsMem w lo hi a len ms) (h' : IsMem w lo' hi' a' len ns) (hh : hi ≤ w.heap.size) (hh' : hi' ≤ w.heap.size) (hn : len ≤ 1048576) (hL : ∀ i, i < len → (ms.getD i []).length ≤ 1048576) (hE : ∀ i, i < len → (ms.getD i []).length = (ns.getD i []).length) :
    Calls Tryd.prog 9 #[.slice a len cap, .slice a' len cap'] w fun e w' => e = .returned (.bool (decide (ms = ns))) ∧ Below w.heap.size w w' := by
  obtain ⟨hl, hd⟩ := h
  obtain ⟨hl', hd'⟩ := h'
  go_enter Tryd.func9, Tryd.ntmps9
  go_wp2
  go_loopw [5] (fun i wr => ∃ k : Nat, k ≤ len ∧ i = .int .i64 k ∧ Below w.heap.size w wr ∧ Hid (ms.take k = ns.take k)) (fun i _ => len - (intOf i).toNat)
  case atStart => exact ⟨0, Nat.zero_le _, rfl, Below.refl _ _, rfl⟩
  case round =>
    obtain ⟨k, hk, rfl, hB, hEq⟩ := hrel
    by_cases hkl : k < len
    · rcases hd with h0 | ⟨b, o, rfl, _, hb2, hc⟩
      · omega
      rcases hd' with h0 | ⟨b', o', rfl, _, hb2', hc'⟩
      · omega
      obtain ⟨x, l, c, q, hI⟩ := hc k hkl
      obtain ⟨x', l', c', q', hI'⟩ := hc' k hkl
      have hll : l' = l := by rw [← hI.1, ← hI'.1]; exact (hE k hkl).symm
      subst hll
      have c0 := (hB.cell (p := ⟨b, o + k, none⟩) (show b < w.heap.size by omega)).trans q
      have d0 := (hB.cell (p := ⟨b', o' + k, none⟩) (show b' < w.heap.size by omega)).trans q'
      have hC : ∀ W : World, W.heap = wr.heap → Calls Tryd.prog 18 #[.slice x l' c, .slice x' l' c'] W fun e w' => e = .returned (.bool (decide (ms.getD k [] = ns.getD k []))) ∧ ∃ m, w' = W.drewN m := fun W hW =>
        lkInts_any lo hi lo' hi' x x' l' c c' _ _ W (hI.same (fun i _ h2 => by rw [hW]; exact hB.block i (by omega))) (hI'.same (fun i _ h2 => by rw [hW]; exact hB.block i (by omega))) (by rw [← hI.1]; exact hL k hkl)
      have hki : (k : Int) < (len : Int) := by omega
      clear hc hc' hI hI' q q'
      by_cases hzy : ms.getD k [] = ns.getD k []
      · have HE : Hid (ms.take (k + 1) = ns.take (k + 1)) := take_snoc_eq (by omega) (by omega) hEq.out hzy
        rw [decide_eq_true hzy] at hC
        clear hzy hEq
        go_wp2_with (fail)
        go_region_with (go_at_call 18; refine (hC _ (by rfl)).mono ?_; rintro e w' ⟨rfl, m, rfl⟩)
        all_goals
          go_wp2
          go_roundw
          case rel =>
            refine ⟨k + 1, by omega, by go_num, ?_, HE⟩
            (repeat' (with_reducible (first | exact Below.refl _ _ | apply Below.setCell | apply Below.alloc | apply below_drewN | apply Below.drew | refine Below.trans ?_ (Below.mono (by assumption) ?_)))) <;> (first | exact Nat.le_refl _ | (simp; done) | (simp; omega) | (simp at *; omega))
          case measure => simp [intOf]; omega
      · have HN : Hid (decide (ms = ns) = false) := by
          refine decide_eq_false ?_
          intro e
          exact hzy (by rw [e])
        rw [decide_eq_false hzy] at hC
        clear hzy hEq
        go_wp2_with (fail)
        go_region_with (go_at_call 18; refine (hC _ (by rfl)).mono ?_; rintro e w' ⟨rfl, m, rfl⟩)
        all_goals
          go_wp2
          go_ret
          refine ⟨by rw [HN.out]; rfl, ?_⟩
          (repeat' (with_reducible (first | exact Below.refl _ _ | apply Below.setCell | apply Below.alloc | apply below_drewN | apply Below.drew | refine Below.trans ?_ (Below.mono (by assumption) ?_)))) <;> (first | exact Nat.le_refl _ | (simp; done) | (simp; omega) | (simp at *; omega))
    · have HY : Hid (decide (ms = ns) = true) := by
        refine decide_eq_true ?_
        have := hEq.out
        rwa [List.take_of_length_le (by omega), List.take_of_length_le (by omega)] at this
      go_wp2
      go_ret
      exact ⟨by rw [HY.out]; rfl, hB⟩
end Go.Proofs.YtcdgahmfggnafafDoor
