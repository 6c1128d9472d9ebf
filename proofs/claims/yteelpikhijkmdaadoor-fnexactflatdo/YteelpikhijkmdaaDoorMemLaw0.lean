/-
  What the laws' own copying, measuring, comparing of memory do.
-/
import Derived.Test.YteelpikhijkmdaaDoorMemWith0
namespace Go.Proofs.YteelpikhijkmdaaDoor
open Go.RowKit

set_option maxHeartbeats 1000000 in
theorem toIntS_any (lo hi : Nat) (a : Option Addr) (len cap : Nat) (zs : List Int) (w : World) (h : IsInts w lo hi a len zs) (hh : hi ≤ w.heap.size) (hn : len ≤ 1048576) :
    Calls Tryd.prog 51 #[.slice a len cap] w fun e w' => e = .returned (.slice (some ⟨w.heap.size, 0, none⟩) len len) ∧ Ints w' w.heap.size 0 zs ∧ Room w' w.heap.size len ∧ w.heap.size < w'.heap.size ∧ Below w.heap.size w w' := by
  obtain ⟨hl, hd⟩ := h
  have hmk := make_ints len hn
  go_enter Tryd.func51, Tryd.ntmps51
  go_wp2
  clear hmk
  go_loopw [4] (fun i wr => ∃ k : Nat, k ≤ len ∧ i = .int .i64 k ∧ Hid (Ints wr w.heap.size 0 (zs.take k)) ∧ Hid (Room wr w.heap.size len) ∧ w.heap.size < wr.heap.size ∧ Below w.heap.size w wr) (fun i _ => len - (intOf i).toNat)
  case atStart => exact ⟨0, Nat.zero_le _, rfl, fun i hi => by simp at hi, room_made _ _ _ _, by simp, (Below.refl _ _).alloc (Nat.le_refl _) _⟩
  case round =>
    obtain ⟨k, hk, rfl, hE, hR, hlt, hB⟩ := hrel
    by_cases hkl : k < len
    · rcases hd with h0 | ⟨b, o, rfl, _, hb2, hc⟩
      · omega
      have q := hc k (by omega)
      generalize hG : zs.getD k 0 = z at q
      have hbs : b < w.heap.size := by omega
      have c0 := (hB.cell (p := ⟨b, o + k, none⟩) hbs).trans q
      have HG : Hid (zs.getD k 0 = z) := hG
      obtain ⟨⟨u0, d0⟩, f0⟩ := hR.out k hkl
      have hki : (k : Int) < (len : Int) := by omega
      clear hG q
      go_wp2
      go_roundw
      case rel =>
        refine ⟨k + 1, by omega, by go_num, ints_put hR.out hE.out (by omega) hkl HG.out, hR.out.put _, by simpa using hlt, ?_⟩
        exact hB.setCell (p := ⟨w.heap.size, k, none⟩) (Nat.le_refl _) _
      case measure => simp [intOf]; omega
    · have HE : Hid (Ints wr w.heap.size 0 zs) := by
        have := hE.out
        rwa [List.take_of_length_le (by omega)] at this
      clear hE
      go_wp2
      go_ret
      exact ⟨rfl, HE.out, hR.out, hlt, hB⟩

set_option maxHeartbeats 1000000 in
theorem toIntSS_any (lo hi : Nat) (a : Option Addr) (len cap : Nat) (ms : List (List Int)) (w : World) (h : IsMem w lo hi a len ms) (hh : hi ≤ w.heap.size) (hn : len ≤ 1048576) (hL : ∀ i, i < len → (ms.getD i []).length ≤ 1048576) :
    Calls Tryd.prog 19 #[.slice a len cap] w fun e w' => e = .returned (.slice (some ⟨w.heap.size, 0, none⟩) len len) ∧ OwnMem w' w.heap.size w'.heap.size (some ⟨w.heap.size, 0, none⟩) len ms ∧ Below w.heap.size w w' := by
  obtain ⟨hl, hd⟩ := h
  have hmk := make_mems len hn
  go_enter Tryd.func19, Tryd.ntmps19
  go_wp2
  clear hmk
  go_loopw [4] (fun i wr => ∃ k : Nat, k ≤ len ∧ i = .int .i64 k ∧ Hid (OwnUpto wr w.heap.size w.heap.size wr.heap.size k ms) ∧ Hid (Room wr w.heap.size len) ∧ w.heap.size < wr.heap.size ∧ Below w.heap.size w wr) (fun i _ => len - (intOf i).toNat)
  case atStart => exact ⟨0, Nat.zero_le _, rfl, ⟨fun _ => 0, fun i j h1 h2 => by omega, fun i hi => by omega⟩, room_made _ _ _ _, by simp, (Below.refl _ _).alloc (Nat.le_refl _) _⟩
  case round =>
    obtain ⟨k, hk, rfl, hE, hR, hlt, hB⟩ := hrel
    by_cases hkl : k < len
    · rcases hd with h0 | ⟨b, o, rfl, hb1, hb2, hc⟩
      · omega
      obtain ⟨a', l, c, q, hI⟩ := hc k hkl
      have hbs : b < w.heap.size := by omega
      have c0 := (hB.cell (p := ⟨b, o + k, none⟩) hbs).trans q
      have hI' : Hid (IsInts wr lo hi a' l (ms.getD k [])) := hI.same (below_sameIn hB hh)
      have hL1 := hL k hkl
      have hll := hI.1
      have hki : (k : Int) < (len : Int) := by omega
      have hhr : hi ≤ wr.heap.size := by omega
      clear q hI hc
      go_wp2_with (fail)
      refine (toIntS_any lo hi a' l c _ _ hI'.out hhr (by omega)).mono ?_
      rintro e w1 ⟨rfl, hI1, hR1, hlt1, B1⟩
      have R1 : Hid (Room w1 w.heap.size len) := hR.out.below B1 hlt
      have hlt2 : w.heap.size < w1.heap.size := by omega
      have hB1 := hB.trans (B1.mono hB.size)
      obtain ⟨⟨u0, d0⟩, f0⟩ := R1.out k hkl
      have HI : Hid (Ints w1 wr.heap.size 0 (ms.getD k [])) := hI1
      have HRp : Hid (Room w1 wr.heap.size l) := hR1
      clear hI1 hR1 c0 hI'
      go_wp2
      go_roundw
      case rel =>
        obtain ⟨⟨v0, e0⟩, g0⟩ := hR.out k hkl
        refine ⟨k + 1, by omega, by go_num, ?_, R1.out.put _, by simpa using hlt2, ?_⟩
        · have := OwnUpto.step (c := l) (l := l) hE.out (below_sameIn B1 (Nat.le_refl _)) (Nat.le_refl _) hlt (Nat.le_refl _) hlt1 hll HI.out (fun j hj => (HRp.out j hj).2) e0 g0
          simpa [World.setCell, Hid] using this
        · exact hB1.setCell (p := ⟨w.heap.size, k, none⟩) (Nat.le_refl _) _
      case measure => simp [intOf]; omega
    · have hkk : k = len := by omega
      subst hkk
      clear hR
      go_wp2
      go_ret
      exact ⟨rfl, ⟨hl, Or.inr ⟨_, rfl, Nat.le_refl _, hlt, hE.out⟩⟩, hB⟩

set_option maxHeartbeats 1000000 in
theorem eqIntS_same (lo hi lo' hi' : Nat) (a a' : Option Addr) (len cap cap' : Nat) (zs : List Int) (w : World) (h : IsInts w lo hi a len zs) (h' : IsInts w lo' hi' a' len zs) (hn : len ≤ 1048576) :
    Calls Tryd.prog 52 #[.slice a len cap, .slice a' len cap'] w fun e w' => e = .returned (.bool true) ∧ ∃ m, w' = w.drewN m := by
  obtain ⟨hl, hd⟩ := h
  obtain ⟨_, hd'⟩ := h'
  go_enter Tryd.func52, Tryd.ntmps52
  go_wp2
  go_loopw [5] (fun i wr => ∃ k m : Nat, k ≤ len ∧ i = .int .i64 k ∧ wr = w.drewN m) (fun i _ => len - (intOf i).toNat)
  case atStart => exact ⟨0, 0, Nat.zero_le _, rfl, rfl⟩
  case round =>
    obtain ⟨k, m, hk, rfl, rfl⟩ := hrel
    by_cases hkl : k < len
    · rcases hd with h0 | ⟨b, o, rfl, _, _, hc⟩
      · omega
      rcases hd' with h0 | ⟨b', o', rfl, _, _, hc'⟩
      · omega
      have c := hc k (by omega)
      have c' := hc' k (by omega)
      generalize zs.getD k 0 = z at c c'
      have hki : (k : Int) < (len : Int) := by omega
      clear hc hc'
      go_wp2_with (fail)
      go_quiet (fail)
      go_wp2
      go_roundw
      case rel => exact ⟨k + 1, _, by omega, by go_num, by first | rfl | (rw [World.drewN_drewN])⟩
      case measure => simp [intOf]; omega
    · go_wp2
      go_ret
      exact ⟨rfl, m, rfl⟩

set_option maxHeartbeats 1000000 in
theorem eqIntSS_same (lo hi lo' hi' : Nat) (a a' : Option Addr) (len cap cap' : Nat) (ms : List (List Int)) (w : World) (h : IsMem w lo hi a len ms) (h' : IsMem w lo' hi' a' len ms) (hh : hi ≤ w.heap.size) (hh' : hi' ≤ w.heap.size) (hn : len ≤ 1048576) (hL : ∀ i, i < len → (ms.getD i []).length ≤ 1048576) :
    Calls Tryd.prog 21 #[.slice a len cap, .slice a' len cap'] w fun e w' => e = .returned (.bool true) ∧ Below w.heap.size w w' := by
  obtain ⟨hl, hd⟩ := h
  obtain ⟨_, hd'⟩ := h'
  go_enter Tryd.func21, Tryd.ntmps21
  go_wp2
  go_loopw [5] (fun i wr => ∃ k : Nat, k ≤ len ∧ i = .int .i64 k ∧ Below w.heap.size w wr) (fun i _ => len - (intOf i).toNat)
  case atStart => exact ⟨0, Nat.zero_le _, rfl, Below.refl _ _⟩
  case round =>
    obtain ⟨k, hk, rfl, hB⟩ := hrel
    by_cases hkl : k < len
    · rcases hd with h0 | ⟨b, o, rfl, _, hb2, hc⟩
      · omega
      rcases hd' with h0 | ⟨b', o', rfl, _, hb2', hc'⟩
      · omega
      obtain ⟨x, l, c, q, hI⟩ := hc k hkl
      obtain ⟨x', l', c', q', hI'⟩ := hc' k hkl
      have hll : l' = l := by rw [← hI.1, ← hI'.1]
      subst hll
      have c0 := (hB.cell (p := ⟨b, o + k, none⟩) (show b < w.heap.size by omega)).trans q
      have d0 := (hB.cell (p := ⟨b', o' + k, none⟩) (show b' < w.heap.size by omega)).trans q'
      have hE : ∀ W : World, W.heap = wr.heap → Calls Tryd.prog 52 #[.slice x l' c, .slice x' l' c'] W fun e w' => e = .returned (.bool true) ∧ ∃ m, w' = W.drewN m := fun W hW =>
        eqIntS_same lo hi lo' hi' x x' l' c c' _ W (hI.same (fun i _ h2 => by rw [hW]; exact hB.block i (by omega))) (hI'.same (fun i _ h2 => by rw [hW]; exact hB.block i (by omega))) (by rw [← hI.1]; exact hL k hkl)
      have hki : (k : Int) < (len : Int) := by omega
      clear hc hc' hI hI' q q'
      go_wp2_with (fail)
      go_region_with (go_at_call 52; refine (hE _ (by rfl)).mono ?_; rintro e w' ⟨rfl, m, rfl⟩)
      all_goals
        go_wp2
        go_roundw
        case rel =>
          refine ⟨k + 1, by omega, by go_num, ?_⟩
          (repeat' (with_reducible (first | exact Below.refl _ _ | apply Below.setCell | apply Below.alloc | apply below_drewN | apply Below.drew | refine Below.trans ?_ (Below.mono (by assumption) ?_)))) <;> (first | exact Nat.le_refl _ | (simp; done) | (simp; omega) | (simp at *; omega))
        case measure => simp [intOf]; omega
    · go_wp2
      go_ret
      exact ⟨rfl, hB⟩

/-- How many words the first pages have. -/
def tot (ms : List (List Int)) (k : Nat) : Nat := ((ms.take k).map List.length).sum
theorem tot_step {ms : List (List Int)} {k : Nat} (h : k < ms.length) : tot ms (k + 1) = tot ms k + (ms.getD k []).length := by
  unfold tot
  rw [List.take_succ_eq_append_getElem h, List.map_append, List.sum_append, getD_lt h]
  simp
theorem tot_mono (ms : List (List Int)) {j k : Nat} (h : j ≤ k) : tot ms j ≤ tot ms k := by
  induction k with
  | zero => rw [show j = 0 by omega]; exact Nat.le_refl _
  | succ k ih =>
    by_cases hjk : j = k + 1
    · rw [hjk]; exact Nat.le_refl _
    · refine Nat.le_trans (ih (by omega)) ?_
      by_cases hk : k < ms.length
      · rw [tot_step hk]; omega
      · unfold tot
        rw [List.take_of_length_le (by omega), List.take_of_length_le (by omega)]
        exact Nat.le_refl _
theorem len_le_tot {ms : List (List Int)} {k : Nat} (h : k < ms.length) : (ms.getD k []).length ≤ tot ms ms.length := by
  have h1 := tot_step h
  have h2 := tot_mono ms (j := k + 1) (k := ms.length) h
  omega

set_option maxHeartbeats 1000000 in
theorem szIntS_any (a : Option Addr) (len cap : Nat) (n : Nat) (w : World) (hm : len ≤ maxLen) (hn : n ≤ 1048576) :
    Calls Tryd.prog 50 #[.slice a len cap, .int .i64 n] w fun e w' => e = .returned (.int .i64 (if len ≤ n then (n : Int) - len else -1)) ∧ w' = w := by
  unfold maxLen at hm
  by_cases h : len ≤ n
  · rw [if_pos h]
    have h' : ¬ (n : Int) - (len : Int) < 0 := by omega
    go_enter Tryd.func50, Tryd.ntmps50
    go_wp2
    go_ret
    exact ⟨rfl, rfl⟩
  · rw [if_neg h]
    have h' : (n : Int) - (len : Int) < 0 := by omega
    go_enter Tryd.func50, Tryd.ntmps50
    go_wp2
    go_ret
    exact ⟨rfl, rfl⟩

set_option maxHeartbeats 1000000 in
theorem szIntSS_any (lo hi : Nat) (a : Option Addr) (len cap : Nat) (ms : List (List Int)) (w : World) (h : IsMem w lo hi a len ms) (hm : len ≤ maxLen) (hL : ∀ i, i < len → (ms.getD i []).length ≤ maxLen) :
    Calls Tryd.prog 18 #[.slice a len cap, .int .i64 1048576] w fun e w' => w' = w ∧ ((e = .returned (.int .i64 (-1))) ∨ (∃ n : Nat, e = .returned (.int .i64 n) ∧ len + tot ms len ≤ 1048576)) := by
  obtain ⟨hl, hd⟩ := h
  unfold maxLen at hm
  by_cases hbig : 1048576 < len
  · have h' : (1048576 : Int) - (len : Int) < 0 := by omega
    go_enter Tryd.func18, Tryd.ntmps18
    go_wp2
    go_ret
    exact ⟨rfl, Or.inl rfl⟩
  · have h' : ¬ (1048576 : Int) - (len : Int) < 0 := by omega
    go_enter Tryd.func18, Tryd.ntmps18
    go_wp2
    go_loop [1, 5] (fun v i => ∃ k n : Nat, k ≤ len ∧ i = .int .i64 k ∧ v = .int .i64 n ∧ n + len + tot ms k = 1048576) (fun _ i => len - (intOf i).toNat)
    case atStart => exact ⟨0, 1048576 - len, Nat.zero_le _, rfl, by go_num, by simp [tot]; omega⟩
    case round =>
      obtain ⟨k, n, hk, rfl, rfl, hs⟩ := hrel
      by_cases hkl : k < len
      · rcases hd with h0 | ⟨b, o, rfl, _, _, hc⟩
        · omega
        obtain ⟨a', l, c, q, hI⟩ := hc k hkl
        have hL1 := hL k hkl
        have hll := hI.1
        rw [hll] at hL1
        have hst := tot_step (ms := ms) (k := k) (by omega)
        rw [hll] at hst
        have hS := szIntS_any a' l c n w hL1 (by omega)
        have hki : (k : Int) < (len : Int) := by omega
        clear hc hI hll
        by_cases hln : l ≤ n
        · rw [if_pos hln] at hS
          have hneg : ¬ (n : Int) - (l : Int) < 0 := by omega
          go_wp2_with (go_at_call 50; refine hS.mono ?_; rintro e w' ⟨rfl, rfl⟩)
          go_round
          case rel => exact ⟨k + 1, n - l, by omega, by go_num, by go_num, by omega⟩
          case measure => simp [intOf]; omega
        · rw [if_neg hln] at hS
          go_wp2_with (go_at_call 50; refine hS.mono ?_; rintro e w' ⟨rfl, rfl⟩)
          go_ret
          exact ⟨rfl, Or.inl rfl⟩
      · have hkk : k = len := by omega
        subst hkk
        go_wp2
        go_ret
        exact ⟨rfl, Or.inr ⟨⟨n, rfl⟩, by omega⟩⟩
end Go.Proofs.YteelpikhijkmdaaDoor
