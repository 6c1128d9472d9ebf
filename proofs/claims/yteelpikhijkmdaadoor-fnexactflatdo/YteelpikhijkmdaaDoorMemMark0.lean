/-
  What the laws' own marking of memory, and their looking for the marks, do.
-/
import Derived.Test.YteelpikhijkmdaaDoorMemLaw0
namespace Go.Proofs.YteelpikhijkmdaaDoor
open Go.RowKit

/-- Numbers one behind the other. -/
def mk (k n : Nat) : List Int := (List.range n).map fun j => ((k + j : Nat) : Int)
theorem mk_len (k n : Nat) : (mk k n).length = n := by simp [mk]
theorem mk_get (k n j : Nat) (h : j < n) : (mk k n).getD j 0 = ((k + j : Nat) : Int) := by simp [mk, List.getD_eq_getElem?_getD, h]

/-- Of the pages the first ones are marked. -/
def markK (k0 k : Nat) (ms : List (List Int)) : List (List Int) := (List.range ms.length).map fun i => if i < k then mk (k0 + tot ms i) (ms.getD i []).length else ms.getD i []
def markM (k0 : Nat) (ms : List (List Int)) : List (List Int) := markK k0 ms.length ms
theorem markK_len (k0 k : Nat) (ms : List (List Int)) : (markK k0 k ms).length = ms.length := by simp [markK]
theorem markK_get {k0 k i : Nat} {ms : List (List Int)} (h : i < ms.length) : (markK k0 k ms).getD i [] = if i < k then mk (k0 + tot ms i) (ms.getD i []).length else ms.getD i [] := by
  rw [getD_lt (by rw [markK_len]; exact h)]
  simp [markK]
theorem markK_zero (k0 : Nat) (ms : List (List Int)) : markK k0 0 ms = ms := by
  refine List.ext_getElem (by rw [markK_len]) fun i h1 h2 => ?_
  have := markK_get (k0 := k0) (k := 0) h2
  rw [getD_lt h1] at this
  rw [this, if_neg (by omega), getD_lt h2]
theorem markK_step {k0 k : Nat} {ms : List (List Int)} (_h : k < ms.length) : (markK k0 k ms).set k (mk (k0 + tot ms k) (ms.getD k []).length) = markK k0 (k + 1) ms := by
  refine List.ext_getElem (by simp [markK_len]) fun i h1 h2 => ?_
  have hi : i < ms.length := by rw [markK_len] at h2; exact h2
  have e2 := markK_get (k0 := k0) (k := k + 1) hi
  rw [getD_lt h2] at e2
  rw [e2, List.getElem_set]
  by_cases hik : k = i
  · subst hik
    rw [if_pos rfl, if_pos (by omega)]
  · rw [if_neg hik]
    have e1 := markK_get (k0 := k0) (k := k) hi
    rw [getD_lt (by rw [markK_len]; exact hi)] at e1
    rw [e1]
    by_cases hlt : i < k
    · rw [if_pos hlt, if_pos (by omega)]
    · rw [if_neg hlt, if_neg (by omega)]
theorem markM_get {k0 i : Nat} {ms : List (List Int)} (h : i < ms.length) : (markM k0 ms).getD i [] = mk (k0 + tot ms i) (ms.getD i []).length := by
  rw [markM, markK_get h, if_pos h]

/-- A page of memory that is a call's own, and what comes of writing it. -/
theorem OwnUpto.repl {w : World} {T lo hi n P : Nat} {ms : List (List Int)} (h : OwnUpto w T lo hi n ms) (hP : P < n) (hm : P < ms.length) :
    ∃ p c, lo ≤ p ∧ p < hi ∧ w.cell? ⟨T, P, none⟩ = some (.slice (some ⟨p, 0, none⟩) (ms.getD P []).length c) ∧ Room w p (ms.getD P []).length ∧
      ∀ (w' : World) (zs : List Int), zs.length = (ms.getD P []).length → Amid p (p + 1) w w' → Ints w' p 0 zs → Room w' p (ms.getD P []).length → OwnUpto w' T lo hi n (ms.set P zs) := by
  obtain ⟨bs, hi1, h⟩ := h
  obtain ⟨g1, g2, g3, ⟨c, g4⟩, g5, g6, g7⟩ := h P hP
  refine ⟨bs P, c, g1, g2, g4, fun j hj => ⟨⟨_, by have := g6 j hj; rwa [Nat.zero_add] at this⟩, g7 j hj⟩, fun w' zs hz hA hI hR => ⟨bs, hi1, fun i hi => ?_⟩⟩
  have sT : SameIn T (T + 1) w w' := hA.same (by omega)
  obtain ⟨k1, k2, k3, ⟨c', k4⟩, k5, k6, k7⟩ := h i hi
  by_cases hiP : i = P
  · subst hiP
    rw [show (ms.set i zs).getD i [] = zs by rw [List.getD_eq_getElem?_getD, List.getElem?_set_self hm]; rfl]
    refine ⟨k1, k2, k3, ⟨c', ?_⟩, ?_, hI, fun j hj => (hR j (by omega)).2⟩
    · rw [sT.cell (Nat.le_refl _) (by omega), k4, hz]
    · rw [sT.frozen (Nat.le_refl _) (by omega)]; exact k5
  · have hne : bs i ≠ bs P := by
      rcases Nat.lt_or_gt_of_ne hiP with hlt | hgt
      · have := hi1 i P hlt hP
        omega
      · have := hi1 P i hgt hi
        omega
    have sI : SameIn (bs i) (bs i + 1) w w' := hA.same (by omega)
    rw [show (ms.set P zs).getD i [] = ms.getD i [] by rw [List.getD_eq_getElem?_getD, List.getElem?_set_ne (fun e => hiP e.symm), ← List.getD_eq_getElem?_getD]]
    refine ⟨k1, k2, k3, ⟨c', ?_⟩, ?_, k6.same sI (Nat.le_refl _) (by omega), fun j hj => ?_⟩
    · rw [sT.cell (Nat.le_refl _) (by omega)]; exact k4
    · rw [sT.frozen (Nat.le_refl _) (by omega)]; exact k5
    · rw [sI.frozen (Nat.le_refl _) (by omega)]; exact k7 j hj

theorem Amid.wide {lo hi lo' hi' : Nat} {w w' : World} (h : Amid lo hi w w') (h1 : lo' ≤ lo) (h2 : hi ≤ hi') : Amid lo' hi' w w' := ⟨h.os, h.tape, h.output, h.size, fun k hk => h.block k (by omega)⟩

set_option maxHeartbeats 1000000 in
theorem markIntS_any (b len cap k0 : Nat) (w : World) (hR : Room w b len) (hn : len ≤ 10000000) (hk0 : k0 ≤ 100000000) :
    Calls Tryd.prog 53 #[.slice (some ⟨b, 0, none⟩) len cap, .int .i64 k0] w fun e w' => e = .returned (.int .i64 ((k0 + len : Nat) : Int)) ∧ Ints w' b 0 (mk k0 len) ∧ Room w' b len ∧ Amid b (b + 1) w w' := by
  go_enter Tryd.func53, Tryd.ntmps53
  go_wp2
  go_loopw [1, 5] (fun n i wr => ∃ k : Nat, k ≤ len ∧ i = .int .i64 k ∧ n = .int .i64 ((k0 + k : Nat) : Int) ∧ Hid (Ints wr b 0 ((mk k0 len).take k)) ∧ Hid (Room wr b len) ∧ Hid (Amid b (b + 1) w wr)) (fun _ i _ => len - (intOf i).toNat)
  case atStart => exact ⟨0, Nat.zero_le _, rfl, rfl, fun i hi => by simp at hi, hR, Amid.refl _ _ _⟩
  case round =>
    obtain ⟨k, hk, rfl, rfl, hE, hRo, hO⟩ := hrel
    by_cases hkl : k < len
    · obtain ⟨⟨u0, d0⟩, f0⟩ := hRo.out k hkl
      have hm : Hid ((mk k0 len).getD k 0 = ((k0 + k : Nat) : Int)) := mk_get k0 len k hkl
      have HX : Hid (((k0 + (k + 1) : Nat) : Int) = ((k0 + k : Nat) : Int) + 1) := (show _ = _ by omega)
      generalize hN : ((k0 + k : Nat) : Int) = N at hm HX
      have hN0 : 0 ≤ N := by omega
      have hN1 : N ≤ 200000000 := by omega
      clear hN
      have hki : (k : Int) < (len : Int) := by omega
      go_wp2
      go_roundw
      case rel => exact ⟨k + 1, by omega, by go_num, by rw [HX.out], ints_put hRo.out hE.out (by rw [mk_len]; omega) hkl hm.out, hRo.out.put _, hO.out.put (Nat.le_refl _) (by omega) _ _⟩
      case measure => simp [intOf]; omega
    · have hkk : k = len := by omega
      subst hkk
      have HE : Hid (Ints wr b 0 (mk k0 k)) := by
        have := hE.out
        rwa [List.take_of_length_le (by rw [mk_len]; omega)] at this
      clear hE
      go_wp2
      go_ret
      exact ⟨rfl, HE.out, hRo.out, hO.out⟩

set_option maxHeartbeats 1000000 in
theorem markIntSS_any (lo hi : Nat) (a : Option Addr) (len cap k0 : Nat) (ms : List (List Int)) (w : World) (h : OwnMem w lo hi a len ms) (hn : len ≤ 1048576) (ht : tot ms len ≤ 4194304) (hk0 : k0 ≤ 10000000) :
    Calls Tryd.prog 22 #[.slice a len cap, .int .i64 k0] w fun e w' => e = .returned (.int .i64 ((k0 + tot ms len : Nat) : Int)) ∧ OwnMem w' lo hi a len (markM k0 ms) ∧ Amid lo hi w w' := by
  obtain ⟨hl, hd⟩ := h
  rcases hd with h0 | ⟨T, rfl, hT1, hT2, hU⟩
  · subst h0
    go_enter Tryd.func22, Tryd.ntmps22
    go_wp2
    go_loop [1, 5] (fun n i => i = .int .i64 0 ∧ n = .int .i64 k0) (fun _ _ => 0)
    case atStart => exact ⟨rfl, rfl⟩
    case round =>
      obtain ⟨rfl, rfl⟩ := hrel
      go_wp2
      go_ret
      exact ⟨by simp [tot], ⟨by rw [markM, markK_len]; exact hl, Or.inl rfl⟩, Amid.refl _ _ _⟩
  · go_enter Tryd.func22, Tryd.ntmps22
    go_wp2
    go_loopw [1, 5] (fun n i wr => ∃ k : Nat, k ≤ len ∧ i = .int .i64 k ∧ n = .int .i64 ((k0 + tot ms k : Nat) : Int) ∧ Hid (OwnUpto wr T lo hi len (markK k0 k ms)) ∧ Hid (Amid lo hi w wr)) (fun _ i _ => len - (intOf i).toNat)
    case atStart => exact ⟨0, Nat.zero_le _, rfl, rfl, (show OwnUpto _ _ _ _ _ _ by rw [markK_zero]; exact hU), Amid.refl _ _ _⟩
    case round =>
      obtain ⟨k, hk, rfl, rfl, hE, hO⟩ := hrel
      by_cases hkl : k < len
      · obtain ⟨p, c, hp1, hp2, q, hRp, hnext⟩ := hE.out.repl (P := k) hkl (by rw [markK_len]; omega)
        have hg := markK_get (k0 := k0) (k := k) (i := k) (ms := ms) (by omega)
        rw [if_neg (by omega)] at hg
        rw [hg] at q hRp hnext
        have hst := tot_step (ms := ms) (k := k) (by omega)
        have hmo := tot_mono ms (j := k + 1) (k := len) (by omega)
        generalize hL : (ms.getD k []).length = l at q hRp hnext hst
        have HX : Hid (((k0 + tot ms (k + 1) : Nat) : Int) = ((k0 + tot ms k + l : Nat) : Int)) := (show _ = _ by omega)
        have HN : Hid (∀ (w' : World) (zs : List Int), zs.length = l → Amid p (p + 1) wr w' → Ints w' p 0 zs → Room w' p l → OwnUpto w' T lo hi len ((markK k0 k ms).set k zs)) := hnext
        have hki : (k : Int) < (len : Int) := by omega
        have hM := markIntS_any p l c (k0 + tot ms k) wr hRp (by omega) (by omega)
        clear hg hnext hE
        go_wp2_with (fail)
        refine hM.mono ?_
        rintro e w1 ⟨rfl, hI, hR1, hA⟩
        have hS := HN.out w1 _ (mk_len _ _) hA hI hR1
        rw [← hL, markK_step (by omega)] at hS
        have HS : Hid (OwnUpto w1 T lo hi len (markK k0 (k + 1) ms)) := hS
        have HA : Hid (Amid lo hi w w1) := hO.out.trans (hA.wide hp1 (by omega))
        clear hS hI hR1 hA HN hM hRp
        go_wp2
        go_roundw
        case rel => exact ⟨k + 1, by omega, by go_num, by rw [HX.out]; go_num, HS, HA⟩
        case measure => simp [intOf]; omega
      · have hkk : k = len := by omega
        subst hkk
        have HE : Hid (OwnUpto wr T lo hi k (markM k0 ms)) := by
          have := hE.out
          rw [markM, hl]
          exact this
        clear hE
        go_wp2
        go_ret
        exact ⟨rfl, ⟨by rw [markM, markK_len]; exact hl, Or.inr ⟨T, rfl, hT1, hT2, HE.out⟩⟩, hO.out⟩

set_option maxHeartbeats 1000000 in
theorem heldIntS_any (lo hi : Nat) (a : Option Addr) (len cap k0 : Nat) (w : World) (h : IsInts w lo hi a len (mk k0 len)) (hn : len ≤ 10000000) (hk0 : k0 ≤ 100000000) :
    Calls Tryd.prog 54 #[.slice a len cap, .int .i64 k0] w fun e w' => e = .returned (.int .i64 ((k0 + len : Nat) : Int)) ∧ w' = w := by
  obtain ⟨hl, hd⟩ := h
  go_enter Tryd.func54, Tryd.ntmps54
  go_wp2
  go_loop [1, 5] (fun n i => ∃ k : Nat, k ≤ len ∧ i = .int .i64 k ∧ n = .int .i64 ((k0 + k : Nat) : Int)) (fun _ i => len - (intOf i).toNat)
  case atStart => exact ⟨0, Nat.zero_le _, rfl, rfl⟩
  case round =>
    obtain ⟨k, hk, rfl, rfl⟩ := hrel
    by_cases hkl : k < len
    · rcases hd with h0 | ⟨b, o, rfl, _, _, hc⟩
      · omega
      have c0 := hc k (by rw [mk_len]; omega)
      rw [mk_get k0 len k hkl] at c0
      have HX : Hid (((k0 + (k + 1) : Nat) : Int) = ((k0 + k : Nat) : Int) + 1) := (show _ = _ by omega)
      generalize hN : ((k0 + k : Nat) : Int) = N at c0 HX
      have hN0 : 0 ≤ N := by omega
      have hN1 : N ≤ 200000000 := by omega
      clear hN hc
      have hki : (k : Int) < (len : Int) := by omega
      go_wp2
      go_round
      case rel => exact ⟨k + 1, by omega, by go_num, by rw [HX.out]⟩
      case measure => simp [intOf]; omega
    · have hkk : k = len := by omega
      subst hkk
      go_wp2
      go_ret
      exact ⟨rfl, rfl⟩

set_option maxHeartbeats 1000000 in
theorem heldIntSS_any (lo hi : Nat) (a : Option Addr) (len cap k0 : Nat) (ms : List (List Int)) (w : World) (hl : ms.length = len) (h : IsMem w lo hi a len (markM k0 ms)) (hn : len ≤ 1048576) (ht : tot ms len ≤ 4194304) (hk0 : k0 ≤ 10000000) :
    Calls Tryd.prog 23 #[.slice a len cap, .int .i64 k0] w fun e w' => e = .returned (.int .i64 ((k0 + tot ms len : Nat) : Int)) ∧ w' = w := by
  obtain ⟨_, hd⟩ := h
  go_enter Tryd.func23, Tryd.ntmps23
  go_wp2
  go_loop [1, 5] (fun n i => ∃ k : Nat, k ≤ len ∧ i = .int .i64 k ∧ n = .int .i64 ((k0 + tot ms k : Nat) : Int)) (fun _ i => len - (intOf i).toNat)
  case atStart => exact ⟨0, Nat.zero_le _, rfl, rfl⟩
  case round =>
    obtain ⟨k, hk, rfl, rfl⟩ := hrel
    by_cases hkl : k < len
    · rcases hd with h0 | ⟨b, o, rfl, _, _, hc⟩
      · omega
      obtain ⟨a', l, c, q, hI⟩ := hc k hkl
      have hll := hI.1
      rw [markM_get (by omega)] at hI hll
      rw [mk_len] at hll
      have hst := tot_step (ms := ms) (k := k) (by omega)
      have hmo := tot_mono ms (j := k + 1) (k := len) (by omega)
      rw [hll] at hI hst
      have hH := heldIntS_any lo hi a' l c (k0 + tot ms k) w hI (by omega) (by omega)
      have HX : Hid (((k0 + tot ms (k + 1) : Nat) : Int) = ((k0 + tot ms k + l : Nat) : Int)) := (show _ = _ by omega)
      generalize hN : ((k0 + tot ms k + l : Nat) : Int) = N at HX hH
      have hN0 : ¬ N < 0 := by omega
      have hki : (k : Int) < (len : Int) := by omega
      clear hc hI
      go_wp2_with (go_at_call 54; refine hH.mono ?_; rintro e w' ⟨rfl, rfl⟩)
      go_round
      case rel => exact ⟨k + 1, by omega, by go_num, by rw [HX.out]⟩
      case measure => simp [intOf]; omega
    · have hkk : k = len := by omega
      subst hkk
      go_wp2
      go_ret
      exact ⟨rfl, rfl⟩
end Go.Proofs.YteelpikhijkmdaaDoor
