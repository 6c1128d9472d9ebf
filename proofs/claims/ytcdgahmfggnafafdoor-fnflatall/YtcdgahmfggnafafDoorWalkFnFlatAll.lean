/-
  The walk of the law FnFlatAll.
-/
import Derived.Test.YtcdgahmfggnafafDoorFlatDraw0
import Derived.Test.YtcdgahmfggnafafDoorLkMem1
namespace Go.Proofs.YtcdgahmfggnafafDoor
open Go.RowKit

theorem rdG_not {ms : List (List Int)} {p o : Nat} (h : rdG ms p o ≠ -3) : tabB ms = true ∧ p < 6 ∧ o < 4 := by
  cases hr : goodR ms p o
  · rw [rdG, hr] at h
    simp at h
  · obtain ⟨P, O, e1, e2, hP, hO⟩ := goodR_nat hr
    exact ⟨goodR_tab hr, by omega, by omega⟩

/-- Of two memories all places ahead of one are the same. -/
def SameUp (ms ns : List (List Int)) (p o : Nat) : Prop := ∀ i j, j < 4 → (i < p ∨ i = p ∧ j < o) → atM ns i j = atM ms i j
theorem sameUp_all {ms ns : List (List Int)} (h1 : tabB ms = true) (h2 : tabB ns = true) : SameUp ms ns 6 0 ↔ ms = ns := by
  obtain ⟨o1, l1⟩ := tabB_ok h1
  obtain ⟨o2, l2⟩ := tabB_ok h2
  constructor
  · intro h
    refine List.ext_getElem (by omega) fun i hi hi' => ?_
    have e1 := four (okM_get o1 hi).1
    have e2 := four (okM_get o2 hi').1
    rw [getD_lt hi] at e1
    rw [getD_lt hi'] at e2
    have k : ∀ j, j < 4 → ns[i].getD j 0 = ms[i].getD j 0 := fun j hj => by
      have := h i j hj (Or.inl (by omega))
      unfold atM at this
      rwa [getD_lt hi, getD_lt hi'] at this
    rw [e1, e2, k 0 (by omega), k 1 (by omega), k 2 (by omega), k 3 (by omega)]
  · rintro rfl
    exact fun _ _ _ _ => rfl
theorem sameUp_step {ms ns : List (List Int)} {p o : Nat} (ho : o < 4) : SameUp ms ns p (o + 1) ↔ SameUp ms ns p o ∧ atM ns p o = atM ms p o := by
  constructor
  · intro h
    exact ⟨fun i j hj hij => h i j hj (by omega), h p o ho (by omega)⟩
  · rintro ⟨h, h'⟩ i j hj hij
    by_cases hc : i = p ∧ j = o
    · obtain ⟨rfl, rfl⟩ := hc
      exact h'
    · exact h i j hj (by omega)
theorem sameUp_next {ms ns : List (List Int)} {p : Nat} : SameUp ms ns (p + 1) 0 ↔ SameUp ms ns p 4 := by
  constructor
  · intro h i j hj hij
    exact h i j hj (by omega)
  · intro h i j hj hij
    exact h i j hj (by omega)

set_option maxHeartbeats 4000000 in
theorem walk_FnFlatAll (a0 : Option Addr) (len0 cap0 : Nat) (z0 : List Int) (a1 : Option Addr) (len1 cap1 : Nat) (z1 : List Int) (w : World) (hg : ErrT w) (w0 : IsRow .u8 w a0 len0 cap0 z0) (w1 : IsRow .u8 w a1 len1 cap1 z1) :
    Calls Tryd.prog 3 #[.slice a0 len0 cap0, .slice a1 len1 cap1] w fun e w' => e = .returned (.bool true) ∧ Below w.heap.size w w' := by
  by_cases hbig : (1048576 : Int) < (len0 : Int)
  · go_enter Tryd.func3, Tryd.ntmps3
    go_wp2
    go_ret
    exact ⟨rfl, Below.refl _ _⟩
  by_cases hbig' : (1048576 : Int) < (len1 : Int)
  · go_enter Tryd.func3, Tryd.ntmps3
    go_wp2
    go_ret
    exact ⟨rfl, Below.refl _ _⟩
  go_enter Tryd.func3, Tryd.ntmps3
  go_wp2_with (fail)
  refine (drawFlatRead a0 len0 cap0 z0 _ w0).mono ?_
  rintro e v1 ⟨a, n, c, ms, P, O, rfl, ⟨hM, hn6, h4⟩, _, _, B1⟩
  have hn : n ≤ 1048576 := by omega
  have hL : ∀ i, i < n → (ms.getD i []).length ≤ 1048576 := fun i hi => by have := h4 i hi; omega
  have hlm := hM.1
  go_wp2_with (fail)
  refine (implFlatRead _ _ a n c ms P O _ (hg.on B1) hM (Nat.le_refl _) hn).mono ?_
  rintro e v2 ⟨rfl, B2⟩
  have B02 := B1.trans (B2.mono B1.size)
  have hM2 := hM.same (below_sameIn B2 (Nat.le_refl _))
  have s2 : v1.heap.size ≤ v2.heap.size := B2.size
  clear B1 B2 hM
  go_wp2_with (fail)
  refine (specFlatRead _ _ a n c ms P O _ hM2 hn hL).mono ?_
  rintro e v3 ⟨rfl, rfl⟩
  by_cases hbad : rdG ms P O = -3
  · rw [hbad]
    go_wp2_with (fail)
    refine (specFlatRead _ _ a n c ms P O _ hM2 hn hL).mono ?_
    rintro e v4 ⟨rfl, rfl⟩
    rw [hbad]
    go_wp2
    go_ret
    exact ⟨rfl, B02⟩
  obtain ⟨ht, hP, hO⟩ := rdG_not hbad
  obtain ⟨ho, h6⟩ := tabB_ok ht
  obtain rfl : n = 6 := by omega
  have hbad' : (rdG ms P O == -3) = false := by simpa using hbad
  generalize rdG ms P O = got at hbad'
  clear hbad
  go_wp2_with (fail)
  refine (drawFlatRead a1 len1 cap1 z1 _ (w1.below B02)).mono ?_
  rintro e v4 ⟨a', n', c', ns, _, _, rfl, ⟨hN, hn6', h4'⟩, _, _, B4⟩
  have hn' : n' ≤ 1048576 := by omega
  have hL' : ∀ i, i < n' → (ns.getD i []).length ≤ 1048576 := fun i hi => by have := h4' i hi; omega
  have hln := hN.1
  have B04 := B02.trans (B4.mono B02.size)
  have hM4 := hM2.same (below_sameIn B4 s2)
  have s4 := B4.size
  clear B02 B4 hM2
  go_wp2_with (fail)
  refine (specMemOk _ _ a' n' c' ns _ hN hn' hL').mono ?_
  rintro e v5 ⟨rfl, rfl⟩
  have hAt : ∀ (W : World) (p o : Nat), Below v5.heap.size v5 W → p < 6 → o < 4 → Calls Tryd.prog 8 #[.slice a 6 c, .int .i64 p, .int .i64 o] W fun e w' => e = .returned (.tuple #[.int .i64 (atM ms p o), .bool true]) ∧ Below W.heap.size W w' := fun W p o hB hp ho' => by
    have := implMemAt _ _ a 6 c ms p o W (hM4.same (below_sameIn hB (by omega))) (Nat.le_trans (by omega) hB.size) (by omega)
    have hb : atB ms p o = true := goodR_at (goodR_of ht hp ho')
    rw [show atZ ms p o = atM ms p o by rw [atZ, hb]; rfl, hb] at this
    exact this
  have hRd : ∀ (W : World) (p o : Nat), Below v5.heap.size v5 W → p < 6 → o < 4 → Calls Tryd.prog 5 #[.slice a 6 c, .int .i64 p, .int .i64 o] W fun e w' => e = .returned (.int .i64 (atM ms p o)) ∧ Below W.heap.size W w' := fun W p o hB hp ho' => by
    have := implFlatRead _ _ a 6 c ms p o W (hg.on (B04.trans (hB.mono B04.size))) (hM4.same (below_sameIn hB (by omega))) (Nat.le_trans (by omega) hB.size) (by omega)
    rwa [rdG_good ht hp ho'] at this
  cases hw : (okM ns && ((n' : Int) == 6))
  · have hcase : okM ns = false ∨ (okM ns = true ∧ ((n' : Int) == 6) = false) := by
      cases h1 : okM ns
      · exact Or.inl rfl
      · rw [h1] at hw
        exact Or.inr ⟨rfl, by simpa using hw⟩
    have hLoop : True := trivial
    rcases hcase with hw1 | ⟨hw1, hw2⟩
    · rw [hw1]
      clear hLoop hw
      go_wp2
      go_loopw [12, 14, 15, 16, 17] (fun s i _ _ _ wr => ∃ k : Nat, k ≤ 6 ∧ i = .int .i64 k ∧ s = .bool false ∧ Below v5.heap.size v5 wr) (fun _ i _ _ _ _ => 6 - (intOf i).toNat)
      case atStart => exact ⟨0, Nat.zero_le _, rfl, rfl, Below.refl _ _⟩
      case round =>
        obtain ⟨k, hk, rfl, rfl, hB⟩ := hrel
        by_cases hkl : k < 6
        · have hki : (k : Int) < 6 := by omega
          go_wp2
          go_loopw [12, 15, 16, 17] (fun s j _ _ wr => ∃ q : Nat, q ≤ 4 ∧ j = .int .i64 q ∧ s = .bool false ∧ Below v5.heap.size v5 wr) (fun _ j _ _ _ => 4 - (intOf j).toNat)
          case atStart => exact ⟨0, Nat.zero_le _, rfl, rfl, hB⟩
          case round =>
            clear hB
            obtain ⟨q, hq, rfl, rfl, hB⟩ := hrel
            by_cases hql : q < 4
            · have hqi : (q : Int) < 4 := by omega
              go_wp2_with (fail)
              refine (hAt _ k q hB hkl hql).mono ?_
              rintro e w5 ⟨rfl, B5⟩
              have hB5 := hB.trans (B5.mono hB.size)
              clear B5
              go_wp2_with (fail)
              refine (hRd _ k q hB5 hkl hql).mono ?_
              rintro e w6 ⟨rfl, B6⟩
              have hB6 := hB5.trans (B6.mono hB5.size)
              clear B6
              go_wp2
              go_roundw
              case rel => exact ⟨q + 1, by omega, by go_num, rfl, hB6⟩
              case measure => simp [intOf]; omega
            · go_wp2
              go_roundw
              case rel => exact ⟨k + 1, by omega, by go_num, rfl, hB⟩
              case measure => simp [intOf]; omega
        · go_wp2
          go_ret
          exact ⟨rfl, B04.trans (hB.mono B04.size)⟩
    · rw [hw1]
      clear hLoop hw
      go_wp2
      go_loopw [12, 14, 15, 16, 17] (fun s i _ _ _ wr => ∃ k : Nat, k ≤ 6 ∧ i = .int .i64 k ∧ s = .bool false ∧ Below v5.heap.size v5 wr) (fun _ i _ _ _ _ => 6 - (intOf i).toNat)
      case atStart => exact ⟨0, Nat.zero_le _, rfl, rfl, Below.refl _ _⟩
      case round =>
        obtain ⟨k, hk, rfl, rfl, hB⟩ := hrel
        by_cases hkl : k < 6
        · have hki : (k : Int) < 6 := by omega
          go_wp2
          go_loopw [12, 15, 16, 17] (fun s j _ _ wr => ∃ q : Nat, q ≤ 4 ∧ j = .int .i64 q ∧ s = .bool false ∧ Below v5.heap.size v5 wr) (fun _ j _ _ _ => 4 - (intOf j).toNat)
          case atStart => exact ⟨0, Nat.zero_le _, rfl, rfl, hB⟩
          case round =>
            clear hB
            obtain ⟨q, hq, rfl, rfl, hB⟩ := hrel
            by_cases hql : q < 4
            · have hqi : (q : Int) < 4 := by omega
              go_wp2_with (fail)
              refine (hAt _ k q hB hkl hql).mono ?_
              rintro e w5 ⟨rfl, B5⟩
              have hB5 := hB.trans (B5.mono hB.size)
              clear B5
              go_wp2_with (fail)
              refine (hRd _ k q hB5 hkl hql).mono ?_
              rintro e w6 ⟨rfl, B6⟩
              have hB6 := hB5.trans (B6.mono hB5.size)
              clear B6
              go_wp2
              go_roundw
              case rel => exact ⟨q + 1, by omega, by go_num, rfl, hB6⟩
              case measure => simp [intOf]; omega
            · go_wp2
              go_roundw
              case rel => exact ⟨k + 1, by omega, by go_num, rfl, hB⟩
              case measure => simp [intOf]; omega
        · go_wp2
          go_ret
          exact ⟨rfl, B04.trans (hB.mono B04.size)⟩
  · obtain ⟨hw1, hw2⟩ : okM ns = true ∧ ((n' : Int) == 6) = true := by simpa using hw
    obtain rfl : n' = 6 := by simp at hw2; omega
    have hx : tabB ns = true := by simp [tabB, hw1, hln]
    have hRo : ∀ (W : World) (p o : Nat), Below v5.heap.size v5 W → p < 6 → o < 4 → Calls Tryd.prog 5 #[.slice a' 6 c', .int .i64 p, .int .i64 o] W fun e w' => e = .returned (.int .i64 (atM ns p o)) ∧ Below W.heap.size W w' := fun W p o hB hp ho' => by
      have := implFlatRead _ _ a' 6 c' ns p o W (hg.on (B04.trans (hB.mono B04.size))) (hN.same (below_sameIn hB (by omega))) hB.size (by omega)
      rwa [rdG_good hx hp ho'] at this
    rw [hw1]
    clear hw hw2
    go_wp2
    go_loopw [12, 14, 15, 16, 17] (fun s i _ _ _ wr => ∃ k : Nat, ∃ b : Bool, k ≤ 6 ∧ i = .int .i64 k ∧ s = .bool b ∧ Hid (b = true ↔ SameUp ms ns k 0) ∧ Below v5.heap.size v5 wr) (fun _ i _ _ _ _ => 6 - (intOf i).toNat)
    case atStart => exact ⟨0, true, Nat.zero_le _, rfl, rfl, ⟨fun _ i j _ h => by omega, fun _ => rfl⟩, Below.refl _ _⟩
    case round =>
      obtain ⟨k, b, hk, rfl, rfl, hS, hB⟩ := hrel
      by_cases hkl : k < 6
      · have hki : (k : Int) < 6 := by omega
        go_wp2
        go_loopw [12, 15, 16, 17] (fun s j _ _ wr => ∃ q : Nat, ∃ b : Bool, q ≤ 4 ∧ j = .int .i64 q ∧ s = .bool b ∧ Hid (b = true ↔ SameUp ms ns k q) ∧ Below v5.heap.size v5 wr) (fun _ j _ _ _ => 4 - (intOf j).toNat)
        case atStart => exact ⟨0, b, Nat.zero_le _, rfl, rfl, hS, hB⟩
        case round =>
          clear hB hS
          obtain ⟨q, b, hq, rfl, rfl, hS, hB⟩ := hrel
          by_cases hql : q < 4
          · have hqi : (q : Int) < 4 := by omega
            have hst := sameUp_step (ms := ms) (ns := ns) (p := k) hql
            go_wp2_with (fail)
            refine (hAt _ k q hB hkl hql).mono ?_
            rintro e w5 ⟨rfl, B5⟩
            have hB5 := hB.trans (B5.mono hB.size)
            clear B5
            go_wp2_with (fail)
            refine (hRd _ k q hB5 hkl hql).mono ?_
            rintro e w6 ⟨rfl, B6⟩
            have hB6 := hB5.trans (B6.mono hB5.size)
            clear B6
            cases b
            · have HS' : Hid (false = true ↔ SameUp ms ns k (q + 1)) := by
                rw [Hid, hst]
                exact ⟨fun h => (by cases h), fun h => (hS.out.2 h.1)⟩
              clear hst hS
              go_wp2
              go_roundw
              case rel => exact ⟨q + 1, false, by omega, by go_num, rfl, HS', hB6⟩
              case measure => simp [intOf]; omega
            · go_wp2_with (fail)
              refine (hRo _ k q hB6 hkl hql).mono ?_
              rintro e w7 ⟨rfl, B7⟩
              have hB7 := hB6.trans (B7.mono hB6.size)
              have HS' : Hid ((atM ns k q == atM ms k q) = true ↔ SameUp ms ns k (q + 1)) := by
                rw [Hid, hst]
                exact ⟨fun h => ⟨hS.out.1 (by trivial), by simpa using h⟩, fun h => by simpa using h.2⟩
              clear hst hS B7
              go_wp2
              go_roundw
              case rel => exact ⟨q + 1, _, by omega, by go_num, rfl, HS', hB7⟩
              case measure => simp [intOf]; omega
          · obtain rfl : q = 4 := by omega
            have HS' : Hid (b = true ↔ SameUp ms ns (k + 1) 0) := by rw [Hid, sameUp_next]; exact hS.out
            clear hS
            go_wp2
            go_roundw
            case rel => exact ⟨k + 1, b, by omega, by go_num, rfl, HS', hB⟩
            case measure => simp [intOf]; omega
      · obtain rfl : k = 6 := by omega
        have hd : b = decide (ms = ns) := by
          have := hS.out.trans (sameUp_all ht hx)
          cases b
          · exact (decide_eq_false fun e => by simpa using this.2 e).symm
          · exact (decide_eq_true (this.1 rfl)).symm
        rw [hd]
        generalize hdd : decide (ms = ns) = dd
        clear hS hd
        go_wp2_with (fail)
        refine (lkMem_any _ _ _ _ a a' 6 c c' ms ns _ (hM4.same (below_sameIn hB (by omega))) (hN.same (below_sameIn hB (by omega))) (Nat.le_trans (by omega) hB.size) hB.size (by omega) hL (fun i hi => by rw [(okM_get ho (by omega)).1, (okM_get hw1 (by omega)).1])).mono ?_
        rintro e w7 ⟨rfl, B7⟩
        rw [hdd]
        clear hdd
        cases dd
        · go_wp2
          go_ret
          exact ⟨rfl, B04.trans ((hB.trans (B7.mono hB.size)).mono B04.size)⟩
        · go_wp2
          go_ret
          exact ⟨rfl, B04.trans ((hB.trans (B7.mono hB.size)).mono B04.size)⟩
end Go.Proofs.YtcdgahmfggnafafDoor
