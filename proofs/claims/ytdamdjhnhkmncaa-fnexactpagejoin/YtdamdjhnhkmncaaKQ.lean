/-
  What the laws' own measuring of a host does.
-/
import Derived.Test.YtdamdjhnhkmncaaKZ
import Derived.Test.YtdamdjhnhkmncaaKHostMark1
namespace Go.Proofs.Ytdamdjhnhkmncaa
open Go.RowKit

/-- Lengths as a slice may have them. -/
def LenG (g : Gst) : Prop := g.maps.length ≤ maxLen ∧ g.shades.length ≤ maxLen ∧ g.disk.length ≤ maxLen ∧ ∀ j, j < g.disk.length → (g.disk.getD j []).length ≤ maxLen
def LenH (h : Hst) : Prop := h.frames.length ≤ maxLen ∧ (∀ i, i < h.frames.length → (h.frames.getD i []).length ≤ maxLen) ∧ h.guests.length ≤ maxLen ∧ ∀ i, i < h.guests.length → LenG (h.guests.getD i noG)

set_option maxHeartbeats 1000000 in
theorem szMapS_any (a : Option Addr) (len cap : Nat) (n : Nat) (w : World) (hm : len ≤ maxLen) (hn : n ≤ 1048576) :
    Calls Try.prog 129 #[.slice a len cap, .int .i64 n] w fun e w' => e = .returned (.int .i64 (if len ≤ n then (n : Int) - len else -1)) ∧ w' = w := by
  unfold maxLen at hm
  by_cases h : len ≤ n
  · rw [if_pos h]
    have h' : ¬ (n : Int) - (len : Int) < 0 := by omega
    go_enter Try.func129, Try.ntmps129
    go_wp2
    go_ret
    exact ⟨rfl, rfl⟩
  · rw [if_neg h]
    have h' : (n : Int) - (len : Int) < 0 := by omega
    go_enter Try.func129, Try.ntmps129
    go_wp2
    go_ret
    exact ⟨rfl, rfl⟩
set_option maxHeartbeats 1000000 in
theorem szShadeS_any (a : Option Addr) (len cap : Nat) (n : Nat) (w : World) (hm : len ≤ maxLen) (hn : n ≤ 1048576) :
    Calls Try.prog 130 #[.slice a len cap, .int .i64 n] w fun e w' => e = .returned (.int .i64 (if len ≤ n then (n : Int) - len else -1)) ∧ w' = w := by
  unfold maxLen at hm
  by_cases h : len ≤ n
  · rw [if_pos h]
    have h' : ¬ (n : Int) - (len : Int) < 0 := by omega
    go_enter Try.func130, Try.ntmps130
    go_wp2
    go_ret
    exact ⟨rfl, rfl⟩
  · rw [if_neg h]
    have h' : (n : Int) - (len : Int) < 0 := by omega
    go_enter Try.func130, Try.ntmps130
    go_wp2
    go_ret
    exact ⟨rfl, rfl⟩

end Go.Proofs.Ytdamdjhnhkmncaa

/-
  What the laws' own measuring of a host does: with the count of all that is marked.
-/
namespace Go.Proofs.Ytdamdjhnhkmncaa
open Go.RowKit

set_option maxHeartbeats 1000000 in
theorem szIntSS_m (lo hi : Nat) (a : Option Addr) (len cap n0 : Nat) (ms : List (List Int)) (w : World) (h : IsMem w lo hi a len ms) (hm : len ≤ maxLen) (hL : ∀ i, i < len → (ms.getD i []).length ≤ maxLen) (hn0 : n0 ≤ 1048576) :
    Calls Try.prog 56 #[.slice a len cap, .int .i64 n0] w fun e w' => w' = w ∧ ((e = .returned (.int .i64 (-1))) ∨ (∃ n : Nat, e = .returned (.int .i64 n) ∧ n + len + tot ms len = n0 ∧ len ≤ 1048576 ∧ ∀ i, i < len → (ms.getD i []).length ≤ 1048576)) := by
  obtain ⟨hl, hd⟩ := h
  unfold maxLen at hm
  by_cases hbig : n0 < len
  · have h' : (n0 : Int) - (len : Int) < 0 := by omega
    go_enter Try.func56, Try.ntmps56
    go_wp2
    go_ret
    exact ⟨rfl, Or.inl rfl⟩
  · have h' : ¬ (n0 : Int) - (len : Int) < 0 := by omega
    go_enter Try.func56, Try.ntmps56
    go_wp2
    go_loop [1, 5] (fun v i => ∃ k n : Nat, k ≤ len ∧ i = .int .i64 k ∧ v = .int .i64 n ∧ n + len + tot ms k = n0) (fun _ i => len - (intOf i).toNat)
    case atStart => exact ⟨0, n0 - len, Nat.zero_le _, rfl, by go_num, by simp [tot]; omega⟩
    case round =>
      obtain ⟨k, n, hk, rfl, rfl, hs⟩ := hrel
      by_cases hkl : k < len
      · rcases hd with h0 | ⟨b, o, rfl, _, _, hc⟩
        · omega
        obtain ⟨a', l, c, q, hI⟩ := hc k hkl
        have hL1 := hL k hkl
        have hll := hI.1
        rw [hll] at hL1
        have hst := tot_step (ms := ms) (k := k) (by omega)
        rw [hll] at hst
        have hS := szIntS_any a' l c n w hL1 (by omega)
        have hki : (k : Int) < (len : Int) := by omega
        clear hc hI hll
        by_cases hln : l ≤ n
        · rw [if_pos hln] at hS
          have hneg : ¬ (n : Int) - (l : Int) < 0 := by omega
          go_wp2_with (go_at_call 96; refine hS.mono ?_; rintro e w' ⟨rfl, rfl⟩)
          go_round
          case rel => exact ⟨k + 1, n - l, by omega, by go_num, by go_num, by omega⟩
          case measure => simp [intOf]; omega
        · rw [if_neg hln] at hS
          go_wp2_with (go_at_call 96; refine hS.mono ?_; rintro e w' ⟨rfl, rfl⟩)
          go_ret
          exact ⟨rfl, Or.inl rfl⟩
      · have hkk : k = len := by omega
        subst hkk
        go_wp2
        go_ret
        refine ⟨rfl, Or.inr ⟨n, rfl, hs, by omega, fun i hi => ?_⟩⟩
        have := len_le_tot (ms := ms) (k := i) (by omega)
        rw [hl, List.getD_eq_getElem?_getD] at this
        omega

set_option maxHeartbeats 2000000 in
theorem szGuest_m (lo hi : Nat) (vm vd vs : Value) (g : Gst) (n : Nat) (w : World) (hG : GuestIn w lo hi vm vd vs g) (hh : hi ≤ w.heap.size) (hL : LenG g) (hn : n ≤ 1048576) :
    Calls Try.prog 97 #[.agg #[vm, vd, vs], .int .i64 n] w fun e w' => (∃ ob, w' = w.alloc ob) ∧ ((e = .returned (.int .i64 (-1))) ∨ ∃ m : Nat, e = .returned (.int .i64 m) ∧ 4 * m + cntG g ≤ 4 * n ∧ SmallG g) := by
  obtain ⟨⟨a1, c1, rfl, hM⟩, ⟨a2, c2, rfl, hD⟩, a3, c3, rfl, hSh⟩ := hG
  obtain ⟨m1, m2, m3, m4⟩ := hL
  obtain ⟨W0, hW0⟩ : ∃ W0, W0 = w.alloc (.cells #[.slice a1 g.maps.length c1, .slice a2 g.disk.length c2, .slice a3 g.shades.length c3] 125) := ⟨_, rfl⟩
  have B0 : Below w.heap.size w W0 := by rw [hW0]; exact (Below.refl _ _).alloc (Nat.le_refl _) _
  have x1 : W0.cell? ⟨w.heap.size, 1, none⟩ = some (.slice a2 g.disk.length c2) := by rw [hW0]; simp
  have x2 : W0.cell? ⟨w.heap.size, 2, none⟩ = some (.slice a3 g.shades.length c3) := by rw [hW0]; simp
  have hl0 : w.heap.size < W0.heap.size := by rw [hW0]; simp
  have HW0 : Hid (∃ ob, W0 = w.alloc ob) := ⟨_, hW0⟩
  have hc1 := szMapS_any a1 g.maps.length c1 n W0 m1 hn
  have hD0 : Hid (IsMem W0 lo hi a2 g.disk.length g.disk) := hD.same (below_sameIn B0 hh)
  have hc2 := fun (k : Nat) (hk : k ≤ 1048576) => szIntSS_m lo hi a2 g.disk.length c2 k g.disk W0 hD0.out m3 m4 hk
  have hc3 := fun (k : Nat) (hk : k ≤ 1048576) => szShadeS_any a3 g.shades.length c3 k W0 m2 hk
  clear B0 hM hD hSh
  go_enter Try.func97, Try.ntmps97
  by_cases h1 : g.maps.length ≤ n
  · rw [if_pos h1] at hc1
    obtain ⟨n1, hn1⟩ : ∃ n1 : Nat, (n : Int) - g.maps.length = n1 := ⟨n - g.maps.length, by omega⟩
    rw [hn1] at hc1
    have hc2 := hc2 n1 (by omega)
    have hno1 : ¬ (n1 : Int) < 0 := by omega
    generalize hlm : g.maps.length = lm at *
    generalize hld : g.disk.length = ld at *
    generalize hls : g.shades.length = ls at *
    go_wp2_with (fail)
    rw [← hW0]
    clear hW0
    refine hc1.mono ?_
    rintro e w1 ⟨rfl, rfl⟩
    go_wp2_with (fail)
    refine hc2.mono ?_
    rintro e w2 ⟨rfl, he⟩
    rcases he with rfl | ⟨n2, rfl, hn2, hl2, hL2⟩
    · go_wp2
      go_ret
      exact ⟨HW0.out, Or.inl rfl⟩
    · have hno2 : ¬ (n2 : Int) < 0 := by omega
      have hc3 := hc3 n2 (by omega)
      by_cases h3 : ls ≤ n2
      · rw [if_pos h3] at hc3
        obtain ⟨n3, hn3⟩ : ∃ n3 : Nat, (n2 : Int) - ls = n3 := ⟨n2 - ls, by omega⟩
        rw [hn3] at hc3
        have hno3 : ¬ (n3 : Int) < 0 := by omega
        go_wp2_with (fail)
        refine hc3.mono ?_
        rintro e w3 ⟨rfl, rfl⟩
        go_wp2
        go_ret
        exact ⟨HW0.out, Or.inr ⟨n3, rfl, by unfold cntG; rw [hlm, hld, hls]; omega, by omega, by omega, by omega, by rw [hld]; exact hL2⟩⟩
      · rw [if_neg h3] at hc3
        go_wp2_with (fail)
        refine hc3.mono ?_
        rintro e w3 ⟨rfl, rfl⟩
        go_wp2
        go_ret
        exact ⟨HW0.out, Or.inl rfl⟩
  · rw [if_neg h1] at hc1
    generalize hlm : g.maps.length = lm at *
    generalize hld : g.disk.length = ld at *
    generalize hls : g.shades.length = ls at *
    go_wp2_with (fail)
    rw [← hW0]
    clear hW0
    refine hc1.mono ?_
    rintro e w1 ⟨rfl, rfl⟩
    go_wp2
    go_ret
    exact ⟨HW0.out, Or.inl rfl⟩

set_option maxHeartbeats 2000000 in
theorem szGuestS_m (lo hi : Nat) (a : Option Addr) (len cap n0 : Nat) (gs : List Gst) (w : World) (h : IsGuests w lo hi a len gs) (hh : hi ≤ w.heap.size) (hm : len ≤ maxLen) (hL : ∀ i, i < len → LenG (gs.getD i noG)) (hn0 : n0 ≤ 1048576) :
    Calls Try.prog 57 #[.slice a len cap, .int .i64 n0] w fun e w' => Below w.heap.size w w' ∧ ((e = .returned (.int .i64 (-1))) ∨ (∃ n : Nat, e = .returned (.int .i64 n) ∧ 4 * n + cntU gs len ≤ 4 * n0 ∧ len ≤ 1048576 ∧ ∀ i, i < len → SmallG (gs.getD i noG))) := by
  obtain ⟨hl, hd⟩ := h
  unfold maxLen at hm
  by_cases hbig : n0 < len
  · have h' : (n0 : Int) - (len : Int) < 0 := by omega
    go_enter Try.func57, Try.ntmps57
    go_wp2
    go_ret
    exact ⟨Below.refl _ _, Or.inl rfl⟩
  · have h' : ¬ (n0 : Int) - (len : Int) < 0 := by omega
    go_enter Try.func57, Try.ntmps57
    go_wp2
    go_loopw [1, 5] (fun v i wr => ∃ k n : Nat, k ≤ len ∧ i = .int .i64 k ∧ v = .int .i64 n ∧ 4 * n + cntU gs k ≤ 4 * n0 ∧ Hid (∀ i, i < k → SmallG (gs.getD i noG)) ∧ Below w.heap.size w wr) (fun _ i _ => len - (intOf i).toNat)
    case atStart => exact ⟨0, n0 - len, Nat.zero_le _, rfl, by go_num, by simp [cntU]; omega, fun i hi => by omega, Below.refl _ _⟩
    case round =>
      obtain ⟨k, n, hk, rfl, rfl, hnn, hA, hB⟩ := hrel
      by_cases hkl : k < len
      · rcases hd with h0 | ⟨b, o, rfl, _, hb2, hc⟩
        · omega
        have hb : b < w.heap.size := by omega
        obtain ⟨vm, vd, vs, q0, q1, q2, hGk⟩ := hc k hkl
        have hLk := hL k hkl
        obtain ⟨g, hg⟩ : ∃ g, g = gs.getD k noG := ⟨_, rfl⟩
        have Hg : Hid (g = gs.getD k noG) := hg
        have hcs : cntU gs (k + 1) = cntU gs k + cntG g := by rw [cntU_step (by omega), hg]
        have Hcs : Hid (cntU gs (k + 1) = cntU gs k + cntG g) := hcs
        clear hcs
        rw [← hg] at hGk hLk
        clear hg
        have hGs := hGk
        obtain ⟨⟨a1, c1, rfl, _⟩, ⟨a2, c2, rfl, _⟩, a3, c3, rfl, _⟩ := hGs
        have e0 := (hB.cell (p := ⟨b, o + k * 3, none⟩) hb).trans q0
        have e1 := (hB.cell (p := ⟨b, o + k * 3 + 1, none⟩) hb).trans q1
        have e2 := (hB.cell (p := ⟨b, o + k * 3 + 2, none⟩) hb).trans q2
        have sB := hB.size
        have hct := szGuest_m lo hi _ _ _ g n wr (hGk.same (below_sameIn hB hh)) (by omega) hLk (by omega)
        have hki : (k : Int) < (len : Int) := by omega
        clear q0 q1 q2 hc hGk
        generalize g.maps.length = lm at *
        generalize g.disk.length = ld at *
        generalize g.shades.length = ls at *
        go_wp2_with (fail)
        refine hct.mono ?_
        rintro e w1 ⟨⟨ob, rfl⟩, he⟩
        clear hct
        rcases he with rfl | ⟨n1, rfl, hn1, hSm⟩
        · go_wp2
          go_ret
          exact ⟨hB.alloc sB _, Or.inl rfl⟩
        · have hno : ¬ (n1 : Int) < 0 := by omega
          have HA : Hid (∀ i, i < k + 1 → SmallG (gs.getD i noG)) := fun i hi => by
            by_cases hik : i = k
            · subst hik; rw [← Hg.out]; exact hSm
            · exact hA.out i (by omega)
          clear hSm hA
          go_wp2
          go_roundw
          case rel => exact ⟨k + 1, n1, by omega, by go_num, by go_num, by have := Hcs.out; omega, HA, hB.alloc sB _⟩
          case measure => simp [intOf]; omega
      · have hkk : k = len := by omega
        subst hkk
        go_wp2
        go_ret
        exact ⟨hB, Or.inr ⟨n, rfl, hnn, by omega, hA.out⟩⟩

set_option maxHeartbeats 2000000 in
theorem szHost_m (lo hi : Nat) (vf vg : Value) (h : Hst) (w : World) (hH : HostIn w lo hi vf vg h) (hh : hi ≤ w.heap.size) (hL : LenH h) (z : Int) :
    Calls Try.prog 20 #[.agg #[vf, vg, .int .i64 z], .int .i64 1048576] w fun e w' => Below w.heap.size w w' ∧ ((e = .returned (.int .i64 (-1))) ∨ ∃ m : Nat, e = .returned (.int .i64 m) ∧ SmallH h ∧ cntH h ≤ 4194304) := by
  obtain ⟨⟨a1, c1, rfl, hF⟩, a2, c2, rfl, hG⟩ := hH
  obtain ⟨m1, m2, m3, m4⟩ := hL
  obtain ⟨W0, hW0⟩ : ∃ W0, W0 = w.alloc (.cells #[.slice a1 h.frames.length c1, .slice a2 h.guests.length c2, .int .i64 z] 38) := ⟨_, rfl⟩
  have B0 : Below w.heap.size w W0 := by rw [hW0]; exact (Below.refl _ _).alloc (Nat.le_refl _) _
  have x1 : W0.cell? ⟨w.heap.size, 1, none⟩ = some (.slice a2 h.guests.length c2) := by rw [hW0]; simp
  have hl0 : w.heap.size < W0.heap.size := by rw [hW0]; simp
  have hc1 := szIntSS_m lo hi a1 h.frames.length c1 1048576 h.frames W0 (hF.same (below_sameIn B0 hh)) m1 m2 (Nat.le_refl _)
  have hc2 := fun (k : Nat) (hk : k ≤ 1048576) => szGuestS_m lo hi a2 h.guests.length c2 k h.guests W0 (hG.same (below_sameIn B0 hh)) (by omega) m3 m4 hk
  have HB0 : Hid (Below w.heap.size w W0) := B0
  clear hF hG B0
  go_enter Try.func20, Try.ntmps20
  generalize hlm : h.frames.length = lm at *
  generalize hld : h.guests.length = ld at *
  go_wp2_with (fail)
  rw [← hW0]
  clear hW0
  refine hc1.mono ?_
  rintro e w1 ⟨rfl, he⟩
  rcases he with rfl | ⟨n1, rfl, hn1, hl1, hL1⟩
  · go_wp2
    go_ret
    exact ⟨HB0.out, Or.inl rfl⟩
  · have hno1 : ¬ (n1 : Int) < 0 := by omega
    have hc2 := hc2 n1 (by omega)
    go_wp2_with (fail)
    refine hc2.mono ?_
    rintro e w2 ⟨B2, he⟩
    have HB2 : Hid (Below w.heap.size w w2) := HB0.out.trans (B2.mono HB0.out.size)
    clear B2
    rcases he with rfl | ⟨n2, rfl, hn2, hl2, hL2⟩
    · go_wp2
      go_ret
      exact ⟨HB2.out, Or.inl rfl⟩
    · have hno2 : ¬ (n2 : Int) < 0 := by omega
      go_wp2
      go_ret
      exact ⟨HB2.out, Or.inr ⟨n2, rfl, ⟨by omega, by rw [hlm]; exact hL1, by omega, by rw [hld]; exact hL2⟩, by unfold cntH; rw [hlm, hld]; omega⟩⟩
end Go.Proofs.Ytdamdjhnhkmncaa
