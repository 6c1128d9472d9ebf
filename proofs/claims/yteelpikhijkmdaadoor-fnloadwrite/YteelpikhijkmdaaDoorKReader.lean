/-
  What the reader of bytes does at one pick, whatever the bytes are: a number from 0 to n-1, one place further, and nothing else turned.
-/
import Derived.Test.YteelpikhijkmdaaDoorKA
namespace Go.Proofs.YteelpikhijkmdaaDoor
open Go.RowKit

set_option maxHeartbeats 400000 in
theorem pick_nil (rb : Nat) (a : Option Addr) (cap : Nat) (n p : Int) (w : World) (hs : w.cell? ⟨rb, 0, none⟩ = some (.slice a 0 cap)) (hp : w.cell? ⟨rb, 1, none⟩ = some (.int .i64 p))
    (hf : w.frozen? ⟨rb, 1, none⟩ = false) (h0 : 0 ≤ p) (h1 : p ≤ 1000000) (hn : 1 ≤ n) :
    Calls Tryd.prog 55 #[.pointer (some ⟨rb, 0, none⟩), .int .i64 n] w fun e w' => e = .returned (.int .i64 0) ∧ w' = w.setCell ⟨rb, 1, none⟩ (.int .i64 (p + 1)) := by
  have hn' : ¬ n < 1 := by omega
  go_enter Tryd.func55, Tryd.ntmps55
  go_wp2
  go_ret
  exact ⟨rfl, rfl⟩

set_option maxHeartbeats 400000 in
theorem pick_in (rb : Nat) (ab ao len cap : Nat) (n z : Int) (k : Nat) (w : World) (hs : w.cell? ⟨rb, 0, none⟩ = some (.slice (some ⟨ab, ao, none⟩) len cap)) (hp : w.cell? ⟨rb, 1, none⟩ = some (.int .i64 k))
    (hf : w.frozen? ⟨rb, 1, none⟩ = false) (h1 : k ≤ 1000000) (hn : 1 ≤ n) (hn2 : n ≤ 1000000) (hk : k < len) (hne : ab ≠ rb)
    (hc : w.cell? ⟨ab, ao + k, none⟩ = some (.int .u8 z)) (hz : 0 ≤ z) (hz2 : z ≤ 255) :
    Calls Tryd.prog 55 #[.pointer (some ⟨rb, 0, none⟩), .int .i64 n] w fun e w' => e = .returned (.int .i64 (z % n)) ∧ w' = w.setCell ⟨rb, 1, none⟩ (.int .i64 (k + 1)) := by
  have hn' : ¬ n < 1 := by omega
  have hlen : ((len : Int) == 0) = false := by simp; omega
  have hc' : (w.setCell ⟨rb, 1, none⟩ (.int .i64 ((k : Int) + 1))).cell? ⟨ab, ao + k, none⟩ = some (.int .u8 z) := by
    rw [← hc]; exact World.cell?_of_block (Below.heap_setCell _ _ _ _ (by simpa using hne))
  go_enter Tryd.func55, Tryd.ntmps55
  go_wp2
  go_ret
  exact ⟨rfl, rfl⟩

set_option maxHeartbeats 1000000 in
theorem pick_out (rb : Nat) (ab ao len cap : Nat) (n z1 z2 : Int) (k : Nat) (w : World) (hs : w.cell? ⟨rb, 0, none⟩ = some (.slice (some ⟨ab, ao, none⟩) len cap)) (hp : w.cell? ⟨rb, 1, none⟩ = some (.int .i64 k))
    (hf : w.frozen? ⟨rb, 1, none⟩ = false) (h1 : k ≤ 1000000) (hn : 1 ≤ n) (hn2 : n ≤ 1000000) (h0 : 0 < len) (hk : len ≤ k) (hne : ab ≠ rb)
    (hc1 : w.cell? ⟨ab, ao + k % len, none⟩ = some (.int .u8 z1)) (hc2 : w.cell? ⟨ab, ao + (k * 7 + 3) % len, none⟩ = some (.int .u8 z2)) (hz1 : 0 ≤ z1) (hz1' : z1 ≤ 255) (hz2 : 0 ≤ z2) (hz2' : z2 ≤ 255) :
    Calls Tryd.prog 55 #[.pointer (some ⟨rb, 0, none⟩), .int .i64 n] w fun e w' => ∃ v m, e = .returned (.int .i64 v) ∧ 0 ≤ v ∧ v < n ∧ w' = (w.setCell ⟨rb, 1, none⟩ (.int .i64 (k + 1))).drewN m := by
  have hn' : ¬ n < 1 := by omega
  have hlen : ((len : Int) == 0) = false := by simp; omega
  have hk' : ¬ (k : Int) < (len : Int) := by omega
  have q1 : (w.setCell ⟨rb, 1, none⟩ (.int .i64 ((k : Int) + 1))).cell? ⟨ab, ao + k % len, none⟩ = some (.int .u8 z1) := by
    rw [← hc1]; exact World.cell?_of_block (Below.heap_setCell _ _ _ _ (by simpa using hne))
  have q2 : (w.setCell ⟨rb, 1, none⟩ (.int .i64 ((k : Int) + 1))).cell? ⟨ab, ao + (k * 7 + 3) % len, none⟩ = some (.int .u8 z2) := by
    rw [← hc2]; exact World.cell?_of_block (Below.heap_setCell _ _ _ _ (by simpa using hne))
  have e1 : ((k : Int) % (len : Int)).toNat = k % len := by rw [← Int.natCast_emod]; exact Int.toNat_natCast _
  have e2 : (((k : Int) * 7 + 3) % (len : Int)).toNat = (k * 7 + 3) % len := by
    have : ((k : Int) * 7 + 3) = ((k * 7 + 3 : Nat) : Int) := by simp
    rw [this, ← Int.natCast_emod]; exact Int.toNat_natCast _
  have b1 : 0 ≤ (k : Int) % (len : Int) := Int.emod_nonneg _ (by omega)
  have b2 : (k : Int) % (len : Int) < (len : Int) := Int.emod_lt_of_pos _ (by omega)
  have b3 : 0 ≤ ((k : Int) * 7 + 3) % (len : Int) := Int.emod_nonneg _ (by omega)
  have b4 : ((k : Int) * 7 + 3) % (len : Int) < (len : Int) := Int.emod_lt_of_pos _ (by omega)
  have b5 : 0 ≤ (k : Int) / (len : Int) := Int.ediv_nonneg (by omega) (by omega)
  have b6 : (k : Int) / (len : Int) ≤ 1000000 := Int.le_trans (Int.ediv_le_self _ (by omega)) (by omega)
  have hm := mix_bd (z1 * 131 + z2 * 1117 + k * 29 + k / len * 53) n (by omega) (by omega) hn
  have HM : Hid (0 ≤ (bits .xor .i64 (z1 * 131 + z2 * 1117 + k * 29 + k / len * 53) ((z1 * 131 + z2 * 1117 + k * 29 + k / len * 53) / 64)).tmod n ∧ (bits .xor .i64 (z1 * 131 + z2 * 1117 + k * 29 + k / len * 53) ((z1 * 131 + z2 * 1117 + k * 29 + k / len * 53) / 64)).tmod n < n) := hm
  clear hm
  rw [← e1] at q1
  rw [← e2] at q2
  clear e1 e2
  go_enter Tryd.func55, Tryd.ntmps55
  go_wp2
  go_quiet (fail)
  go_wp2
  go_ret
  exact ⟨_, _, rfl, HM.out.1, HM.out.2, rfl⟩

/-- A reader in block rb, at place k, over bytes that lie below it. -/
def Rd (w : World) (rb k : Nat) : Prop :=
  ∃ (a : Option Addr) (len cap : Nat), w.cell? ⟨rb, 0, none⟩ = some (.slice a len cap) ∧ w.cell? ⟨rb, 1, none⟩ = some (.int .i64 k) ∧ w.frozen? ⟨rb, 1, none⟩ = false ∧
    (0 < len → ∃ ab ao, a = some ⟨ab, ao, none⟩ ∧ ab < rb ∧ ∀ i, i < len → ∃ z, w.cell? ⟨ab, ao + i, none⟩ = some (.int .u8 z) ∧ 0 ≤ z ∧ z ≤ 255)

theorem pick_any (rb k : Nat) (n : Int) (w : World) (hr : Rd w rb k) (hk : k ≤ 1000000) (hn : 1 ≤ n) (hn2 : n ≤ 1000000) :
    Calls Tryd.prog 55 #[.pointer (some ⟨rb, 0, none⟩), .int .i64 n] w fun e w' => ∃ v m, e = .returned (.int .i64 v) ∧ 0 ≤ v ∧ v < n ∧ w' = (w.setCell ⟨rb, 1, none⟩ (.int .i64 (k + 1))).drewN m := by
  obtain ⟨a, len, cap, hs, hp, hf, hb⟩ := hr
  by_cases h0 : 0 < len
  · obtain ⟨ab, ao, rfl, hab, hc⟩ := hb h0
    by_cases hlt : k < len
    · obtain ⟨z, hz, z0, z1⟩ := hc k hlt
      refine (pick_in rb ab ao len cap n z k w hs hp hf hk hn hn2 hlt (by omega) hz z0 z1).mono ?_
      rintro e w' ⟨rfl, rfl⟩
      exact ⟨_, 0, rfl, Int.emod_nonneg _ (by omega), Int.emod_lt_of_pos _ (by omega), rfl⟩
    · obtain ⟨z1, hz1, z10, z11⟩ := hc (k % len) (Nat.mod_lt _ h0)
      obtain ⟨z2, hz2, z20, z21⟩ := hc ((k * 7 + 3) % len) (Nat.mod_lt _ h0)
      exact pick_out rb ab ao len cap n z1 z2 k w hs hp hf hk hn hn2 h0 (by omega) (by omega) hz1 hz2 z10 z11 z20 z21
  · obtain rfl : len = 0 := by omega
    refine (pick_nil rb a cap n k w hs hp hf (by omega) (by omega) hn).mono ?_
    rintro e w' ⟨rfl, rfl⟩
    exact ⟨0, 0, rfl, by omega, by omega, rfl⟩

theorem Rd.lt {w : World} {rb k : Nat} (h : Rd w rb k) : rb < w.heap.size := by
  obtain ⟨a, len, cap, hs, _⟩ := h
  exact World.block_lt_of_cell? _ _ hs

/-- The reader moves on: its own place alone has turned. -/
theorem Rd.step {w : World} {rb k : Nat} (h : Rd w rb k) (k' : Nat) : Rd (w.setCell ⟨rb, 1, none⟩ (.int .i64 k')) rb k' := by
  obtain ⟨a, len, cap, hs, hp, hf, hb⟩ := h
  refine ⟨a, len, cap, ?_, ?_, ?_, fun h0 => ?_⟩
  · go_simp
  · go_simp
  · go_simp
  · obtain ⟨ab, ao, rfl, hab, hc⟩ := hb h0
    refine ⟨ab, ao, rfl, hab, fun i hi => ?_⟩
    obtain ⟨z, hz, z0, z1⟩ := hc i hi
    exact ⟨z, by rw [← hz]; exact World.cell?_of_block (Below.heap_setCell _ _ _ _ (by simp; omega)), z0, z1⟩

/-- What lies below keeps a reader. -/
theorem Rd.below {w w' : World} {rb k N : Nat} (h : Rd w rb k) (hb : Below N w w') (hN : rb < N) : Rd w' rb k := by
  obtain ⟨a, len, cap, hs, hp, hf, hc⟩ := h
  refine ⟨a, len, cap, (hb.cell (p := ⟨rb, 0, none⟩) hN).trans hs, (hb.cell (p := ⟨rb, 1, none⟩) hN).trans hp, (hb.frozen (p := ⟨rb, 1, none⟩) hN).trans hf, fun h0 => ?_⟩
  obtain ⟨ab, ao, rfl, hab, hc⟩ := hc h0
  refine ⟨ab, ao, rfl, hab, fun i hi => ?_⟩
  obtain ⟨z, hz, z0, z1⟩ := hc i hi
  exact ⟨z, (hb.cell (p := ⟨ab, ao + i, none⟩) (Nat.lt_trans hab hN)).trans hz, z0, z1⟩

end Go.Proofs.YteelpikhijkmdaaDoor
