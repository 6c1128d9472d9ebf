/-
  What the reader of bytes does at one pick, whatever the bytes are: a number from 0 to n-1, one place further, and nothing else turned.
-/
import Derived.Test.YtjegndgdpmlbaaaKOA
import Derived.Test.YtjegndgdpmlbaaaKOC
namespace Go.Proofs.Ytjegndgdpmlbaaa
open Go.RowKit

set_option maxHeartbeats 400000 in
theorem pick_nil (rb : Nat) (a : Option Addr) (cap : Nat) (n p : Int) (w : World) (hs : w.cell? ⟨rb, 0, none⟩ = some (.slice a 0 cap)) (hp : w.cell? ⟨rb, 1, none⟩ = some (.int .i64 p))
    (hf : w.frozen? ⟨rb, 1, none⟩ = false) (h0 : 0 ≤ p) (h1 : p ≤ 1000000) (hn : 1 ≤ n) :
    Calls Try.prog 61 #[.pointer (some ⟨rb, 0, none⟩), .int .i64 n] w fun e w' => e = .returned (.int .i64 0) ∧ w' = w.setCell ⟨rb, 1, none⟩ (.int .i64 (p + 1)) := by
  have hn' : ¬ n < 1 := by omega
  go_enter Try.func61, Try.ntmps61
  go_wp2
  go_ret
  exact ⟨rfl, rfl⟩

set_option maxHeartbeats 400000 in
theorem pick_in (rb : Nat) (ab ao len cap : Nat) (n z : Int) (k : Nat) (w : World) (hs : w.cell? ⟨rb, 0, none⟩ = some (.slice (some ⟨ab, ao, none⟩) len cap)) (hp : w.cell? ⟨rb, 1, none⟩ = some (.int .i64 k))
    (hf : w.frozen? ⟨rb, 1, none⟩ = false) (h1 : k ≤ 1000000) (hn : 1 ≤ n) (hn2 : n ≤ 1000000) (hk : k < len) (hne : ab ≠ rb)
    (hc : w.cell? ⟨ab, ao + k, none⟩ = some (.int .u8 z)) (hz : 0 ≤ z) (hz2 : z ≤ 255) :
    Calls Try.prog 61 #[.pointer (some ⟨rb, 0, none⟩), .int .i64 n] w fun e w' => e = .returned (.int .i64 (z % n)) ∧ w' = w.setCell ⟨rb, 1, none⟩ (.int .i64 (k + 1)) := by
  have hn' : ¬ n < 1 := by omega
  have hlen : ((len : Int) == 0) = false := by simp; omega
  have hc' : (w.setCell ⟨rb, 1, none⟩ (.int .i64 ((k : Int) + 1))).cell? ⟨ab, ao + k, none⟩ = some (.int .u8 z) := by
    rw [← hc]; exact World.cell?_of_block (Below.heap_setCell _ _ _ _ (by simpa using hne))
  go_enter Try.func61, Try.ntmps61
  go_wp2
  go_ret
  exact ⟨rfl, rfl⟩

set_option maxHeartbeats 1000000 in
theorem pick_out (rb : Nat) (ab ao len cap : Nat) (n z1 z2 : Int) (k : Nat) (w : World) (hs : w.cell? ⟨rb, 0, none⟩ = some (.slice (some ⟨ab, ao, none⟩) len cap)) (hp : w.cell? ⟨rb, 1, none⟩ = some (.int .i64 k))
    (hf : w.frozen? ⟨rb, 1, none⟩ = false) (h1 : k ≤ 1000000) (hn : 1 ≤ n) (hn2 : n ≤ 1000000) (h0 : 0 < len) (hk : len ≤ k) (hne : ab ≠ rb)
    (hc1 : w.cell? ⟨ab, ao + k % len, none⟩ = some (.int .u8 z1)) (hc2 : w.cell? ⟨ab, ao + (k * 7 + 3) % len, none⟩ = some (.int .u8 z2)) (hz1 : 0 ≤ z1) (hz1' : z1 ≤ 255) (hz2 : 0 ≤ z2) (hz2' : z2 ≤ 255) :
    Calls Try.prog 61 #[.pointer (some ⟨rb, 0, none⟩), .int .i64 n] w fun e w' => ∃ v m, e = .returned (.int .i64 v) ∧ 0 ≤ v ∧ v < n ∧ w' = (w.setCell ⟨rb, 1, none⟩ (.int .i64 (k + 1))).drewN m := by
  have hn' : ¬ n < 1 := by omega
  have hlen : ((len : Int) == 0) = false := by simp; omega
  have hk' : ¬ (k : Int) < (len : Int) := by omega
  have q1 : (w.setCell ⟨rb, 1, none⟩ (.int .i64 ((k : Int) + 1))).cell? ⟨ab, ao + k % len, none⟩ = some (.int .u8 z1) := by
    rw [← hc1]; exact World.cell?_of_block (Below.heap_setCell _ _ _ _ (by simpa using hne))
  have q2 : (w.setCell ⟨rb, 1, none⟩ (.int .i64 ((k : Int) + 1))).cell? ⟨ab, ao + (k * 7 + 3) % len, none⟩ = some (.int .u8 z2) := by
    rw [← hc2]; exact World.cell?_of_block (Below.heap_setCell _ _ _ _ (by simpa using hne))
  have e1 : ((k : Int) % (len : Int)).toNat = k % len := by rw [← Int.natCast_emod]; exact Int.toNat_natCast _
  have e2 : (((k : Int) * 7 + 3) % (len : Int)).toNat = (k * 7 + 3) % len := by
    have : ((k : Int) * 7 + 3) = ((k * 7 + 3 : Nat) : Int) := by simp
    rw [this, ← Int.natCast_emod]; exact Int.toNat_natCast _
  have b1 : 0 ≤ (k : Int) % (len : Int) := Int.emod_nonneg _ (by omega)
  have b2 : (k : Int) % (len : Int) < (len : Int) := Int.emod_lt_of_pos _ (by omega)
  have b3 : 0 ≤ ((k : Int) * 7 + 3) % (len : Int) := Int.emod_nonneg _ (by omega)
  have b4 : ((k : Int) * 7 + 3) % (len : Int) < (len : Int) := Int.emod_lt_of_pos _ (by omega)
  have b5 : 0 ≤ (k : Int) / (len : Int) := Int.ediv_nonneg (by omega) (by omega)
  have b6 : (k : Int) / (len : Int) ≤ 1000000 := Int.le_trans (Int.ediv_le_self _ (by omega)) (by omega)
  have hm := mix_bd (z1 * 131 + z2 * 1117 + k * 29 + k / len * 53) n (by omega) (by omega) hn
  have HM : Hid (0 ≤ (bits .xor .i64 (z1 * 131 + z2 * 1117 + k * 29 + k / len * 53) ((z1 * 131 + z2 * 1117 + k * 29 + k / len * 53) / 64)).tmod n ∧ (bits .xor .i64 (z1 * 131 + z2 * 1117 + k * 29 + k / len * 53) ((z1 * 131 + z2 * 1117 + k * 29 + k / len * 53) / 64)).tmod n < n) := hm
  clear hm
  rw [← e1] at q1
  rw [← e2] at q2
  clear e1 e2
  go_enter Try.func61, Try.ntmps61
  go_wp2
  go_quiet (fail)
  go_wp2
  go_ret
  exact ⟨_, _, rfl, HM.out.1, HM.out.2, rfl⟩

/-- A reader in block rb, at place k, over bytes that lie below it. -/
def Rd (w : World) (rb k : Nat) : Prop :=
  ∃ (a : Option Addr) (len cap : Nat), w.cell? ⟨rb, 0, none⟩ = some (.slice a len cap) ∧ w.cell? ⟨rb, 1, none⟩ = some (.int .i64 k) ∧ w.frozen? ⟨rb, 1, none⟩ = false ∧
    (0 < len → ∃ ab ao, a = some ⟨ab, ao, none⟩ ∧ ab < rb ∧ ∀ i, i < len → ∃ z, w.cell? ⟨ab, ao + i, none⟩ = some (.int .u8 z) ∧ 0 ≤ z ∧ z ≤ 255)

theorem pick_any (rb k : Nat) (n : Int) (w : World) (hr : Rd w rb k) (hk : k ≤ 1000000) (hn : 1 ≤ n) (hn2 : n ≤ 1000000) :
    Calls Try.prog 61 #[.pointer (some ⟨rb, 0, none⟩), .int .i64 n] w fun e w' => ∃ v m, e = .returned (.int .i64 v) ∧ 0 ≤ v ∧ v < n ∧ w' = (w.setCell ⟨rb, 1, none⟩ (.int .i64 (k + 1))).drewN m := by
  obtain ⟨a, len, cap, hs, hp, hf, hb⟩ := hr
  by_cases h0 : 0 < len
  · obtain ⟨ab, ao, rfl, hab, hc⟩ := hb h0
    by_cases hlt : k < len
    · obtain ⟨z, hz, z0, z1⟩ := hc k hlt
      refine (pick_in rb ab ao len cap n z k w hs hp hf hk hn hn2 hlt (by omega) hz z0 z1).mono ?_
      rintro e w' ⟨rfl, rfl⟩
      exact ⟨_, 0, rfl, Int.emod_nonneg _ (by omega), Int.emod_lt_of_pos _ (by omega), rfl⟩
    · obtain ⟨z1, hz1, z10, z11⟩ := hc (k % len) (Nat.mod_lt _ h0)
      obtain ⟨z2, hz2, z20, z21⟩ := hc ((k * 7 + 3) % len) (Nat.mod_lt _ h0)
      exact pick_out rb ab ao len cap n z1 z2 k w hs hp hf hk hn hn2 h0 (by omega) (by omega) hz1 hz2 z10 z11 z20 z21
  · obtain rfl : len = 0 := by omega
    refine (pick_nil rb a cap n k w hs hp hf (by omega) (by omega) hn).mono ?_
    rintro e w' ⟨rfl, rfl⟩
    exact ⟨0, 0, rfl, by omega, by omega, rfl⟩

theorem Rd.lt {w : World} {rb k : Nat} (h : Rd w rb k) : rb < w.heap.size := by
  obtain ⟨a, len, cap, hs, _⟩ := h
  exact World.block_lt_of_cell? _ _ hs

/-- The reader moves on: its own place alone has turned. -/
theorem Rd.step {w : World} {rb k : Nat} (h : Rd w rb k) (k' : Nat) : Rd (w.setCell ⟨rb, 1, none⟩ (.int .i64 k')) rb k' := by
  obtain ⟨a, len, cap, hs, hp, hf, hb⟩ := h
  refine ⟨a, len, cap, ?_, ?_, ?_, fun h0 => ?_⟩
  · go_simp
  · go_simp
  · go_simp
  · obtain ⟨ab, ao, rfl, hab, hc⟩ := hb h0
    refine ⟨ab, ao, rfl, hab, fun i hi => ?_⟩
    obtain ⟨z, hz, z0, z1⟩ := hc i hi
    exact ⟨z, by rw [← hz]; exact World.cell?_of_block (Below.heap_setCell _ _ _ _ (by simp; omega)), z0, z1⟩

/-- What lies below keeps a reader. -/
theorem Rd.below {w w' : World} {rb k N : Nat} (h : Rd w rb k) (hb : Below N w w') (hN : rb < N) : Rd w' rb k := by
  obtain ⟨a, len, cap, hs, hp, hf, hc⟩ := h
  refine ⟨a, len, cap, (hb.cell (p := ⟨rb, 0, none⟩) hN).trans hs, (hb.cell (p := ⟨rb, 1, none⟩) hN).trans hp, (hb.frozen (p := ⟨rb, 1, none⟩) hN).trans hf, fun h0 => ?_⟩
  obtain ⟨ab, ao, rfl, hab, hc⟩ := hc h0
  refine ⟨ab, ao, rfl, hab, fun i hi => ?_⟩
  obtain ⟨z, hz, z0, z1⟩ := hc i hi
  exact ⟨z, (hb.cell (p := ⟨ab, ao + i, none⟩) (Nat.lt_trans hab hN)).trans hz, z0, z1⟩

end Go.Proofs.Ytjegndgdpmlbaaa

/-
  What a reader that was just laid is told of.
-/
namespace Go.Proofs.Ytjegndgdpmlbaaa
open Go.RowKit

/-- What the walk is told of a slice of bytes that came in. -/
def IsRow (k : IntKind) (w : World) (a : Option Addr) (len cap : Nat) (zs : List Int) : Prop :=
  (a = none ∧ len = 0 ∧ cap = 0 ∧ zs = []) ∨
  ∃ x, a = some x ∧ len ≤ cap ∧ cap ≤ maxLen ∧ zs.length = cap ∧ (∀ i, i < zs.length → w.cell? (x.add i) = some (.int k (zs.getD i 0))) ∧ ∀ n ∈ zs, (Lit.int k n).wf = true

/-- A reader that was just laid, over bytes that came in. -/
theorem rd_new {w : World} {a : Option Addr} {len cap len' : Nat} {zs : List Int} (h : IsRow .u8 w a len cap zs) (hl : len' ≤ len) (k : Nat) (t : TypeId) :
    Rd (w.alloc (.cells #[.slice a len' cap, .int .i64 k] t)) w.heap.size k := by
  refine ⟨a, len', cap, by simp, by simp, by simp, fun h0 => ?_⟩
  rcases h with ⟨_, rfl, _, _⟩ | ⟨x, rfl, hle, hm, hz, hc, hw⟩
  · omega
  · obtain ⟨b, off, spot⟩ := x
    have hc0 := hc 0 (by omega)
    have hspot : spot = none := by simpa [Addr.add] using World.cell?_spot hc0
    subst hspot
    refine ⟨b, off, rfl, ?_, fun i hi => ?_⟩
    · exact World.block_lt_of_cell? _ _ hc0
    · have hci := hc i (by omega)
      have e : (⟨b, off, none⟩ : Addr).add i = ⟨b, off + i, none⟩ := by by_cases h : i = 0 <;> simp [Addr.add, h]
      have hci' : w.cell? ⟨b, off + i, none⟩ = some (.int .u8 (zs.getD i 0)) := by rw [← e]; exact hci
      have hwf := hw (zs.getD i 0) (by rw [List.getD_eq_getElem?_getD, List.getElem?_eq_getElem (by omega)]; simp)
      have hbd := bounds_u8 hwf
      refine ⟨zs.getD i 0, ?_, hbd.1, hbd.2⟩
      rw [World.cell?_alloc_lt _ _ _ (World.block_lt_of_cell? _ _ hci')]
      exact hci'

set_option maxHeartbeats 400000 in
theorem open_any (a : Option Addr) (len cap : Nat) (zs : List Int) (w : World) (h : IsRow .u8 w a len cap zs) :
    Calls Try.prog 46 #[.slice a len cap] w fun e w' => e = .returned (.pointer (some ⟨w.heap.size, 0, none⟩)) ∧ ∃ len', len' ≤ len ∧ w' = w.alloc (.cells #[.slice a len' cap, .int .i64 0] 98) := by
  by_cases h2 : (2000 : Int) < (len : Int)
  · rcases h with ⟨_, rfl, _, _⟩ | ⟨x, rfl, hle, hm, hz, hc, hw⟩
    · omega
    · unfold maxLen at hm
      go_enter Try.func46, Try.ntmps46
      go_wp2
      go_ret
      exact ⟨rfl, 2000, by omega, rfl⟩
  · go_enter Try.func46, Try.ntmps46
    go_wp2
    go_ret
    exact ⟨rfl, len, Nat.le_refl _, rfl⟩

end Go.Proofs.Ytjegndgdpmlbaaa

/-
  A call that moves one reader on and else only makes memory: what it keeps.
-/
namespace Go.Proofs.Ytjegndgdpmlbaaa
open Go.RowKit

/-- All blocks but the reader's are as they were; the streams are; no block has gone. -/
structure Adv (rb : Nat) (w w' : World) : Prop where
  os : w'.os = w.os
  tape : w'.tape = w.tape
  output : w'.output = w.output
  size : w.heap.size ≤ w'.heap.size
  block : ∀ k, k < w.heap.size → k ≠ rb → w'.heap[k]? = w.heap[k]?

theorem Adv.refl (rb : Nat) (w : World) : Adv rb w w := ⟨rfl, rfl, rfl, Nat.le_refl _, fun _ _ _ => rfl⟩
theorem Adv.trans {rb : Nat} {a b c : World} (h : Adv rb a b) (k : Adv rb b c) : Adv rb a c :=
  ⟨k.os.trans h.os, k.tape.trans h.tape, k.output.trans h.output, Nat.le_trans h.size k.size, fun i hi hn => (k.block i (Nat.lt_of_lt_of_le hi h.size) hn).trans (h.block i hi hn)⟩
theorem Adv.of_below {rb N : Nat} {w w' : World} (h : Below N w w') (hN : w.heap.size ≤ N) : Adv rb w w' := ⟨h.os, h.tape, h.output, h.size, fun k hk _ => h.block k (Nat.lt_of_lt_of_le hk hN)⟩
theorem Adv.alloc {rb : Nat} {a w : World} (h : Adv rb a w) (o : Obj) : Adv rb a (w.alloc o) :=
  h.trans (Adv.of_below ((Below.refl w.heap.size w).alloc (Nat.le_refl _) o) (Nat.le_refl _))
theorem Adv.drewN {rb : Nat} {a w : World} (h : Adv rb a w) (n : Nat) : Adv rb a (w.drewN n) := h.trans (Adv.of_below (below_drewN (Below.refl w.heap.size w) n) (Nat.le_refl _))
theorem Adv.drew {rb : Nat} {a w : World} (h : Adv rb a w) : Adv rb a w.drew := h.trans (Adv.of_below (Below.refl w.heap.size w).drew (Nat.le_refl _))
theorem Adv.setCell {rb : Nat} {a w : World} (h : Adv rb a w) {p : Addr} (hp : p.block = rb ∨ a.heap.size ≤ p.block) (u : Value) : Adv rb a (w.setCell p u) :=
  ⟨h.os, h.tape, h.output, by simpa [World.setCell] using h.size, fun k hk hn => (Below.heap_setCell _ _ _ _ (by omega)).trans (h.block k hk hn)⟩
theorem Adv.cell {rb : Nat} {w w' : World} (h : Adv rb w w') {p : Addr} (hp : p.block < w.heap.size) (hn : p.block ≠ rb) : w'.cell? p = w.cell? p := World.cell?_of_block (w := w) (h.block p.block hp hn)
theorem Adv.frozen {rb : Nat} {w w' : World} (h : Adv rb w w') {p : Addr} (hp : p.block < w.heap.size) (hn : p.block ≠ rb) : w'.frozen? p = w.frozen? p := World.frozen?_of_block (w := w) (h.block p.block hp hn)
/-- Below the reader nothing has turned. -/
theorem Adv.below {rb B : Nat} {w w' : World} (h : Adv rb w w') (hB : B ≤ rb) (hs : B ≤ w.heap.size) : Below B w w' := ⟨h.os, h.tape, h.output, h.size, fun k hk => h.block k (by omega) (by omega)⟩

theorem Rd.alloc {w : World} {rb k : Nat} (h : Rd w rb k) (o : Obj) : Rd (w.alloc o) rb k := h.below ((Below.refl w.heap.size w).alloc (Nat.le_refl _) o) h.lt
theorem Rd.drewN {w : World} {rb k : Nat} (h : Rd w rb k) (n : Nat) : Rd (w.drewN n) rb k := h.below (below_drewN (Below.refl w.heap.size w) n) h.lt
theorem Rd.drew {w : World} {rb k : Nat} (h : Rd w rb k) : Rd w.drew rb k := h.below (Below.refl w.heap.size w).drew h.lt
theorem Rd.step1 {w : World} {rb k : Nat} (h : Rd w rb k) : Rd (w.setCell ⟨rb, 1, none⟩ (.int .i64 ((k : Int) + 1))) rb (k + 1) := h.step (k + 1)
/-- A reader, at whatever place. -/
def RdA (w : World) (rb : Nat) : Prop := ∃ k : Nat, Rd w rb k
theorem Rd.toA {w : World} {rb k : Nat} (h : Rd w rb k) : RdA w rb := ⟨k, h⟩
theorem Rd.stepZ {w : World} {rb : Nat} (h : RdA w rb) (x : Int) (k' : Nat) (hx : x = (k' : Int)) : Rd (w.setCell ⟨rb, 1, none⟩ (.int .i64 x)) rb k' := by
  subst hx; obtain ⟨k, h⟩ := h; exact h.step k'
theorem RdA.alloc {w : World} {rb : Nat} (h : RdA w rb) (o : Obj) : RdA (w.alloc o) rb := by obtain ⟨k, h⟩ := h; exact (h.alloc o).toA
theorem RdA.drewN {w : World} {rb : Nat} (h : RdA w rb) (n : Nat) : RdA (w.drewN n) rb := by obtain ⟨k, h⟩ := h; exact (h.drewN n).toA
theorem RdA.drew {w : World} {rb : Nat} (h : RdA w rb) : RdA w.drew rb := by obtain ⟨k, h⟩ := h; exact h.drew.toA
theorem RdA.step1 {w : World} {rb : Nat} (h : RdA w rb) (k : Nat) : RdA (w.setCell ⟨rb, 1, none⟩ (.int .i64 ((k : Int) + 1))) rb := (Rd.stepZ h _ (k + 1) (by simp)).toA
theorem Rd.other {w : World} {rb k : Nat} (h : Rd w rb k) (b o : Nat) (hb : rb < b) (u : Value) : Rd (w.setCell ⟨b, o, none⟩ u) rb k :=
  h.below ((Below.refl b w).setCell (p := ⟨b, o, none⟩) (Nat.le_refl _) u) hb

theorem RdA.other {w : World} {rb : Nat} (h : RdA w rb) (b o : Nat) (hb : rb < b) (u : Value) : RdA (w.setCell ⟨b, o, none⟩ u) rb := by obtain ⟨k, h⟩ := h; exact (h.other b o hb u).toA

theorem IsRow.below {t : IntKind} {w w' : World} {a : Option Addr} {len cap : Nat} {zs : List Int} (h : IsRow t w a len cap zs) (hb : Below w.heap.size w w') : IsRow t w' a len cap zs := by
  rcases h with h | ⟨x, rfl, hle, hm, hz, hc, hw⟩
  · exact Or.inl h
  · refine Or.inr ⟨x, rfl, hle, hm, hz, fun i hi => ?_, hw⟩
    have := hc i hi
    rw [← this]
    exact hb.cell (World.block_lt_of_cell? _ _ this)
theorem IsRow.alloc {t : IntKind} {w : World} {a : Option Addr} {len cap : Nat} {zs : List Int} (h : IsRow t w a len cap zs) (o : Obj) : IsRow t (w.alloc o) a len cap zs :=
  h.below ((Below.refl w.heap.size w).alloc (Nat.le_refl _) o)

end Go.Proofs.Ytjegndgdpmlbaaa

/-
  Numbers that are drawn: a pick, a word.
-/
namespace Go.Proofs.Ytjegndgdpmlbaaa
open Go.RowKit

/-- A pick: a number, one place further. -/
theorem pickA (rb k : Nat) (n : Int) (w : World) (hr : Rd w rb k) (hk : k ≤ 900000) (hn : 1 ≤ n) (hn2 : n ≤ 1000000) :
    Calls Try.prog 61 #[.pointer (some ⟨rb, 0, none⟩), .int .i64 n] w fun e w' => ∃ v : Nat, e = .returned (.int .i64 v) ∧ (v : Int) < n ∧ Rd w' rb (k + 1) ∧ Adv rb w w' := by
  refine (pick_any rb k n w hr (by omega) (by omega) (by omega)).mono ?_
  rintro e w' ⟨v, m, rfl, h0, h1, rfl⟩
  obtain ⟨v, rfl⟩ := Int.eq_ofNat_of_zero_le h0
  refine ⟨v, rfl, by omega, ?_, ?_⟩
  · exact (hr.step1).drewN m
  · exact ((Adv.refl _ _).setCell (p := ⟨rb, 1, none⟩) (Or.inl rfl) _).drewN m

set_option maxHeartbeats 1000000 in
theorem drawWord (rb k : Nat) (w : World) (hr : Rd w rb k) (hk : k ≤ 800000) :
    Calls Try.prog 105 #[.pointer (some ⟨rb, 0, none⟩)] w fun e w' => ∃ z k' : Nat, e = .returned (.int .i64 z) ∧ z ≤ 63 ∧ Rd w' rb k' ∧ k' ≤ k + 2 ∧ Adv rb w w' := by
  go_enter Try.func105, Try.ntmps105
  go_wp2_with (fail)
  refine (pickA rb k 3 _ hr (by omega) (by omega) (by omega)).mono ?_
  rintro e w1 ⟨v, rfl, hv, hr1, ha1⟩
  go_wp2_with (fail)
  · refine (pickA rb (k + 1) 64 _ hr1 (by omega) (by omega) (by omega)).mono ?_
    rintro e w2 ⟨v2, rfl, hv2, hr2, ha2⟩
    have hA := ha1.trans ha2
    go_wp2
    go_ret
    exact ⟨v2, k + 2, rfl, by omega, hr2, by omega, hA⟩
  · refine (pickA rb (k + 1) 14 _ hr1 (by omega) (by omega) (by omega)).mono ?_
    rintro e w2 ⟨v2, rfl, hv2, hr2, ha2⟩
    have hA := ha1.trans ha2
    go_wp2
    go_ret
    exact ⟨v2, k + 2, rfl, by omega, hr2, by omega, hA⟩

end Go.Proofs.Ytjegndgdpmlbaaa

/-
  What the drawing of memory gives, whatever the bytes are: some pages of some words in new memory.
-/
namespace Go.Proofs.Ytjegndgdpmlbaaa
open Go.RowKit

/-- Pages of words that may be written, whatever they are. -/
def MemShape (w : World) (lo hi m T o n : Nat) : Prop :=
  lo ≤ T ∧ T < hi ∧ ∀ i, i < n → ∃ p l c, m ≤ l ∧ l ≤ 4 ∧ lo ≤ p ∧ p < hi ∧ p ≠ T ∧ w.cell? ⟨T, o + i, none⟩ = some (.slice (some ⟨p, 0, none⟩) l c) ∧ w.frozen? ⟨T, o + i, none⟩ = false ∧
    ∀ j, j < l → (∃ z, w.cell? ⟨p, j, none⟩ = some (.int .i64 z)) ∧ w.frozen? ⟨p, j, none⟩ = false
theorem MemShape.same {w w' : World} {lo hi m T o n : Nat} (h : MemShape w lo hi m T o n) (s : SameIn lo hi w w') : MemShape w' lo hi m T o n := by
  obtain ⟨h1, h2, h⟩ := h
  refine ⟨h1, h2, fun i hi => ?_⟩
  obtain ⟨p, l, c, g1, g2, g3, g4, g5, g6, g7, g8⟩ := h i hi
  exact ⟨p, l, c, g1, g2, g3, g4, g5, (s.cell h1 h2).trans g6, (s.frozen h1 h2).trans g7, fun j hj => ⟨(g8 j hj).1.imp fun _ e => (s.cell g3 g4).trans e, (s.frozen g3 g4).trans (g8 j hj).2⟩⟩
theorem MemShape.wide {w : World} {lo hi lo' hi' m T o n : Nat} (h : MemShape w lo hi m T o n) (h1 : lo' ≤ lo) (h2 : hi ≤ hi') : MemShape w lo' hi' m T o n := by
  obtain ⟨k1, k2, h⟩ := h
  refine ⟨by omega, by omega, fun i hi => ?_⟩
  obtain ⟨p, l, c, g1, g2, g3, g4, g5⟩ := h i hi
  exact ⟨p, l, c, g1, g2, by omega, by omega, g5⟩
theorem MemShape.drop {w : World} {lo hi m T o n : Nat} (h : MemShape w lo hi m T o (n + 1)) : MemShape w lo hi m T (o + 1) n := by
  obtain ⟨h1, h2, h⟩ := h
  refine ⟨h1, h2, fun i hi => ?_⟩
  have := h (i + 1) (by omega)
  rwa [show o + (i + 1) = o + 1 + i by omega] at this
/-- A word is written. -/
theorem MemShape.word {w : World} {lo hi m T o n : Nat} (h : MemShape w lo hi m T o n) {p : Nat} (hp : p ≠ T) (j : Nat) (z : Int) : MemShape (w.setCell ⟨p, j, none⟩ (.int .i64 z)) lo hi m T o n := by
  obtain ⟨h1, h2, h⟩ := h
  refine ⟨h1, h2, fun i hi => ?_⟩
  obtain ⟨q, l, c, g1, g2, g3, g4, g5, g6, g7, g8⟩ := h i hi
  refine ⟨q, l, c, g1, g2, g3, g4, g5, ?_, ?_, fun x hx => ⟨?_, ?_⟩⟩
  · rw [cell_off (fun e => hp e.symm)]; exact g6
  · rw [frozen_put]; exact g7
  · obtain ⟨y, hy⟩ := (g8 x hx).1
    by_cases hqp : q = p
    · subst hqp
      rw [cell_put hy]
      by_cases hxj : x = j
      · exact ⟨z, by rw [if_pos hxj]⟩
      · exact ⟨y, by rw [if_neg hxj]⟩
    · exact ⟨y, by rw [cell_off hqp]; exact hy⟩
  · rw [frozen_put]; exact (g8 x hx).2
/-- A page is put in the place of another. -/
theorem MemShape.page {w : World} {lo hi m T o n i : Nat} (h : MemShape w lo hi m T o n) (hi' : i < n) {p l c : Nat} (h1 : m ≤ l) (h4 : l ≤ 4) (hp1 : lo ≤ p) (hp2 : p < hi) (hpT : p ≠ T)
    (hc : ∀ j, j < l → (∃ z, w.cell? ⟨p, j, none⟩ = some (.int .i64 z)) ∧ w.frozen? ⟨p, j, none⟩ = false) : MemShape (w.setCell ⟨T, o + i, none⟩ (.slice (some ⟨p, 0, none⟩) l c)) lo hi m T o n := by
  obtain ⟨k1, k2, h⟩ := h
  refine ⟨k1, k2, fun x hx => ?_⟩
  obtain ⟨q, l', c', g1, g2, g3, g4, g5, g6, g7, g8⟩ := h x hx
  by_cases hxi : x = i
  · subst hxi
    refine ⟨p, l, c, h1, h4, hp1, hp2, hpT, ?_, ?_, fun j hj => ⟨?_, ?_⟩⟩
    · rw [cell_put g6, if_pos rfl]
    · rw [frozen_put]; exact g7
    · rw [cell_off hpT]; exact (hc j hj).1
    · rw [frozen_put]; exact (hc j hj).2
  · refine ⟨q, l', c', g1, g2, g3, g4, g5, ?_, ?_, fun j hj => ⟨?_, ?_⟩⟩
    · rw [cell_put g6, if_neg (by omega)]
    · rw [frozen_put]; exact g7
    · rw [cell_off g5]; exact (g8 j hj).1
    · rw [frozen_put]; exact (g8 j hj).2
theorem MemShape.mem {w : World} {lo hi m T o n : Nat} (h : MemShape w lo hi m T o n) : ∃ ms, IsMem w lo hi (some ⟨T, o, none⟩) n ms ∧ ∀ i, i < n → (ms.getD i []).length ≤ 4 := by
  obtain ⟨h1, h2, h⟩ := h
  have each : ∀ i, i < n → ∃ r : Nat × Nat × Nat × List Int, w.cell? ⟨T, o + i, none⟩ = some (.slice (some ⟨r.1, 0, none⟩) r.2.1 r.2.2.1) ∧ r.2.2.2.length = r.2.1 ∧ r.2.1 ≤ 4 ∧ lo ≤ r.1 ∧ r.1 < hi ∧ Ints w r.1 0 r.2.2.2 := by
    intro i hi
    obtain ⟨p, l, c, g1, g2, g3, g4, g5, g6, g7, g8⟩ := h i hi
    obtain ⟨f, hf⟩ := Go.Deep.choose_lt (α := Int) (fun j hj => (g8 j hj).1)
    refine ⟨(p, l, c, (List.range l).map f), g6, by simp, g2, g3, g4, fun j hj => ?_⟩
    have hj' : j < l := by simpa using hj
    rw [Nat.zero_add, hf j hj']
    simp [List.getD_eq_getElem?_getD, hj']
  obtain ⟨f, hf⟩ := Go.Deep.choose_lt (α := Nat × Nat × Nat × List Int) each
  have hg : ∀ i, i < n → ((List.range n).map fun i => (f i).2.2.2).getD i [] = (f i).2.2.2 := fun i hi => by simp [List.getD_eq_getElem?_getD, hi]
  refine ⟨(List.range n).map fun i => (f i).2.2.2, ⟨by simp, Or.inr ⟨T, o, rfl, h1, h2, fun i hi => ?_⟩⟩, fun i hi => ?_⟩
  · obtain ⟨k1, k2, k3, k4, k5, k6⟩ := hf i hi
    rw [hg i hi]
    exact ⟨_, _, _, k1, k2, Or.inr ⟨_, 0, rfl, k4, k5, k6⟩⟩
  · rw [hg i hi, (hf i hi).2.1]
    exact (hf i hi).2.2.1

theorem MemShape.drew {w : World} {lo hi m T o n : Nat} (h : MemShape w lo hi m T o n) : MemShape w.drew lo hi m T o n := h.same (fun _ _ _ => rfl)
theorem MemShape.weak {w : World} {lo hi m m' T o n : Nat} (h : MemShape w lo hi m T o n) (hm : m' ≤ m) : MemShape w lo hi m' T o n := by
  obtain ⟨k1, k2, h⟩ := h
  refine ⟨k1, k2, fun i hi => ?_⟩
  obtain ⟨p, l, c, g1, g⟩ := h i hi
  exact ⟨p, l, c, by omega, g⟩

end Go.Proofs.Ytjegndgdpmlbaaa

/-
  What the drawing of memory that may be spoilt gives, whatever the bytes are.
-/
namespace Go.Proofs.Ytjegndgdpmlbaaa
open Go.RowKit

theorem two_new (w : World) (x y : Int) (t : TypeId) : ∀ j, j < 2 → (∃ z, (w.alloc (.cells #[.int .i64 x, .int .i64 y] t)).cell? ⟨w.heap.size, j, none⟩ = some (.int .i64 z)) ∧ (w.alloc (.cells #[.int .i64 x, .int .i64 y] t)).frozen? ⟨w.heap.size, j, none⟩ = false := by
  intro j hj
  match j, hj with
  | 0, _ => exact ⟨⟨x, by simp⟩, by simp⟩
  | 1, _ => exact ⟨⟨y, by simp⟩, by simp⟩

/-- Two words in a block. -/
def Two (w : World) (b : Nat) : Prop := b < w.heap.size ∧ ∀ j, j < 2 → ∃ z, w.cell? ⟨b, j, none⟩ = some (.int .i64 z)
theorem Two.adv {rb b : Nat} {w w' : World} (h : Two w b) (ha : Adv rb w w') (hn : rb < b) : Two w' b :=
  ⟨Nat.lt_of_lt_of_le h.1 ha.size, fun j hj => (h.2 j hj).imp fun _ e => (ha.cell (p := ⟨b, j, none⟩) h.1 (by simp; omega)).trans e⟩
theorem two_made (w : World) (x y : Int) (t : TypeId) : Two (w.alloc (.cells #[.int .i64 x, .int .i64 y] t)) w.heap.size := ⟨by simp, fun j hj => (two_new w x y t j hj).1⟩

end Go.Proofs.Ytjegndgdpmlbaaa
