/-
  Plain facts for the walks of this seat: the exclusive or of two numbers that are not negative is one; what a reader of bytes is told.
-/
import Derived.Test.YtjegndgdpmlbaaaRows
import Derived.WalkKit
import Derived.WalkSpells
import Derived.WalkLawsBesides
import Derived.ProofKit
import Derived.OpenShut
import Derived.Below
import Derived.Deep.QuietTactic
import Derived.BigQuiet
import Derived.Deep.RegionWith
import Derived.Deep.Slices
namespace Go.Proofs.Ytjegndgdpmlbaaa
open Go.RowKit

theorem i64_xor_nat (a b : Nat) (ha : a < 4611686018427387904) (hb : b < 4611686018427387904) :
    bits .xor .i64 (a : Int) (b : Int) = ((a ^^^ b : Nat) : Int) := by
  have hx : a ^^^ b < 2 ^ 62 := Nat.xor_lt_two_pow (by omega) (by omega)
  have h1 : (BitVec.ofInt 64 (a : Int)).toNat = a := by
    rw [BitVec.ofInt_natCast, BitVec.toNat_ofNat]; exact Nat.mod_eq_of_lt (by omega)
  have h2 : (BitVec.ofInt 64 (b : Int)).toNat = b := by
    rw [BitVec.ofInt_natCast, BitVec.toNat_ofNat]; exact Nat.mod_eq_of_lt (by omega)
  show IntKind.i64.wrap ((BitVec.ofInt 64 (a : Int) ^^^ BitVec.ofInt 64 (b : Int)).toNat : Int) = _
  rw [BitVec.toNat_xor, h1, h2]
  simp [IntKind.wrap, IntKind.bits, IntKind.signed]
  omega

theorem xor_pos (x y : Int) (hx : 0 ≤ x) (hy : 0 ≤ y) (hx' : x < 4611686018427387904) (hy' : y < 4611686018427387904) : 0 ≤ bits .xor .i64 x y := by
  obtain ⟨a, rfl⟩ := Int.eq_ofNat_of_zero_le hx
  obtain ⟨b, rfl⟩ := Int.eq_ofNat_of_zero_le hy
  rw [i64_xor_nat a b (by omega) (by omega)]
  exact Int.natCast_nonneg _

theorem mix_bd (x n : Int) (hx : 0 ≤ x) (hx' : x < 4611686018427387904) (hn : 1 ≤ n) : 0 ≤ (bits .xor .i64 x (x / 64)).tmod n ∧ (bits .xor .i64 x (x / 64)).tmod n < n := by
  have h := xor_pos x (x / 64) hx (by omega) hx' (by omega)
  rw [Int.tmod_eq_emod_of_nonneg h]
  exact ⟨Int.emod_nonneg _ (by omega), Int.emod_lt_of_pos _ (by omega)⟩

end Go.Proofs.Ytjegndgdpmlbaaa

/-
  What the tests on tables do: the given one and the program's own.
-/
namespace Go.Proofs.Ytjegndgdpmlbaaa
open Go.RowKit

/-- An entry: whether there is something, its page, whether it may be written. -/
abbrev E3 := Bool × Int × Bool

/-- A row of entries in memory. -/
def Ents (w : World) (b o : Nat) (es : List E3) : Prop :=
  ∀ i, i < es.length → w.cell? ⟨b, o + i * 3, none⟩ = some (.bool (es.getD i (false, 0, false)).1) ∧ w.cell? ⟨b, o + i * 3 + 1, none⟩ = some (.int .i64 (es.getD i (false, 0, false)).2.1) ∧ w.cell? ⟨b, o + i * 3 + 2, none⟩ = some (.bool (es.getD i (false, 0, false)).2.2)

end Go.Proofs.Ytjegndgdpmlbaaa

/-
  Tables in memory: what is kept of them, and how they are written entry by entry.
-/
namespace Go.Proofs.Ytjegndgdpmlbaaa
open Go.RowKit

/-- A table that came in: empty, or a row of entries in old memory. -/
def IsEnts (w : World) (a : Option Addr) (len : Nat) (es : List E3) : Prop :=
  es.length = len ∧ (len = 0 ∨ ∃ b o, a = some ⟨b, o, none⟩ ∧ b < w.heap.size ∧ Ents w b o es)

theorem Ents.below {N : Nat} {w w' : World} {b o : Nat} {es : List E3} (h : Ents w b o es) (hb : Below N w w') (hN : b < N) : Ents w' b o es := fun i hi =>
  ⟨(hb.cell (p := ⟨b, o + i * 3, none⟩) hN).trans (h i hi).1, (hb.cell (p := ⟨b, o + i * 3 + 1, none⟩) hN).trans (h i hi).2.1, (hb.cell (p := ⟨b, o + i * 3 + 2, none⟩) hN).trans (h i hi).2.2⟩
theorem IsEnts.below {w w' : World} {a : Option Addr} {len : Nat} {es : List E3} (h : IsEnts w a len es) (hb : Below w.heap.size w w') : IsEnts w' a len es := by
  obtain ⟨hl, h⟩ := h
  rcases h with h | ⟨b, o, rfl, hlt, h⟩
  · exact ⟨hl, Or.inl h⟩
  · exact ⟨hl, Or.inr ⟨b, o, rfl, Nat.lt_of_lt_of_le hlt hb.size, h.below hb hlt⟩⟩

/-- A block of so many cells, each of which may be written. -/
def Room (w : World) (b n : Nat) : Prop := ∀ j, j < n → (∃ v, w.cell? ⟨b, j, none⟩ = some v) ∧ w.frozen? ⟨b, j, none⟩ = false
theorem Room.below {N : Nat} {w w' : World} {b n : Nat} (h : Room w b n) (hb : Below N w w') (hN : b < N) : Room w' b n := fun j hj =>
  ⟨(h j hj).1.imp fun _ hv => (hb.cell (p := ⟨b, j, none⟩) hN).trans hv, (hb.frozen (p := ⟨b, j, none⟩) hN).trans (h j hj).2⟩

theorem cell_put {w : World} {b j i : Nat} {u v : Value} (h : w.cell? ⟨b, i, none⟩ = some v) : (w.setCell ⟨b, j, none⟩ u).cell? ⟨b, i, none⟩ = some (if i = j then u else v) := by
  by_cases e : i = j
  · subst e; go_simp
  · rw [if_neg e, ← h]; go_simp

theorem Room.put {w : World} {b n j : Nat} (h : Room w b n) (u : Value) : Room (w.setCell ⟨b, j, none⟩ u) b n := by
  intro i hi
  obtain ⟨⟨v, hv⟩, hf⟩ := h i hi
  exact ⟨⟨_, cell_put hv⟩, by rw [← hf]; go_simp⟩

theorem room_made (w : World) (z : Array Value) (n : Nat) (t : TypeId) : Room (w.alloc (.cells (madeCells z n) t)) w.heap.size n := by
  intro j hj
  have hs := size_madeCells z n
  refine ⟨⟨(madeCells z n)[j]'(by omega), ?_⟩, by simp⟩
  simp [hs, hj]

end Go.Proofs.Ytjegndgdpmlbaaa

/-
  Memory as it lies: rows of words, pages of them; what is kept of them, and what of them is a call's own.
-/
namespace Go.Proofs.Ytjegndgdpmlbaaa
open Go.RowKit

/-- Words from a place of a block on. -/
def Ints (w : World) (b o : Nat) (zs : List Int) : Prop := ∀ i, i < zs.length → w.cell? ⟨b, o + i, none⟩ = some (.int .i64 (zs.getD i 0))

/-- A list of words, all of it between two blocks. -/
def IsInts (w : World) (lo hi : Nat) (a : Option Addr) (len : Nat) (zs : List Int) : Prop :=
  zs.length = len ∧ (len = 0 ∨ ∃ b o, a = some ⟨b, o, none⟩ ∧ lo ≤ b ∧ b < hi ∧ Ints w b o zs)

/-- A list of lists of words, all of it between two blocks. -/
def IsMem (w : World) (lo hi : Nat) (a : Option Addr) (len : Nat) (ms : List (List Int)) : Prop :=
  ms.length = len ∧ (len = 0 ∨ ∃ b o, a = some ⟨b, o, none⟩ ∧ lo ≤ b ∧ b < hi ∧ ∀ i, i < len → ∃ a' l c, w.cell? ⟨b, o + i, none⟩ = some (.slice a' l c) ∧ IsInts w lo hi a' l (ms.getD i []))

/-- Of a row of pages the first ones are there, each in a block of its own. -/
def OwnUpto (w : World) (T lo hi k : Nat) (ms : List (List Int)) : Prop :=
  ∃ bs : Nat → Nat, (∀ i j, i < j → j < k → bs i < bs j) ∧ ∀ i, i < k → lo ≤ bs i ∧ bs i < hi ∧ bs i ≠ T ∧
    (∃ c, w.cell? ⟨T, i, none⟩ = some (.slice (some ⟨bs i, 0, none⟩) (ms.getD i []).length c)) ∧ w.frozen? ⟨T, i, none⟩ = false ∧
    Ints w (bs i) 0 (ms.getD i []) ∧ ∀ j, j < (ms.getD i []).length → w.frozen? ⟨bs i, j, none⟩ = false

/-- Memory that is a call's own: each page has a block of its own. -/
def OwnMem (w : World) (lo hi : Nat) (a : Option Addr) (len : Nat) (ms : List (List Int)) : Prop :=
  ms.length = len ∧ (len = 0 ∨ ∃ T, a = some ⟨T, 0, none⟩ ∧ lo ≤ T ∧ T < hi ∧ OwnUpto w T lo hi len ms)

/-- All blocks but those between two are as they were. -/
structure Amid (lo hi : Nat) (w w' : World) : Prop where
  os : w'.os = w.os
  tape : w'.tape = w.tape
  output : w'.output = w.output
  size : w'.heap.size = w.heap.size
  block : ∀ k, k < lo ∨ hi ≤ k → w'.heap[k]? = w.heap[k]?

theorem Amid.refl (lo hi : Nat) (w : World) : Amid lo hi w w := ⟨rfl, rfl, rfl, rfl, fun _ _ => rfl⟩
theorem Amid.trans {lo hi : Nat} {a b c : World} (h : Amid lo hi a b) (g : Amid lo hi b c) : Amid lo hi a c :=
  ⟨g.os.trans h.os, g.tape.trans h.tape, g.output.trans h.output, g.size.trans h.size, fun k hk => (g.block k hk).trans (h.block k hk)⟩
theorem Amid.put {lo hi : Nat} {w w' : World} (h : Amid lo hi w w') {b : Nat} (hl : lo ≤ b) (hh : b < hi) (j : Nat) (u : Value) : Amid lo hi w (w'.setCell ⟨b, j, none⟩ u) :=
  ⟨h.os, h.tape, h.output, by simpa [World.setCell] using h.size, fun k hk => (Below.heap_setCell _ _ _ _ (by simp; omega)).trans (h.block k hk)⟩
theorem Amid.below {lo hi B : Nat} {w w' : World} (h : Amid lo hi w w') (hB : B ≤ lo) : Below B w w' := ⟨h.os, h.tape, h.output, Nat.le_of_eq h.size.symm, fun k hk => h.block k (by omega)⟩

/-- What is the same in all blocks between two. -/
def SameIn (lo hi : Nat) (w w' : World) : Prop := ∀ k, lo ≤ k → k < hi → w'.heap[k]? = w.heap[k]?
theorem below_sameIn {N lo hi : Nat} {w w' : World} (h : Below N w w') (hh : hi ≤ N) : SameIn lo hi w w' := fun k _ hk => h.block k (by omega)
theorem Amid.same {lo' hi' lo hi : Nat} {w w' : World} (h : Amid lo' hi' w w') (hh : hi ≤ lo' ∨ hi' ≤ lo) : SameIn lo hi w w' := fun k h1 h2 => h.block k (by omega)
theorem SameIn.cell {lo hi : Nat} {w w' : World} (h : SameIn lo hi w w') {b o : Nat} (hl : lo ≤ b) (hh : b < hi) : w'.cell? ⟨b, o, none⟩ = w.cell? ⟨b, o, none⟩ := World.cell?_of_block (a := ⟨b, o, none⟩) (h b hl hh)
theorem SameIn.frozen {lo hi : Nat} {w w' : World} (h : SameIn lo hi w w') {b o : Nat} (hl : lo ≤ b) (hh : b < hi) : w'.frozen? ⟨b, o, none⟩ = w.frozen? ⟨b, o, none⟩ := World.frozen?_of_block (a := ⟨b, o, none⟩) (h b hl hh)

theorem Ints.same {lo hi : Nat} {w w' : World} (s : SameIn lo hi w w') {b o : Nat} {zs : List Int} (h : Ints w b o zs) (hl : lo ≤ b) (hh : b < hi) : Ints w' b o zs := fun i hi => (s.cell hl hh).trans (h i hi)
theorem Ints.below {N : Nat} {w w' : World} {b o : Nat} {zs : List Int} (h : Ints w b o zs) (hb : Below N w w') (hN : b < N) : Ints w' b o zs := fun i hi => (hb.cell (p := ⟨b, o + i, none⟩) hN).trans (h i hi)
theorem IsInts.same {lo hi : Nat} {w w' : World} (s : SameIn lo hi w w') {a : Option Addr} {len : Nat} {zs : List Int} (h : IsInts w lo hi a len zs) : IsInts w' lo hi a len zs := by
  obtain ⟨hl, h⟩ := h
  rcases h with h | ⟨b, o, rfl, h1, h2, h⟩
  · exact ⟨hl, Or.inl h⟩
  · exact ⟨hl, Or.inr ⟨b, o, rfl, h1, h2, h.same s h1 h2⟩⟩
theorem IsInts.wide {lo hi lo' hi' : Nat} {w : World} {a : Option Addr} {len : Nat} {zs : List Int} (h : IsInts w lo hi a len zs) (h1 : lo' ≤ lo) (h2 : hi ≤ hi') : IsInts w lo' hi' a len zs := by
  obtain ⟨hl, h⟩ := h
  rcases h with h | ⟨b, o, rfl, g1, g2, h⟩
  · exact ⟨hl, Or.inl h⟩
  · exact ⟨hl, Or.inr ⟨b, o, rfl, by omega, by omega, h⟩⟩
theorem IsMem.same {lo hi : Nat} {w w' : World} (s : SameIn lo hi w w') {a : Option Addr} {len : Nat} {ms : List (List Int)} (h : IsMem w lo hi a len ms) : IsMem w' lo hi a len ms := by
  obtain ⟨hl, h⟩ := h
  rcases h with h | ⟨b, o, rfl, h1, h2, h⟩
  · exact ⟨hl, Or.inl h⟩
  · refine ⟨hl, Or.inr ⟨b, o, rfl, h1, h2, fun i hi => ?_⟩⟩
    obtain ⟨a', l, c, hc, hI⟩ := h i hi
    exact ⟨a', l, c, (s.cell h1 h2).trans hc, hI.same s⟩
theorem IsMem.wide {lo hi lo' hi' : Nat} {w : World} {a : Option Addr} {len : Nat} {ms : List (List Int)} (h : IsMem w lo hi a len ms) (h1 : lo' ≤ lo) (h2 : hi ≤ hi') : IsMem w lo' hi' a len ms := by
  obtain ⟨hl, h⟩ := h
  rcases h with h | ⟨b, o, rfl, g1, g2, h⟩
  · exact ⟨hl, Or.inl h⟩
  · refine ⟨hl, Or.inr ⟨b, o, rfl, by omega, by omega, fun i hi => ?_⟩⟩
    obtain ⟨a', l, c, hc, hI⟩ := h i hi
    exact ⟨a', l, c, hc, hI.wide h1 h2⟩
theorem OwnUpto.same {lo hi : Nat} {w w' : World} (s : SameIn lo hi w w') {T k : Nat} {ms : List (List Int)} (h : OwnUpto w T lo hi k ms) (h1 : lo ≤ T) (h2 : T < hi) : OwnUpto w' T lo hi k ms := by
  obtain ⟨bs, hm, h⟩ := h
  refine ⟨bs, hm, fun i hi => ?_⟩
  obtain ⟨g1, g2, g3, ⟨c, g4⟩, g5, g6, g7⟩ := h i hi
  exact ⟨g1, g2, g3, ⟨c, (s.cell h1 h2).trans g4⟩, (s.frozen h1 h2).trans g5, g6.same s g1 g2, fun j hj => (s.frozen g1 g2).trans (g7 j hj)⟩
theorem OwnMem.same {lo hi : Nat} {w w' : World} (s : SameIn lo hi w w') {a : Option Addr} {len : Nat} {ms : List (List Int)} (h : OwnMem w lo hi a len ms) : OwnMem w' lo hi a len ms := by
  obtain ⟨hl, h⟩ := h
  rcases h with h | ⟨T, rfl, h1, h2, h⟩
  · exact ⟨hl, Or.inl h⟩
  · exact ⟨hl, Or.inr ⟨T, rfl, h1, h2, h.same s h1 h2⟩⟩
theorem OwnMem.wide {lo hi lo' hi' : Nat} {w : World} {a : Option Addr} {len : Nat} {ms : List (List Int)} (h : OwnMem w lo hi a len ms) (h1 : lo' ≤ lo) (h2 : hi ≤ hi') : OwnMem w lo' hi' a len ms := by
  obtain ⟨hl, h⟩ := h
  rcases h with h | ⟨T, rfl, g1, g2, bs, hm, h⟩
  · exact ⟨hl, Or.inl h⟩
  · refine ⟨hl, Or.inr ⟨T, rfl, by omega, by omega, bs, hm, fun i hi => ?_⟩⟩
    obtain ⟨k1, k2, k3⟩ := h i hi
    exact ⟨by omega, by omega, k3⟩
theorem OwnMem.mem {lo hi : Nat} {w : World} {a : Option Addr} {len : Nat} {ms : List (List Int)} (h : OwnMem w lo hi a len ms) : IsMem w lo hi a len ms := by
  obtain ⟨hl, h⟩ := h
  rcases h with h | ⟨T, rfl, h1, h2, bs, _, h⟩
  · exact ⟨hl, Or.inl h⟩
  · refine ⟨hl, Or.inr ⟨T, 0, rfl, h1, h2, fun i hi => ?_⟩⟩
    obtain ⟨g1, g2, _, ⟨c, g4⟩, _, g6, _⟩ := h i hi
    exact ⟨_, _, c, by simpa using g4, rfl, Or.inr ⟨_, 0, rfl, g1, g2, g6⟩⟩

theorem cell_off {w : World} {b b' j i : Nat} {u : Value} (h : b' ≠ b) : (w.setCell ⟨b, j, none⟩ u).cell? ⟨b', i, none⟩ = w.cell? ⟨b', i, none⟩ :=
  World.cell?_of_block (a := ⟨b', i, none⟩) (Below.heap_setCell _ _ _ _ (by simpa using h))
theorem frozen_put {w : World} {b b' j i : Nat} {u : Value} : (w.setCell ⟨b, j, none⟩ u).frozen? ⟨b', i, none⟩ = w.frozen? ⟨b', i, none⟩ := by go_simp

/-- One page more. -/
theorem OwnUpto.step {w w' : World} {T lo hi k p l c : Nat} {ms : List (List Int)} (h : OwnUpto w T lo hi k ms) (s : SameIn lo hi w w') (hT1 : lo ≤ T) (hT2 : T < hi)
    (hp : hi ≤ p) {hi' : Nat} (hp' : p < hi') (hl : (ms.getD k []).length = l) (hI : Ints w' p 0 (ms.getD k [])) (hF : ∀ j, j < l → w'.frozen? ⟨p, j, none⟩ = false)
    {v : Value} (hv : w.cell? ⟨T, k, none⟩ = some v) (hf : w.frozen? ⟨T, k, none⟩ = false) :
    OwnUpto (w'.setCell ⟨T, k, none⟩ (.slice (some ⟨p, 0, none⟩) l c)) T lo hi' (k + 1) ms := by
  obtain ⟨bs, hm, h⟩ := h
  have hv' : w'.cell? ⟨T, k, none⟩ = some v := (s.cell hT1 hT2).trans hv
  have hf' : w'.frozen? ⟨T, k, none⟩ = false := (s.frozen hT1 hT2).trans hf
  obtain ⟨bs', e1, e2⟩ : ∃ bs' : Nat → Nat, bs' k = p ∧ ∀ i, i ≠ k → bs' i = bs i := ⟨fun i => if i = k then p else bs i, by simp, fun i h => by simp [h]⟩
  refine ⟨bs', fun i j hij hj => ?_, fun i hik1 => ?_⟩
  · rw [e2 i (by omega)]
    by_cases hjk : j = k
    · rw [hjk, e1]
      have := (h i (by omega)).2.1
      omega
    · rw [e2 j hjk]
      exact hm i j hij (by omega)
  · by_cases hik : i = k
    · subst hik
      rw [e1]
      refine ⟨by omega, hp', by omega, ⟨c, ?_⟩, ?_, fun j hj => ?_, fun j hj => ?_⟩
      · rw [cell_put hv', if_pos rfl, hl]
      · rw [frozen_put]; exact hf'
      · rw [cell_off (by omega)]; exact hI j hj
      · rw [frozen_put]; exact hF j (by omega)
    · obtain ⟨g1, g2, g3, ⟨c', g4⟩, g5, g6, g7⟩ := h i (by omega)
      rw [e2 i hik]
      refine ⟨g1, by omega, g3, ⟨c', ?_⟩, ?_, fun j hj => ?_, fun j hj => ?_⟩
      · rw [cell_put ((s.cell hT1 hT2).trans g4), if_neg hik]
      · rw [frozen_put]; exact (s.frozen hT1 hT2).trans g5
      · rw [cell_off g3, s.cell g1 g2]; exact g6 j hj
      · rw [frozen_put, s.frozen g1 g2]; exact g7 j hj

/-- One word more is written. -/
theorem ints_put {w : World} {b n k : Nat} {zs : List Int} (hR : Room w b n) (hE : Ints w b 0 (zs.take k)) (hk : k < zs.length) (hn : k < n) {z : Int} (hg : zs.getD k 0 = z) :
    Ints (w.setCell ⟨b, k, none⟩ (.int .i64 z)) b 0 (zs.take (k + 1)) := by
  intro i hi
  simp only [List.length_take] at hi
  simp only [Nat.zero_add]
  have hget : (zs.take (k + 1)).getD i 0 = zs.getD i 0 := by
    simp only [List.getD_eq_getElem?_getD]
    rw [List.getElem?_take_of_lt (by omega)]
  rw [hget]
  by_cases hik : i = k
  · subst hik
    obtain ⟨⟨u0, d0⟩, _⟩ := hR i hn
    rw [cell_put d0, if_pos rfl, hg]
  · have hi' : i < (zs.take k).length := by simp only [List.length_take]; omega
    have e0 := hE i hi'
    simp only [Nat.zero_add] at e0
    have hget' : (zs.take k).getD i 0 = zs.getD i 0 := by
      simp only [List.getD_eq_getElem?_getD]
      rw [List.getElem?_take_of_lt (by omega)]
    rw [hget'] at e0
    rw [cell_put e0, if_neg hik]

/-- A word in the place of another. -/
theorem ints_set {w : World} {b o k : Nat} {zs : List Int} (hE : Ints w b o zs) (z : Int) :
    Ints (w.setCell ⟨b, o + k, none⟩ (.int .i64 z)) b o (zs.set k z) := by
  intro i hi
  simp only [List.length_set] at hi
  rw [cell_put (hE i hi)]
  by_cases hik : i = k
  · subst hik
    rw [if_pos rfl, List.getD_eq_getElem?_getD, List.getElem?_set_self hi]; rfl
  · rw [if_neg (by omega), List.getD_eq_getElem?_getD, List.getD_eq_getElem?_getD, List.getElem?_set_ne (by omega)]

theorem getD_lt {α : Type} {l : List α} {k : Nat} {d : α} (h : k < l.length) : l.getD k d = l[k] := by rw [List.getD_eq_getElem?_getD, List.getElem?_eq_getElem h]; rfl

/-- Whether a word is one; whether a page is; whether memory is. -/
def okZ (z : Int) : Bool := decide (0 ≤ z) && decide (z ≤ 63)
def okP (zs : List Int) : Bool := zs.all okZ && (zs.length == 4)
def okM (ms : List (List Int)) : Bool := ms.all okP
theorem all_no {α : Type} {f : α → Bool} {es : List α} {k : Nat} (h : k < es.length) (hf : f es[k] = false) : es.all f = false := by
  rw [List.all_eq_false]
  exact ⟨es[k], List.getElem_mem h, by simp [hf]⟩
theorem all_more {α : Type} {f : α → Bool} {es : List α} {k : Nat} (h : k < es.length) (ha : (es.take k).all f = true) (hf : f es[k] = true) : (es.take (k + 1)).all f = true := by
  rw [List.take_succ_eq_append_getElem h, List.all_append, ha]
  simp [hf]
theorem okM_get {ms : List (List Int)} (h : okM ms = true) {k : Nat} (hk : k < ms.length) : (ms.getD k []).length = 4 ∧ ∀ j, j < 4 → 0 ≤ (ms.getD k []).getD j 0 ∧ (ms.getD k []).getD j 0 ≤ 63 := by
  unfold okM at h
  rw [List.all_eq_true] at h
  have h1 := h _ (List.getElem_mem hk)
  rw [getD_lt hk]
  simp only [okP, Bool.and_eq_true, beq_iff_eq, List.all_eq_true] at h1
  refine ⟨h1.2, fun j hj => ?_⟩
  have h2 := h1.1 _ (List.getElem_mem (show j < ms[k].length by omega))
  rw [getD_lt (by omega)]
  simpa [okZ] using h2
/-- A page's four words. -/
theorem four {zs : List Int} (h : zs.length = 4) : zs = [zs.getD 0 0, zs.getD 1 0, zs.getD 2 0, zs.getD 3 0] := by
  match zs, h with
  | [_, _, _, _], _ => rfl
theorem okP_four {zs : List Int} (h : okP zs = true) : zs = [zs.getD 0 0, zs.getD 1 0, zs.getD 2 0, zs.getD 3 0] := four (by simp [okP] at h; exact h.2)

end Go.Proofs.Ytjegndgdpmlbaaa

/-
  Hosts as they lie in memory: maps, shades, guests, hosts; what is kept of them.
-/
namespace Go.Proofs.Ytjegndgdpmlbaaa
open Go.RowKit

/-- A shade: whether there is one, its page, its frame, whether it may be written. -/
abbrev S4 := Bool × Int × Int × Bool
def noS : S4 := (false, 0, 0, false)
def noM : E3 := (false, 0, false)
/-- A guest, a host. -/
structure Gst where
  maps : List E3
  disk : List (List Int)
  shades : List S4
structure Hst where
  frames : List (List Int)
  guests : List Gst
  hand : Int
def noG : Gst := ⟨[], [], []⟩

/-- Shades from a place of a block on. -/
def Quads (w : World) (b o : Nat) (ss : List S4) : Prop := ∀ i, i < ss.length →
  w.cell? ⟨b, o + i * 4, none⟩ = some (.bool (ss.getD i noS).1) ∧ w.cell? ⟨b, o + i * 4 + 1, none⟩ = some (.int .i64 (ss.getD i noS).2.1) ∧
  w.cell? ⟨b, o + i * 4 + 2, none⟩ = some (.int .i64 (ss.getD i noS).2.2.1) ∧ w.cell? ⟨b, o + i * 4 + 3, none⟩ = some (.bool (ss.getD i noS).2.2.2)

/-- Lists of maps, of shades, all of them between two blocks. -/
def IsMaps (w : World) (lo hi : Nat) (a : Option Addr) (len : Nat) (es : List E3) : Prop := es.length = len ∧ (len = 0 ∨ ∃ b o, a = some ⟨b, o, none⟩ ∧ lo ≤ b ∧ b < hi ∧ Ents w b o es)
def IsShades (w : World) (lo hi : Nat) (a : Option Addr) (len : Nat) (ss : List S4) : Prop := ss.length = len ∧ (len = 0 ∨ ∃ b o, a = some ⟨b, o, none⟩ ∧ lo ≤ b ∧ b < hi ∧ Quads w b o ss)

/-- A guest's three lists, as a value's parts and as cells. -/
def GuestIn (w : World) (lo hi : Nat) (vm vd vs : Value) (g : Gst) : Prop :=
  (∃ a c, vm = .slice a g.maps.length c ∧ IsMaps w lo hi a g.maps.length g.maps) ∧ (∃ a c, vd = .slice a g.disk.length c ∧ IsMem w lo hi a g.disk.length g.disk) ∧
  (∃ a c, vs = .slice a g.shades.length c ∧ IsShades w lo hi a g.shades.length g.shades)
def GuestAt (w : World) (lo hi b o : Nat) (g : Gst) : Prop :=
  ∃ vm vd vs, w.cell? ⟨b, o, none⟩ = some vm ∧ w.cell? ⟨b, o + 1, none⟩ = some vd ∧ w.cell? ⟨b, o + 2, none⟩ = some vs ∧ GuestIn w lo hi vm vd vs g
def IsGuests (w : World) (lo hi : Nat) (a : Option Addr) (len : Nat) (gs : List Gst) : Prop := gs.length = len ∧ (len = 0 ∨ ∃ b o, a = some ⟨b, o, none⟩ ∧ lo ≤ b ∧ b < hi ∧ ∀ i, i < len → GuestAt w lo hi b (o + i * 3) (gs.getD i noG))
/-- A host's parts. -/
def HostIn (w : World) (lo hi : Nat) (vf vg : Value) (h : Hst) : Prop :=
  (∃ a c, vf = .slice a h.frames.length c ∧ IsMem w lo hi a h.frames.length h.frames) ∧ (∃ a c, vg = .slice a h.guests.length c ∧ IsGuests w lo hi a h.guests.length h.guests)

theorem Ents.sameH {lo hi : Nat} {w w' : World} (s : SameIn lo hi w w') {b o : Nat} {es : List E3} (h : Ents w b o es) (hl : lo ≤ b) (hh : b < hi) : Ents w' b o es := fun i hi =>
  ⟨(s.cell hl hh).trans (h i hi).1, (s.cell hl hh).trans (h i hi).2.1, (s.cell hl hh).trans (h i hi).2.2⟩
theorem Quads.same {lo hi : Nat} {w w' : World} (s : SameIn lo hi w w') {b o : Nat} {ss : List S4} (h : Quads w b o ss) (hl : lo ≤ b) (hh : b < hi) : Quads w' b o ss := fun i hi =>
  ⟨(s.cell hl hh).trans (h i hi).1, (s.cell hl hh).trans (h i hi).2.1, (s.cell hl hh).trans (h i hi).2.2.1, (s.cell hl hh).trans (h i hi).2.2.2⟩
theorem IsMaps.same {lo hi : Nat} {w w' : World} (s : SameIn lo hi w w') {a : Option Addr} {len : Nat} {es : List E3} (h : IsMaps w lo hi a len es) : IsMaps w' lo hi a len es := by
  obtain ⟨h1, h2⟩ := h
  rcases h2 with h2 | ⟨b, o, e, g1, g2, g3⟩
  · exact ⟨h1, Or.inl h2⟩
  · exact ⟨h1, Or.inr ⟨b, o, e, g1, g2, g3.sameH s g1 g2⟩⟩
theorem IsShades.same {lo hi : Nat} {w w' : World} (s : SameIn lo hi w w') {a : Option Addr} {len : Nat} {ss : List S4} (h : IsShades w lo hi a len ss) : IsShades w' lo hi a len ss := by
  obtain ⟨h1, h2⟩ := h
  rcases h2 with h2 | ⟨b, o, e, g1, g2, g3⟩
  · exact ⟨h1, Or.inl h2⟩
  · exact ⟨h1, Or.inr ⟨b, o, e, g1, g2, g3.same s g1 g2⟩⟩
theorem IsMaps.wide {lo hi lo' hi' : Nat} {w : World} {a : Option Addr} {len : Nat} {es : List E3} (h : IsMaps w lo hi a len es) (k1 : lo' ≤ lo) (k2 : hi ≤ hi') : IsMaps w lo' hi' a len es := by
  obtain ⟨h1, h2⟩ := h
  rcases h2 with h2 | ⟨b, o, e, g1, g2, g3⟩
  · exact ⟨h1, Or.inl h2⟩
  · exact ⟨h1, Or.inr ⟨b, o, e, by omega, by omega, g3⟩⟩
theorem IsShades.wide {lo hi lo' hi' : Nat} {w : World} {a : Option Addr} {len : Nat} {ss : List S4} (h : IsShades w lo hi a len ss) (k1 : lo' ≤ lo) (k2 : hi ≤ hi') : IsShades w lo' hi' a len ss := by
  obtain ⟨h1, h2⟩ := h
  rcases h2 with h2 | ⟨b, o, e, g1, g2, g3⟩
  · exact ⟨h1, Or.inl h2⟩
  · exact ⟨h1, Or.inr ⟨b, o, e, by omega, by omega, g3⟩⟩
theorem GuestIn.same {lo hi : Nat} {w w' : World} (s : SameIn lo hi w w') {vm vd vs : Value} {g : Gst} (h : GuestIn w lo hi vm vd vs g) : GuestIn w' lo hi vm vd vs g := by
  obtain ⟨⟨a1, c1, e1, h1⟩, ⟨a2, c2, e2, h2⟩, a3, c3, e3, h3⟩ := h
  exact ⟨⟨a1, c1, e1, h1.same s⟩, ⟨a2, c2, e2, h2.same s⟩, a3, c3, e3, h3.same s⟩
theorem GuestIn.wide {lo hi lo' hi' : Nat} {w : World} {vm vd vs : Value} {g : Gst} (h : GuestIn w lo hi vm vd vs g) (k1 : lo' ≤ lo) (k2 : hi ≤ hi') : GuestIn w lo' hi' vm vd vs g := by
  obtain ⟨⟨a1, c1, e1, h1⟩, ⟨a2, c2, e2, h2⟩, a3, c3, e3, h3⟩ := h
  exact ⟨⟨a1, c1, e1, h1.wide k1 k2⟩, ⟨a2, c2, e2, h2.wide k1 k2⟩, a3, c3, e3, h3.wide k1 k2⟩
theorem GuestAt.same {lo hi : Nat} {w w' : World} (s : SameIn lo hi w w') {b o : Nat} {g : Gst} (h : GuestAt w lo hi b o g) (hl : lo ≤ b) (hh : b < hi) : GuestAt w' lo hi b o g := by
  obtain ⟨vm, vd, vs, h1, h2, h3, h4⟩ := h
  exact ⟨vm, vd, vs, (s.cell hl hh).trans h1, (s.cell hl hh).trans h2, (s.cell hl hh).trans h3, h4.same s⟩
theorem IsGuests.same {lo hi : Nat} {w w' : World} (s : SameIn lo hi w w') {a : Option Addr} {len : Nat} {gs : List Gst} (h : IsGuests w lo hi a len gs) : IsGuests w' lo hi a len gs := by
  obtain ⟨h1, h2⟩ := h
  rcases h2 with h2 | ⟨b, o, e, g1, g2, g3⟩
  · exact ⟨h1, Or.inl h2⟩
  · exact ⟨h1, Or.inr ⟨b, o, e, g1, g2, fun i hi => (g3 i hi).same s g1 g2⟩⟩
theorem IsGuests.wide {lo hi lo' hi' : Nat} {w : World} {a : Option Addr} {len : Nat} {gs : List Gst} (h : IsGuests w lo hi a len gs) (k1 : lo' ≤ lo) (k2 : hi ≤ hi') : IsGuests w lo' hi' a len gs := by
  obtain ⟨h1, h2⟩ := h
  rcases h2 with h2 | ⟨b, o, e, g1, g2, g3⟩
  · exact ⟨h1, Or.inl h2⟩
  · refine ⟨h1, Or.inr ⟨b, o, e, by omega, by omega, fun i hi => ?_⟩⟩
    obtain ⟨vm, vd, vs, q1, q2, q3, q4⟩ := g3 i hi
    exact ⟨vm, vd, vs, q1, q2, q3, q4.wide k1 k2⟩
theorem HostIn.same {lo hi : Nat} {w w' : World} (s : SameIn lo hi w w') {vf vg : Value} {h : Hst} (k : HostIn w lo hi vf vg h) : HostIn w' lo hi vf vg h := by
  obtain ⟨⟨a1, c1, e1, h1⟩, a2, c2, e2, h2⟩ := k
  exact ⟨⟨a1, c1, e1, h1.same s⟩, a2, c2, e2, h2.same s⟩
theorem HostIn.wide {lo hi lo' hi' : Nat} {w : World} {vf vg : Value} {h : Hst} (k : HostIn w lo hi vf vg h) (k1 : lo' ≤ lo) (k2 : hi ≤ hi') : HostIn w lo' hi' vf vg h := by
  obtain ⟨⟨a1, c1, e1, h1⟩, a2, c2, e2, h2⟩ := k
  exact ⟨⟨a1, c1, e1, h1.wide k1 k2⟩, a2, c2, e2, h2.wide k1 k2⟩

/-- One guest of a host, as cells; one map of it. -/
theorem IsGuests.get {w : World} {lo hi : Nat} {a : Option Addr} {len : Nat} {gs : List Gst} (h : IsGuests w lo hi a len gs) {i : Nat} (hi' : i < len) :
    ∃ b o am cm ad cd aS cs, a = some ⟨b, o, none⟩ ∧ lo ≤ b ∧ b < hi ∧ w.cell? ⟨b, o + i * 3, none⟩ = some (.slice am (gs.getD i noG).maps.length cm) ∧ w.cell? ⟨b, o + i * 3 + 1, none⟩ = some (.slice ad (gs.getD i noG).disk.length cd) ∧
      w.cell? ⟨b, o + i * 3 + 2, none⟩ = some (.slice aS (gs.getD i noG).shades.length cs) ∧ IsMaps w lo hi am (gs.getD i noG).maps.length (gs.getD i noG).maps ∧ IsMem w lo hi ad (gs.getD i noG).disk.length (gs.getD i noG).disk ∧ IsShades w lo hi aS (gs.getD i noG).shades.length (gs.getD i noG).shades := by
  obtain ⟨_, h2⟩ := h
  rcases h2 with h2 | ⟨b, o, rfl, g1, g2, g3⟩
  · omega
  obtain ⟨vm, vd, vs, q1, q2, q3, ⟨am, cm, e1, h1⟩, ⟨ad, cd, e2, h2⟩, aS, cs, e3, h3⟩ := g3 i hi'
  subst e1 e2 e3
  exact ⟨b, o, am, cm, ad, cd, aS, cs, rfl, g1, g2, q1, q2, q3, h1, h2, h3⟩
theorem IsMem.get {w : World} {lo hi : Nat} {a : Option Addr} {len : Nat} {ms : List (List Int)} (h : IsMem w lo hi a len ms) {i : Nat} (hi' : i < len) :
    ∃ b o a' l c, a = some ⟨b, o, none⟩ ∧ lo ≤ b ∧ b < hi ∧ w.cell? ⟨b, o + i, none⟩ = some (.slice a' l c) ∧ IsInts w lo hi a' l (ms.getD i []) := by
  obtain ⟨_, h2⟩ := h
  rcases h2 with h2 | ⟨b, o, rfl, g1, g2, g3⟩
  · omega
  obtain ⟨a', l, c, q, hI⟩ := g3 i hi'
  exact ⟨b, o, a', l, c, rfl, g1, g2, q, hI⟩
theorem IsMaps.get {w : World} {lo hi : Nat} {a : Option Addr} {len : Nat} {es : List E3} (h : IsMaps w lo hi a len es) {i : Nat} (hi' : i < len) :
    ∃ b o, a = some ⟨b, o, none⟩ ∧ lo ≤ b ∧ b < hi ∧ w.cell? ⟨b, o + i * 3, none⟩ = some (.bool (es.getD i noM).1) ∧ w.cell? ⟨b, o + i * 3 + 1, none⟩ = some (.int .i64 (es.getD i noM).2.1) ∧ w.cell? ⟨b, o + i * 3 + 2, none⟩ = some (.bool (es.getD i noM).2.2) := by
  obtain ⟨h1, h2⟩ := h
  rcases h2 with h2 | ⟨b, o, rfl, g1, g2, g3⟩
  · omega
  obtain ⟨q1, q2, q3⟩ := g3 i (by omega)
  exact ⟨b, o, rfl, g1, g2, q1, q2, q3⟩
theorem IsShades.get {w : World} {lo hi : Nat} {a : Option Addr} {len : Nat} {ss : List S4} (h : IsShades w lo hi a len ss) {i : Nat} (hi' : i < len) :
    ∃ b o, a = some ⟨b, o, none⟩ ∧ lo ≤ b ∧ b < hi ∧ w.cell? ⟨b, o + i * 4, none⟩ = some (.bool (ss.getD i noS).1) ∧ w.cell? ⟨b, o + i * 4 + 1, none⟩ = some (.int .i64 (ss.getD i noS).2.1) ∧
      w.cell? ⟨b, o + i * 4 + 2, none⟩ = some (.int .i64 (ss.getD i noS).2.2.1) ∧ w.cell? ⟨b, o + i * 4 + 3, none⟩ = some (.bool (ss.getD i noS).2.2.2) := by
  obtain ⟨h1, h2⟩ := h
  rcases h2 with h2 | ⟨b, o, rfl, g1, g2, g3⟩
  · omega
  obtain ⟨q1, q2, q3, q4⟩ := g3 i (by omega)
  exact ⟨b, o, rfl, g1, g2, q1, q2, q3, q4⟩

/-! What HostOk asks, and what is counted, plainly. -/
def inF (f : Int) (m : E3) : Bool := m.1 && (m.2.1 == f)
def usersG (f : Int) (g : Gst) : Nat := (g.maps.filter (inF f)).length
def usersH (h : Hst) (f : Int) : Nat := (h.guests.map (usersG f)).sum
def blankP (zs : List Int) : Bool := zs.all fun z => z == 0
def okMap (h : Hst) (m : E3) (disk : List Int) : Bool := bif m.1 then (decide (0 ≤ m.2.1) && decide (m.2.1 ≤ 7)) && (blankP disk && (!m.2.2 || (usersH h m.2.1 == 1))) else decide (m = noM)
def okShade (g : Gst) (s : S4) : Bool := bif s.1 then (decide (2 ≤ s.2.1) && decide (s.2.1 ≤ 5)) && ((g.maps.getD s.2.1.toNat noM).1 && (((g.maps.getD s.2.1.toNat noM).2.1 == s.2.2.1) && (!s.2.2.2 || (g.maps.getD s.2.1.toNat noM).2.2))) else decide (s = noS)
def okGuest0 (g : Gst) : Bool := (g.maps.length == 6) && ((g.shades.length == 6) && (okM g.disk && (g.disk.length == 6)))
def okGuest (h : Hst) (g : Gst) : Bool := (List.range 6).all fun p => okMap h (g.maps.getD p noM) (g.disk.getD p []) && okShade g (g.shades.getD p noS)
def okHost0 (h : Hst) : Bool := okM h.frames && ((h.frames.length == 8) && ((decide (1 ≤ h.guests.length) && decide (h.guests.length ≤ 2)) && (decide (0 ≤ h.hand) && decide (h.hand ≤ 7))))
def okHost (h : Hst) : Bool := okHost0 h && (h.guests.all okGuest0 && h.guests.all (okGuest h))
end Go.Proofs.Ytjegndgdpmlbaaa

/-
  Rows of entries that a call has made.
-/
namespace Go.Proofs.Ytjegndgdpmlbaaa
open Go.RowKit

/-- The cells of entries. -/
def flat (es : List E3) : List Value := es.flatMap fun x => [.bool x.1, .int .i64 x.2.1, .bool x.2.2]

theorem flat_len (es : List E3) : (flat es).length = es.length * 3 := by
  induction es with
  | nil => rfl
  | cons x es ih => simp only [flat, List.flatMap_cons, List.length_append, List.length_cons, List.length_nil] at ih ⊢; omega

theorem below_grown {W w' : World} (h : Below W.heap.size W w') : W.grownBy w' none := ⟨h.os, h.tape, h.output, h.size, fun k hk _ => h.block k hk⟩

end Go.Proofs.Ytjegndgdpmlbaaa
