/-
  What the functions from a word to an entry do: the program's own and the given one.
-/
import Derived.Test.YtjegndgdpmlbaaaKOA
import Derived.Test.YtjegndgdpmlbaaaKOC
namespace Go.Proofs.Ytjegndgdpmlbaaa
open Go.RowKit

/-- An entry as a value. -/
def ent (h : Bool) (p : Int) (b : Bool) : Value := .agg #[.bool h, .int .i64 p, .bool b]

set_option maxHeartbeats 400000 in
theorem specEntryOf_out (n : Int) (w : World) (h : n < 5 ∨ 12 < n) (h1 : -9223372036854775808 ≤ n) (h2 : n ≤ 9223372036854775807) :
    Calls Try.prog 129 #[.int .i64 n] w fun e w' => e = .returned (ent false 0 false) ∧ Below w.heap.size w w' := by
  unfold ent
  by_cases h0 : n < 1
  · go_enter Try.func129, Try.ntmps129
    go_wp2
    refine bodyPost_ret (v := .agg #[.bool false, .int .i64 0, .bool false]) (by simp [results, Try.results129, go_sem]) rfl ⟨rfl, ?_⟩
    (repeat' (with_reducible (first | exact Below.refl _ _ | apply Below.setCell | apply Below.alloc | apply below_drewN | apply Below.drew))) <;> (first | exact Nat.le_refl _ | (simp; done) | (simp; omega))
  · rcases h with h | h
    · have h3 : ¬ 2 ≤ (n - 1) / 2 := by omega
      go_enter Try.func129, Try.ntmps129
      go_wp2
      refine bodyPost_ret (v := .agg #[.bool false, .int .i64 0, .bool false]) (by simp [results, Try.results129, go_sem]) rfl ⟨rfl, ?_⟩
      (repeat' (with_reducible (first | exact Below.refl _ _ | apply Below.setCell | apply Below.alloc | apply below_drewN | apply Below.drew))) <;> (first | exact Nat.le_refl _ | (simp; done) | (simp; omega))
    · have h3 : 2 ≤ (n - 1) / 2 := by omega
      have h4 : ¬ (n - 1) / 2 ≤ 5 := by omega
      go_enter Try.func129, Try.ntmps129
      go_wp2
      refine bodyPost_ret (v := .agg #[.bool false, .int .i64 0, .bool false]) (by simp [results, Try.results129, go_sem]) rfl ⟨rfl, ?_⟩
      (repeat' (with_reducible (first | exact Below.refl _ _ | apply Below.setCell | apply Below.alloc | apply below_drewN | apply Below.drew))) <;> (first | exact Nat.le_refl _ | (simp; done) | (simp; omega))

set_option maxHeartbeats 400000 in
theorem specEntryOf_in (n : Int) (w : World) (h : 5 ≤ n) (h' : n ≤ 12) :
    Calls Try.prog 129 #[.int .i64 n] w fun e w' => e = .returned (ent true ((n - 1) / 2) (n % 2 == 0)) ∧ Below w.heap.size w w' := by
  unfold ent
  have h2 : ¬ n < 1 := by omega
  have h3 : 2 ≤ (n - 1) / 2 := by omega
  have h4 : (n - 1) / 2 ≤ 5 := by omega
  go_enter Try.func129, Try.ntmps129
  go_wp2
  refine bodyPost_ret (v := .agg #[.bool true, .int .i64 ((n - 1) / 2), .bool (n % 2 == 0)]) (by simp [results, Try.results129, go_sem]) rfl ⟨rfl, ?_⟩
  (repeat' (with_reducible (first | exact Below.refl _ _ | apply Below.setCell | apply Below.alloc | apply below_drewN | apply Below.drew))) <;> (first | exact Nat.le_refl _ | (simp; done) | (simp; omega))

/-- The three parts of the entry of a word. -/
def inW (n : Int) : Bool := decide (5 ≤ n) && decide (n ≤ 12)
def pgW (n : Int) : Int := bif inW n then (n - 1) / 2 else 0
def wrW (n : Int) : Bool := inW n && (n % 2 == 0)

theorem inW_t {n : Int} (h : 5 ≤ n) (h' : n ≤ 12) : inW n = true := by simp [inW, h, h']
theorem inW_f {n : Int} (h : n < 5 ∨ 12 < n) : inW n = false := by
  unfold inW
  by_cases a : 5 ≤ n
  · have : ¬ n ≤ 12 := by omega
    simp [this]
  · simp [a]

theorem specEntryOf (n : Int) (w : World) (h1 : -9223372036854775808 ≤ n) (h2 : n ≤ 9223372036854775807) :
    Calls Try.prog 129 #[.int .i64 n] w fun e w' => e = .returned (ent (inW n) (pgW n) (wrW n)) ∧ Below w.heap.size w w' := by
  by_cases h : 5 ≤ n ∧ n ≤ 12
  · have e := specEntryOf_in n w h.1 h.2
    simpa [pgW, wrW, inW_t h.1 h.2] using e
  · have e := specEntryOf_out n w (by omega) h1 h2
    simpa [pgW, wrW, inW_f (n := n) (by omega)] using e

end Go.Proofs.Ytjegndgdpmlbaaa

/-
  What MemTab does: the program's own and the given one.
-/
namespace Go.Proofs.Ytjegndgdpmlbaaa
open Go.RowKit

/-- The entry of a word; the table that memory tells. -/
def entE (n : Int) : E3 := (inW n, pgW n, wrW n)

/-- A list of entries in a block between two. -/
def HasEnts (w : World) (lo hi : Nat) (a : Option Addr) (len : Nat) (es : List E3) : Prop := es.length = len ∧ (len = 0 ∨ ∃ T, a = some ⟨T, 0, none⟩ ∧ lo ≤ T ∧ T < hi ∧ Ents w T 0 es)
def OwnEnts (w : World) (lo hi : Nat) (a : Option Addr) (len : Nat) (es : List E3) : Prop := es.length = len ∧ (len = 0 ∨ ∃ T, a = some ⟨T, 0, none⟩ ∧ lo ≤ T ∧ T < hi ∧ Ents w T 0 es ∧ Room w T (len * 3))
theorem Ents.same {lo hi : Nat} {w w' : World} (s : SameIn lo hi w w') {b o : Nat} {es : List E3} (h : Ents w b o es) (hl : lo ≤ b) (hh : b < hi) : Ents w' b o es := fun i hi =>
  ⟨(s.cell hl hh).trans (h i hi).1, (s.cell hl hh).trans (h i hi).2.1, (s.cell hl hh).trans (h i hi).2.2⟩
theorem Room.sameM {lo hi : Nat} {w w' : World} (s : SameIn lo hi w w') {b n : Nat} (h : Room w b n) (hl : lo ≤ b) (hh : b < hi) : Room w' b n := fun j hj =>
  ⟨(h j hj).1.imp fun _ hv => (s.cell hl hh).trans hv, (s.frozen hl hh).trans (h j hj).2⟩
theorem HasEnts.same {lo hi : Nat} {w w' : World} (s : SameIn lo hi w w') {a : Option Addr} {len : Nat} {es : List E3} (h : HasEnts w lo hi a len es) : HasEnts w' lo hi a len es := by
  obtain ⟨h1, h2⟩ := h
  rcases h2 with h2 | ⟨T, e, g1, g2, g3⟩
  · exact ⟨h1, Or.inl h2⟩
  · exact ⟨h1, Or.inr ⟨T, e, g1, g2, g3.same s g1 g2⟩⟩
theorem OwnEnts.same {lo hi : Nat} {w w' : World} (s : SameIn lo hi w w') {a : Option Addr} {len : Nat} {es : List E3} (h : OwnEnts w lo hi a len es) : OwnEnts w' lo hi a len es := by
  obtain ⟨h1, h2⟩ := h
  rcases h2 with h2 | ⟨T, e, g1, g2, g3, g4⟩
  · exact ⟨h1, Or.inl h2⟩
  · exact ⟨h1, Or.inr ⟨T, e, g1, g2, g3.same s g1 g2, g4.sameM s g1 g2⟩⟩

end Go.Proofs.Ytjegndgdpmlbaaa
