/-
  What the functions from a word to an entry do: the program's own and the given one.
-/
import Derived.Test.YtdamdjhnhkmncaaKA
import Derived.Test.YtdamdjhnhkmncaaKC
namespace Go.Proofs.Ytdamdjhnhkmncaa
open Go.RowKit

/-- An entry as a value. -/
def ent (h : Bool) (p : Int) (b : Bool) : Value := .agg #[.bool h, .int .i64 p, .bool b]

/-- The three parts of the entry of a word. -/
def inW (n : Int) : Bool := decide (5 ≤ n) && decide (n ≤ 12)
def pgW (n : Int) : Int := bif inW n then (n - 1) / 2 else 0
def wrW (n : Int) : Bool := inW n && (n % 2 == 0)

theorem inW_t {n : Int} (h : 5 ≤ n) (h' : n ≤ 12) : inW n = true := by simp [inW, h, h']
theorem inW_f {n : Int} (h : n < 5 ∨ 12 < n) : inW n = false := by
  unfold inW
  by_cases a : 5 ≤ n
  · have : ¬ n ≤ 12 := by omega
    simp [this]
  · simp [a]
theorem inW_bd {n : Int} (h : inW n = true) : 5 ≤ n ∧ n ≤ 12 := by simpa [inW] using h

end Go.Proofs.Ytdamdjhnhkmncaa

/-
  What MemTab does: the program's own and the given one.
-/
namespace Go.Proofs.Ytdamdjhnhkmncaa
open Go.RowKit

/-- The entry of a word; the table that memory tells. -/
def entE (n : Int) : E3 := (inW n, pgW n, wrW n)
def tabM (ms : List (List Int)) : List E3 := (List.range 6).map fun i => entE (atM ms (i / 4) (i % 4))
theorem tabM_len (ms : List (List Int)) : (tabM ms).length = 6 := by simp [tabM]
theorem tabM_get (ms : List (List Int)) (k : Nat) (h : k < 6) : (tabM ms).getD k (false, 0, false) = entE (atM ms (k / 4) (k % 4)) := by simp [tabM, List.getD_eq_getElem?_getD, h]
def tabB (ms : List (List Int)) : Bool := okM ms && (ms.length == 6)
def tabL (ms : List (List Int)) : List E3 := bif tabB ms then tabM ms else []

/-- A list of entries in a block between two. -/
def HasEnts (w : World) (lo hi : Nat) (a : Option Addr) (len : Nat) (es : List E3) : Prop := es.length = len ∧ (len = 0 ∨ ∃ T, a = some ⟨T, 0, none⟩ ∧ lo ≤ T ∧ T < hi ∧ Ents w T 0 es)
def OwnEnts (w : World) (lo hi : Nat) (a : Option Addr) (len : Nat) (es : List E3) : Prop := es.length = len ∧ (len = 0 ∨ ∃ T, a = some ⟨T, 0, none⟩ ∧ lo ≤ T ∧ T < hi ∧ Ents w T 0 es ∧ Room w T (len * 3))
theorem OwnEnts.has {w : World} {lo hi : Nat} {a : Option Addr} {len : Nat} {es : List E3} (h : OwnEnts w lo hi a len es) : HasEnts w lo hi a len es := by
  obtain ⟨h1, h2⟩ := h
  rcases h2 with h2 | ⟨T, e, g1, g2, g3, _⟩
  · exact ⟨h1, Or.inl h2⟩
  · exact ⟨h1, Or.inr ⟨T, e, g1, g2, g3⟩⟩
theorem Ents.same {lo hi : Nat} {w w' : World} (s : SameIn lo hi w w') {b o : Nat} {es : List E3} (h : Ents w b o es) (hl : lo ≤ b) (hh : b < hi) : Ents w' b o es := fun i hi =>
  ⟨(s.cell hl hh).trans (h i hi).1, (s.cell hl hh).trans (h i hi).2.1, (s.cell hl hh).trans (h i hi).2.2⟩
theorem Room.sameM {lo hi : Nat} {w w' : World} (s : SameIn lo hi w w') {b n : Nat} (h : Room w b n) (hl : lo ≤ b) (hh : b < hi) : Room w' b n := fun j hj =>
  ⟨(h j hj).1.imp fun _ hv => (s.cell hl hh).trans hv, (s.frozen hl hh).trans (h j hj).2⟩
theorem HasEnts.same {lo hi : Nat} {w w' : World} (s : SameIn lo hi w w') {a : Option Addr} {len : Nat} {es : List E3} (h : HasEnts w lo hi a len es) : HasEnts w' lo hi a len es := by
  obtain ⟨h1, h2⟩ := h
  rcases h2 with h2 | ⟨T, e, g1, g2, g3⟩
  · exact ⟨h1, Or.inl h2⟩
  · exact ⟨h1, Or.inr ⟨T, e, g1, g2, g3.same s g1 g2⟩⟩
theorem OwnEnts.same {lo hi : Nat} {w w' : World} (s : SameIn lo hi w w') {a : Option Addr} {len : Nat} {es : List E3} (h : OwnEnts w lo hi a len es) : OwnEnts w' lo hi a len es := by
  obtain ⟨h1, h2⟩ := h
  rcases h2 with h2 | ⟨T, e, g1, g2, g3, g4⟩
  · exact ⟨h1, Or.inl h2⟩
  · exact ⟨h1, Or.inr ⟨T, e, g1, g2, g3.same s g1 g2, g4.sameM s g1 g2⟩⟩

theorem own_below3 {W w' : World} {lo : Nat} {t : TypeId} {v : Value} {n : Nat} {vs : List Value} (h : W.ownsRow lo t 3 v n vs) (hB : Below W.heap.size W w') : w'.ownsRow lo t 3 v n vs := by
  refine h.kept (below_grown hB) ?_
  cases v.ownBlock
  · exact Or.inl rfl
  · exact Or.inr (by simp)

theorem tabL_len (ms : List (List Int)) : (tabL ms).length ≤ 6 := by
  unfold tabL
  cases tabB ms
  · simp
  · simp [tabM_len]
end Go.Proofs.Ytdamdjhnhkmncaa
