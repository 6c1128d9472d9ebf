/-
  What the program's own TabRead answers at a table's text, and at any other.
-/
import Derived.Test.YtfiailnlkhonnaaDoorReadImpl0
namespace Go.Proofs.YtfiailnlkhonnaaDoor
open Go.RowKit

/-- What the program's own TabRead answers where the text is this table's. -/
theorem implRead_ok (s : ByteArray) (es : List E3) (w : World) (hs : s.size ≤ 1048576) (hl : es.length = 6) (hA : es.all okE = true) (he : textL es = s.data.toList) :
    Calls Tryd.prog 8 #[.string s] w fun e w' => ∃ G, e = .returned (.tuple #[.slice (some ⟨G, 0, none⟩) 6 6, .bool true]) ∧ w.heap.size ≤ G ∧ G < w'.heap.size ∧ Room w' G 18 ∧ Ents w' G 0 es ∧ Below w.heap.size w w' := by
  refine (implTabRead s w hs).mono ?_
  rintro e w' ⟨v, k, rfl, (⟨rfl, fs, hl', hA', he', G, rfl, h1, h2, h3, h4⟩ | ⟨rfl, rfl, hno⟩), hB⟩
  · obtain rfl := textL_one hl' hl hA' hA (he'.trans he.symm)
    exact ⟨G, rfl, h1, h2, h3, h4, hB⟩
  · exact absurd he (hno es hl hA)
theorem implRead_no (s : ByteArray) (w : World) (hs : s.size ≤ 1048576) (hn : ∀ es : List E3, es.length = 6 → es.all okE = true → textL es ≠ s.data.toList) :
    Calls Tryd.prog 8 #[.string s] w fun e w' => e = .returned (.tuple #[.slice none 0 0, .bool false]) ∧ Below w.heap.size w w' := by
  refine (implTabRead s w hs).mono ?_
  rintro e w' ⟨v, k, rfl, (⟨rfl, fs, hl', hA', he', _⟩ | ⟨rfl, rfl, _⟩), hB⟩
  · exact absurd he' (hn fs hl' hA')
  · exact ⟨rfl, hB⟩
end Go.Proofs.YtfiailnlkhonnaaDoor
