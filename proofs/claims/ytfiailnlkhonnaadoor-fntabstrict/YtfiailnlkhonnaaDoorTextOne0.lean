/-
  What both functions write.
-/
import Derived.Test.YtfiailnlkhonnaaDoorTextImpl0
namespace Go.Proofs.YtfiailnlkhonnaaDoor
open Go.RowKit

/-- One text that both functions give, wherever the table lies. -/
theorem both_text (len : Nat) (es : List E3) (hl : es.length = len) (hm : len ≤ 1048576) :
    ∃ S : ByteArray, (∀ (b o cap : Nat) (w : World), b < w.heap.size → Ents w b o es → Calls Tryd.prog 7 #[.slice (some ⟨b, o, none⟩) len cap] w fun e w' => e = .returned (.string S) ∧ Below w.heap.size w w') ∧
      (∀ (b o cap : Nat) (w : World), b < w.heap.size → Ents w b o es → Calls Tryd.prog 6 #[.slice (some ⟨b, o, none⟩) len cap] w fun e w' => e = .returned (.string S) ∧ Below w.heap.size w w') ∧
      (S = ⟨#[]⟩ ∨ (len = 6 ∧ es.all okE = true ∧ S = preS es 6 ++ ⟨#[10]⟩)) := by
  cases hT : (es.all okE && ((len : Int) == 6))
  · exact ⟨⟨#[]⟩, fun b o cap w hb hc => specTabText_not b o len cap es w hl hm hb hc hT, fun b o cap w hb hc => implTabText_not b o len cap es w hl hb hc hT, Or.inl rfl⟩
  · rw [Bool.and_eq_true] at hT
    obtain ⟨hA, h6⟩ := hT
    obtain rfl : len = 6 := by simp at h6; omega
    refine ⟨preS es 6 ++ ⟨#[10]⟩, fun b o cap w hb hc => specTabText_ok b o cap es w hl hb hc hA, fun b o cap w hb hc => ?_, Or.inr ⟨rfl, hA, rfl⟩⟩
    rw [pre_join es hl hA]
    exact implTabText_ok b o cap es w hl hb hc hA

/-- The text of a table that is one. -/
theorem both_ok (es : List E3) (hl : es.length = 6) (hA : es.all okE = true) (b o cap : Nat) (w : World) (hb : b < w.heap.size) (hc : Ents w b o es) :
    Calls Tryd.prog 6 #[.slice (some ⟨b, o, none⟩) 6 cap] w fun e w' => e = .returned (.string (preS es 6 ++ ⟨#[10]⟩)) ∧ Below w.heap.size w w' := by
  rw [pre_join es hl hA]
  exact implTabText_ok b o cap es w hl hb hc hA
end Go.Proofs.YtfiailnlkhonnaaDoor
