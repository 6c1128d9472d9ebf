/-
  What the given TabRead takes out of a text, sign by sign; of a table's text it takes the table.
-/
import Derived.Test.YtfiailnlkhonnaaDoorPieces0
import Derived.Test.YtfiailnlkhonnaaDoorFlat0
namespace Go.Proofs.YtfiailnlkhonnaaDoor
open Go.RowKit

/-- The last entry may be written. -/
def setW : List E3 → List E3
  | [] => []
  | [x] => [(x.1, x.2.1, true)]
  | x :: y :: l => x :: setW (y :: l)
theorem setW_snoc (l : List E3) (x : E3) : setW (l ++ [x]) = l ++ [(x.1, x.2.1, true)] := by
  induction l with
  | nil => rfl
  | cons y l ih =>
    cases l with
    | nil => rfl
    | cons z l => rw [List.cons_append, List.cons_append, setW, ← List.cons_append, ih]; rfl
theorem snoc_of {es : List E3} (h : 0 < es.length) : ∃ l x, es = l ++ [x] := by
  rcases List.eq_nil_or_concat es with rfl | ⟨l, x, rfl⟩
  · simp at h
  · exact ⟨l, x, by simp⟩
theorem setW_len (es : List E3) : (setW es).length = es.length := by
  rcases List.eq_nil_or_concat es with rfl | ⟨l, x, rfl⟩
  · rfl
  · rw [List.concat_eq_append, setW_snoc]; simp
theorem flat_app (l m : List E3) : flat (l ++ m) = flat l ++ flat m := by simp [flat]
theorem flat_setW {es : List E3} (h : 0 < es.length) : flat (setW es) = (flat es).set ((es.length - 1) * 3 + 2) (.bool true) := by
  obtain ⟨l, x, rfl⟩ := snoc_of h
  rw [setW_snoc, flat_app, flat_app, List.set_append_right _ _ (by rw [flat_len]; simp)]
  have : ((l ++ [x]).length - 1) * 3 + 2 - (flat l).length = 2 := by rw [flat_len]; simp
  rw [this]
  rfl

def scan1 (cur : List E3) (b : UInt8) : List E3 :=
  if b = 45 then cur ++ [(false, 0, false)] else if 48 ≤ b.toNat ∧ b.toNat ≤ 57 then cur ++ [(true, (b.toNat : Int) - 48, false)] else if b = 119 ∧ 0 < cur.length then setW cur else cur
def scan : List UInt8 → List E3 → Option (List E3)
  | [], cur => some cur
  | b :: l, cur => if 6 < cur.length then none else scan l (scan1 cur b)
theorem scan_cons {b : UInt8} {l : List UInt8} {cur : List E3} (h : cur.length ≤ 6) : scan (b :: l) cur = scan l (scan1 cur b) := by
  rw [scan, if_neg (by omega)]
theorem scan_out {b : UInt8} {l : List UInt8} {cur : List E3} (h : 6 < cur.length) : scan (b :: l) cur = none := by
  rw [scan, if_pos h]
theorem scan1_len (cur : List E3) (b : UInt8) : (scan1 cur b).length ≤ cur.length + 1 := by
  unfold scan1
  split
  · simp
  · split
    · simp
    · split
      · rw [setW_len]; omega
      · omega
theorem scan1_digit : ∀ (p : Fin 6) (cur : List E3), scan1 cur (UInt8.ofNat (48 + p.1)) = cur ++ [(true, ((p.1 : Nat) : Int), false)] := by
  intro p cur
  have h1 : ∀ p : Fin 6, (UInt8.ofNat (48 + p.1)) ≠ 45 ∧ (UInt8.ofNat (48 + p.1)).toNat = 48 + p.1 := by decide
  obtain ⟨a, b⟩ := h1 p
  unfold scan1
  rw [if_neg a, b, if_pos ⟨by omega, by omega⟩]
  have : ((48 + p.1 : Nat) : Int) - 48 = (p.1 : Int) := by omega
  rw [this]
theorem scan_entry {e : E3} (h : okE e = true) (rest : List UInt8) {cur : List E3} (hc : cur.length ≤ 5) : scan (txtL e ++ rest) cur = scan rest (cur ++ [e]) := by
  rcases okE_cases h with rfl | ⟨p, b, rfl⟩
  · rw [txtL_gap, List.singleton_append, scan_cons (by omega)]; rfl
  · have ht : txtL (true, ((p : Nat) : Int), b) = UInt8.ofNat (48 + p.1) :: (bif b then [119] else []) := by cases b <;> simp [txtL, txt]
    rw [ht, List.cons_append, scan_cons (by omega), scan1_digit]
    cases b
    · rfl
    · rw [cond_true, List.singleton_append, scan_cons (by simp; omega)]
      have : scan1 (cur ++ [(true, ((p : Nat) : Int), false)]) 119 = setW (cur ++ [(true, ((p : Nat) : Int), false)]) := by
        unfold scan1
        rw [if_neg (by decide), if_neg (by decide), if_pos ⟨rfl, by simp⟩]
      rw [this, setW_snoc]
theorem scan_blank (rest : List UInt8) {cur : List E3} (hc : cur.length ≤ 6) : scan (32 :: rest) cur = scan rest cur := by
  rw [scan_cons hc]
  have : scan1 cur 32 = cur := by
    unfold scan1
    rw [if_neg (by decide), if_neg (by decide), if_neg (by intro h; exact absurd h.1 (by decide))]
  rw [this]
theorem scan_end {cur : List E3} (hc : cur.length ≤ 6) : scan [10] cur = some cur := by
  rw [scan_cons hc]
  have : scan1 cur 10 = cur := by
    unfold scan1
    rw [if_neg (by decide), if_neg (by decide), if_neg (by intro h; exact absurd h.1 (by decide))]
  rw [this]; rfl

theorem scan_glue (es cur : List E3) (hA : es.all okE = true) (h0 : es ≠ []) (hl : cur.length + es.length ≤ 6) : scan (glue (es.map txtL) ++ [10]) cur = some (cur ++ es) := by
  induction es generalizing cur with
  | nil => exact absurd rfl h0
  | cons e es ih =>
    simp only [List.all_cons, Bool.and_eq_true] at hA
    simp only [List.length_cons] at hl
    cases es with
    | nil =>
      show scan (txtL e ++ [10]) cur = _
      rw [scan_entry hA.1 _ (by simp at hl; omega), scan_end (by simp at hl ⊢; omega)]
    | cons f es =>
      rw [List.map_cons, glue_cons _ (by simp), List.append_assoc, List.cons_append, scan_entry hA.1 _ (by simp at hl; omega), scan_blank _ (by simp at hl ⊢; omega), ih (cur ++ [e]) hA.2 (by simp) (by simp at hl ⊢; omega)]
      simp
theorem scan_text {es : List E3} (hl : es.length = 6) (hA : es.all okE = true) : scan (textL es) [] = some es := by
  have := scan_glue es [] hA (by intro h; rw [h] at hl; simp at hl) (by simp; omega)
  simpa [textL] using this
end Go.Proofs.YtfiailnlkhonnaaDoor
