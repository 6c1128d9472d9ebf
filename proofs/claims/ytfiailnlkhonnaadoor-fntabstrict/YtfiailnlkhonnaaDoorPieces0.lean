/-
  Pieces of a text between blanks; which text is a table's.
-/
import Derived.Test.YtfiailnlkhonnaaDoorTextPure0
import Derived.Lib.Bytealg
import Derived.Lib.Strings
namespace Go.Proofs.YtfiailnlkhonnaaDoor
open Go.RowKit

/-- What stands between single blanks. -/
def split32 : List UInt8 → List (List UInt8)
  | [] => [[]]
  | b :: l => if b = 32 then [] :: split32 l else
    match split32 l with
    | p :: ps => (b :: p) :: ps
    | [] => [[b]]

theorem split32_cons (b : UInt8) (l : List UInt8) : split32 (b :: l) = if b = 32 then [] :: split32 l else match split32 l with | p :: ps => (b :: p) :: ps | [] => [[b]] := rfl
theorem split32_ne (l : List UInt8) : split32 l ≠ [] := by
  cases l with
  | nil => simp [split32]
  | cons b l =>
    rw [split32_cons]
    by_cases h : b = 32
    · simp [h]
    · rw [if_neg h]
      cases split32 l <;> simp

theorem split32_none {l : List UInt8} (h : (32 : UInt8) ∉ l) : split32 l = [l] := by
  induction l with
  | nil => rfl
  | cons b l ih =>
    have h1 : b ≠ 32 := fun e => h (by rw [e]; exact List.mem_cons_self)
    rw [split32_cons, if_neg h1, ih (fun hm => h (List.mem_cons_of_mem _ hm))]
theorem split32_at {p s : List UInt8} (h : (32 : UInt8) ∉ p) : split32 (p ++ 32 :: s) = p :: split32 s := by
  induction p with
  | nil => rw [List.nil_append, split32_cons, if_pos rfl]
  | cons b p ih =>
    have h1 : b ≠ 32 := fun e => h (by rw [e]; exact List.mem_cons_self)
    rw [List.cons_append, split32_cons, if_neg h1, ih (fun hm => h (List.mem_cons_of_mem _ hm))]
/-- All pieces with blanks between are the text again. -/
def glue : List (List UInt8) → List UInt8
  | [] => []
  | [p] => p
  | p :: q :: ps => p ++ 32 :: glue (q :: ps)
theorem glue_cons (p : List UInt8) {ps : List (List UInt8)} (h : ps ≠ []) : glue (p :: ps) = p ++ 32 :: glue ps := by
  cases ps with
  | nil => exact absurd rfl h
  | cons q ps => rfl
theorem glue_split (l : List UInt8) : glue (split32 l) = l := by
  induction l with
  | nil => rfl
  | cons b l ih =>
    rw [split32_cons]
    by_cases h : b = 32
    · rw [if_pos h, glue_cons _ (split32_ne l), ih, h]; rfl
    · rw [if_neg h]
      cases hs : split32 l with
      | nil => exact absurd hs (split32_ne l)
      | cons p ps =>
        rw [hs] at ih
        cases ps with
        | nil => simp only [glue] at ih ⊢; rw [ih]
        | cons q ps => simp only [glue] at ih ⊢; rw [List.cons_append, ih]
theorem split_glue {ps : List (List UInt8)} (h0 : ps ≠ []) (h : ∀ p ∈ ps, (32 : UInt8) ∉ p) : split32 (glue ps) = ps := by
  induction ps with
  | nil => exact absurd rfl h0
  | cons p ps ih =>
    have hp := h p List.mem_cons_self
    cases ps with
    | nil => exact split32_none hp
    | cons q ps =>
      rw [glue_cons _ (by simp), split32_at hp, ih (by simp) (fun x hx => h x (List.mem_cons_of_mem _ hx))]

theorem indexByte_none {l : List UInt8} {c : UInt8} (h : Lib.indexByte l c = -1) : c ∉ l := by
  induction l with
  | nil => simp
  | cons b l ih =>
    unfold Lib.indexByte at h
    by_cases hb : b = c
    · simp [hb] at h
    · have hb' : (b == c) = false := by simpa using hb
      rw [hb'] at h
      simp only [Bool.false_eq_true, if_false] at h
      by_cases hl : Lib.indexByte l c = -1
      · intro hm
        rcases List.mem_cons.mp hm with e | e
        · exact hb e.symm
        · exact ih hl e
      · have := Lib.indexByte_ge l c
        simp [hl] at h
        omega
theorem indexByte_some {l : List UInt8} {c : UInt8} (h : Lib.indexByte l c ≠ -1) : ∃ i : Nat, Lib.indexByte l c = i ∧ i < l.length ∧ l = l.take i ++ c :: l.drop (i + 1) ∧ c ∉ l.take i := by
  induction l with
  | nil => simp [Lib.indexByte] at h
  | cons b l ih =>
    unfold Lib.indexByte at h ⊢
    by_cases hb : b = c
    · subst hb
      exact ⟨0, by simp, by simp, by simp, by simp⟩
    · have hb' : (b == c) = false := by simpa using hb
      rw [hb'] at h ⊢
      simp only [Bool.false_eq_true, if_false] at h ⊢
      by_cases hl : Lib.indexByte l c = -1
      · simp [hl] at h
      · obtain ⟨i, hi, hlt, he, hn⟩ := ih hl
        refine ⟨i + 1, by simp [hi], by simpa using hlt, ?_, ?_⟩
        · simp only [List.take_succ_cons, List.drop_succ_cons, List.cons_append]
          rw [← he]
        · simp only [List.take_succ_cons, List.mem_cons, not_or]
          exact ⟨fun e => hb e.symm, hn⟩

theorem suffix_one (l : List UInt8) (c : UInt8) : (Lib.hasSuffix l [c] = true ∧ l = Lib.trimSuffix l [c] ++ [c]) ∨ (Lib.hasSuffix l [c] = false ∧ Lib.trimSuffix l [c] = l ∧ ∀ m, l ≠ m ++ [c]) := by
  unfold Lib.trimSuffix
  cases h : Lib.hasSuffix l [c]
  · refine Or.inr ⟨rfl, by simp, fun m e => ?_⟩
    unfold Lib.hasSuffix at h
    rw [e] at h
    have : [c].isSuffixOf (m ++ [c]) = true := by rw [List.isSuffixOf_iff_suffix]; exact List.suffix_append _ _
    rw [this] at h
    cases h
  · refine Or.inl ⟨rfl, ?_⟩
    unfold Lib.hasSuffix at h
    rw [List.isSuffixOf_iff_suffix] at h
    obtain ⟨m, rfl⟩ := h
    simp

/-- The text of a table. -/
def textL (es : List E3) : List UInt8 := glue (es.map txtL) ++ [10]
theorem textL_pre (es : List E3) (hl : es.length = 6) (hA : es.all okE = true) : (preS es 6 ++ ⟨#[10]⟩ : ByteArray).data.toList = textL es := by
  match es, hl with
  | [x0, x1, x2, x3, x4, x5], _ =>
    rw [text_list _ _ _ _ _ _ hA]
    simp [textL, glue]
theorem textL_one {ea eb : List E3} (la : ea.length = 6) (lb : eb.length = 6) (ha : ea.all okE = true) (hb : eb.all okE = true) (h : textL ea = textL eb) : ea = eb := by
  refine text_one la lb ha hb ?_
  apply ByteArray.ext
  apply Array.toList_inj.mp
  rw [textL_pre ea la ha, textL_pre eb lb hb, h]

/-- Pieces that are each an entry's text are one table's. -/
theorem texts_of {ps : List (List UInt8)} (h : ∀ p ∈ ps, ∃ e, okE e = true ∧ txtL e = p) : ∃ es : List E3, es.all okE = true ∧ es.map txtL = ps := by
  induction ps with
  | nil => exact ⟨[], rfl, rfl⟩
  | cons p ps ih =>
    obtain ⟨e, he, rfl⟩ := h p List.mem_cons_self
    obtain ⟨es, hes, rfl⟩ := ih (fun x hx => h x (List.mem_cons_of_mem _ hx))
    exact ⟨e :: es, by simp [he, hes], rfl⟩
theorem texts_no {es : List E3} (h : es.all okE = true) : ∀ p ∈ es.map txtL, (32 : UInt8) ∉ p := by
  intro p hp
  obtain ⟨e, he, rfl⟩ := List.mem_map.mp hp
  exact (txtL_ok (List.all_eq_true.mp h e he)).1
/-- A line is a table's text just if its pieces are its entries' texts. -/
theorem line_text {line : List UInt8} {es : List E3} (hl : es.length = 6) (h : es.all okE = true) : line ++ [10] = textL es ↔ split32 line = es.map txtL := by
  unfold textL
  constructor
  · intro e
    have e' := (List.append_left_inj [10]).mp e
    rw [e', split_glue (by intro h0; have := congrArg List.length h0; simp at this; rw [this] at hl; simp at hl) (texts_no h)]
  · intro e
    rw [← e, glue_split]
end Go.Proofs.YtfiailnlkhonnaaDoor
