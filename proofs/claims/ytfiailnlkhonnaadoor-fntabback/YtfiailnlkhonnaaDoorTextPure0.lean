/-
  Two tables that are ones have one text just if they are the same.
-/
import Derived.Test.YtfiailnlkhonnaaDoorTextSpec0
namespace Go.Proofs.YtfiailnlkhonnaaDoor
open Go.RowKit

theorem stepS_list (o : ByteArray) (e : E3) (hok : okE e = true) (l : Bool) : (stepS o e l).data.toList = o.data.toList ++ ((txt e).data.toList ++ bif l then [] else [32]) := by
  obtain ⟨h, p, b⟩ := e
  cases h
  · have hh : p = 0 ∧ b = false := by simpa [okE] using hok
    obtain ⟨rfl, rfl⟩ := hh
    cases l <;> simp [stepS, txt, ByteArray.data_append]
  · cases b <;> cases l <;> simp [stepS, txt, ByteArray.data_append]

/-- What stands ahead of the first blank is told. -/
theorem cut_blank {α : Type} {c : α} : ∀ {x y s t : List α}, c ∉ x → c ∉ y → x ++ c :: s = y ++ c :: t → x = y ∧ s = t
  | [], [], _, _, _, _, h => by simpa using h
  | [], b :: y, _, _, _, hy, h => by
      simp only [List.nil_append, List.cons_append, List.cons.injEq] at h
      exact absurd (by rw [h.1]; exact List.mem_cons_self) hy
  | a :: x, [], _, _, hx, _, h => by
      simp only [List.nil_append, List.cons_append, List.cons.injEq] at h
      exact absurd (by rw [h.1]; exact List.mem_cons_self) hx
  | a :: x, b :: y, _, _, hx, hy, h => by
      simp only [List.cons_append, List.cons.injEq] at h
      obtain ⟨hab, h⟩ := h
      have := cut_blank (fun hm => hx (List.mem_cons_of_mem _ hm)) (fun hm => hy (List.mem_cons_of_mem _ hm)) h
      exact ⟨by rw [hab, this.1], this.2⟩

theorem okE_cases {e : E3} (h : okE e = true) : e = (false, 0, false) ∨ ∃ (p : Fin 6) (b : Bool), e = (true, ((p : Nat) : Int), b) := by
  obtain ⟨a, p, b⟩ := e
  cases a
  · have : p = 0 ∧ b = false := by simpa [okE] using h
    exact Or.inl (by rw [this.1, this.2])
  · have hp : 0 ≤ p ∧ p ≤ 5 := by simpa [okE] using h
    refine Or.inr ⟨⟨p.toNat, by omega⟩, b, ?_⟩
    have : ((p.toNat : Nat) : Int) = p := by omega
    simp [this]

def txtL (e : E3) : List UInt8 := (txt e).data.toList
theorem txtL_gap : txtL (false, 0, false) = [45] := rfl
theorem txtL_no : ∀ (p : Fin 6) (b : Bool), (32 : UInt8) ∉ txtL (true, ((p : Nat) : Int), b) ∧ (10 : UInt8) ∉ txtL (true, ((p : Nat) : Int), b) ∧ txtL (true, ((p : Nat) : Int), b) ≠ [45] := by decide
theorem txtL_lead : ∀ (p q : Fin 6) (b c : Bool), txtL (true, ((p : Nat) : Int), b) = txtL (true, ((q : Nat) : Int), c) → p = q ∧ b = c := by decide
theorem txtL_ok {e : E3} (h : okE e = true) : (32 : UInt8) ∉ txtL e ∧ (10 : UInt8) ∉ txtL e := by
  rcases okE_cases h with rfl | ⟨p, b, rfl⟩
  · rw [txtL_gap]; decide
  · exact ⟨(txtL_no p b).1, (txtL_no p b).2.1⟩
theorem txtL_one {e f : E3} (he : okE e = true) (hf : okE f = true) (h : txtL e = txtL f) : e = f := by
  rcases okE_cases he with rfl | ⟨p, b, rfl⟩ <;> rcases okE_cases hf with rfl | ⟨q, c, rfl⟩
  · rfl
  · exact absurd (h.symm.trans txtL_gap) (txtL_no q c).2.2
  · exact absurd (h.trans txtL_gap) (txtL_no p b).2.2
  · obtain ⟨rfl, rfl⟩ := txtL_lead p q b c h; rfl

theorem text_list (x0 x1 x2 x3 x4 x5 : E3) (hA : [x0, x1, x2, x3, x4, x5].all okE = true) :
    (preS [x0, x1, x2, x3, x4, x5] 6 ++ ⟨#[10]⟩ : ByteArray).data.toList = txtL x0 ++ 32 :: (txtL x1 ++ 32 :: (txtL x2 ++ 32 :: (txtL x3 ++ 32 :: (txtL x4 ++ 32 :: (txtL x5 ++ 10 :: []))))) := by
  simp only [List.all_cons, List.all_nil, Bool.and_true, Bool.and_eq_true] at hA
  obtain ⟨h0, h1, h2, h3, h4, h5⟩ := hA
  have hs : preS [x0, x1, x2, x3, x4, x5] 6 = stepS (stepS (stepS (stepS (stepS (stepS ⟨#[]⟩ x0 false) x1 false) x2 false) x3 false) x4 false) x5 true := rfl
  have hd : (preS [x0, x1, x2, x3, x4, x5] 6).data.toList = txtL x0 ++ 32 :: (txtL x1 ++ 32 :: (txtL x2 ++ 32 :: (txtL x3 ++ 32 :: (txtL x4 ++ 32 :: txtL x5)))) := by
    rw [hs, stepS_list _ x5 h5, stepS_list _ x4 h4, stepS_list _ x3 h3, stepS_list _ x2 h2, stepS_list _ x1 h1, stepS_list _ x0 h0]
    simp [txtL]
  rw [ByteArray.data_append, Array.toList_append, hd]
  simp

theorem text_one {ea eb : List E3} (la : ea.length = 6) (lb : eb.length = 6) (ha : ea.all okE = true) (hb : eb.all okE = true) (h : (preS ea 6 ++ ⟨#[10]⟩ : ByteArray) = preS eb 6 ++ ⟨#[10]⟩) : ea = eb := by
  match ea, la, eb, lb with
  | [x0, x1, x2, x3, x4, x5], _, [y0, y1, y2, y3, y4, y5], _ =>
    have h' : (preS [x0, x1, x2, x3, x4, x5] 6 ++ ⟨#[10]⟩ : ByteArray).data.toList = (preS [y0, y1, y2, y3, y4, y5] 6 ++ ⟨#[10]⟩ : ByteArray).data.toList := by rw [h]
    rw [text_list _ _ _ _ _ _ ha, text_list _ _ _ _ _ _ hb] at h'
    simp only [List.all_cons, List.all_nil, Bool.and_true, Bool.and_eq_true] at ha hb
    obtain ⟨a0, a1, a2, a3, a4, a5⟩ := ha
    obtain ⟨b0, b1, b2, b3, b4, b5⟩ := hb
    obtain ⟨e0, h'⟩ := cut_blank (txtL_ok a0).1 (txtL_ok b0).1 h'
    obtain ⟨e1, h'⟩ := cut_blank (txtL_ok a1).1 (txtL_ok b1).1 h'
    obtain ⟨e2, h'⟩ := cut_blank (txtL_ok a2).1 (txtL_ok b2).1 h'
    obtain ⟨e3, h'⟩ := cut_blank (txtL_ok a3).1 (txtL_ok b3).1 h'
    obtain ⟨e4, h'⟩ := cut_blank (txtL_ok a4).1 (txtL_ok b4).1 h'
    obtain ⟨e5, _⟩ := cut_blank (txtL_ok a5).2 (txtL_ok b5).2 h'
    rw [txtL_one a0 b0 e0, txtL_one a1 b1 e1, txtL_one a2 b2 e2, txtL_one a3 b3 e3, txtL_one a4 b4 e4, txtL_one a5 b5 e5]

theorem text_some (B : ByteArray) : (B ++ ⟨#[10]⟩ : ByteArray) ≠ ⟨#[]⟩ := by
  intro h
  have := congrArg ByteArray.size h
  rw [ByteArray.size_append] at this
  have h1 : (⟨#[10]⟩ : ByteArray).size = 1 := rfl
  have h0 : (⟨#[]⟩ : ByteArray).size = 0 := rfl
  omega
end Go.Proofs.YtfiailnlkhonnaaDoor
