/-
  What the given l12Copy does at an ok host: a host anew.
-/
import Derived.Test.YtdamdjhnhkmncaaKW
import Derived.Test.YtdamdjhnhkmncaaKH
set_option linter.unusedSimpArgs false
namespace Go.Proofs.Ytdamdjhnhkmncaa
open Go.RowKit
attribute [local go_sem ↓] Go.wp_at_zero Go.wp_at_succ exec_app
attribute [local go_sem] bigNext_ok

/-- What l12Copy has in its variables. -/
def CopyAt (w wx : World) (X : Nat) (vf vg : Value) (hand : Int) (uf ug : Value) (m0 m1 : Nat) : Prop :=
  Var3 wx w.heap.size vf vg (.int .i64 hand) ∧ Var3 wx (w.heap.size + 1) (.slice none 0 0) (.slice none 0 0) (.int .i64 0) ∧ Var3 wx X uf ug (.int .i64 hand) ∧ Below w.heap.size w wx ∧ w.heap.size + 2 ≤ m0 ∧ m1 ≤ wx.heap.size ∧ w.heap.size + 2 ≤ X ∧ (X < m0 ∨ m1 ≤ X) ∧ m0 ≤ m1
theorem var3_mk {w : World} {b : Nat} {x y z : Value} (h0 : w.cell? ⟨b, 0, none⟩ = some x) (h1 : w.cell? ⟨b, 1, none⟩ = some y) (h2 : w.cell? ⟨b, 2, none⟩ = some z) (f0 : w.frozen? ⟨b, 0, none⟩ = false) (f1 : w.frozen? ⟨b, 1, none⟩ = false) (f2 : w.frozen? ⟨b, 2, none⟩ = false) : Var3 w b x y z := ⟨h0, h1, h2, f0, f1, f2⟩
theorem copyA {w W2 w1 : World} {vf vg uf : Value} {hand : Int} {d0 : Nat} {t : TypeId} (B2 : Below w.heap.size w W2) (s2 : W2.heap.size = w.heap.size + 2) (p2 : Var3 W2 w.heap.size vf vg (.int .i64 hand)) (r2 : Var3 W2 (w.heap.size + 1) (.slice none 0 0) (.slice none 0 0) (.int .i64 0)) (HB : Below W2.heap.size W2 w1) (hd : W2.heap.size ≤ d0) (hd1 : d0 ≤ w1.heap.size) :
    CopyAt w (w1.alloc (.cells #[uf, .slice none 0 0, .int .i64 hand] t)) w1.heap.size vf vg hand uf (.slice none 0 0) d0 w1.heap.size := by
  have s := HB.size
  have BB := B2.trans (HB.mono B2.size)
  exact ⟨(p2.same (HB.block _ (by omega))).allocK _, (r2.same (HB.block _ (by omega))).allocK _, var3_newK rfl, BB.alloc BB.size _, by omega, by simp, by omega, Or.inr (Nat.le_refl _), hd1⟩
theorem copyB {w W2 w1 : World} {vf vg uf x y z : Value} {hand : Int} {d0 : Nat} (B2 : Below w.heap.size w W2) (s2 : W2.heap.size = w.heap.size + 2) (p2 : Var3 W2 w.heap.size vf vg (.int .i64 hand)) (r2 : Var3 W2 (w.heap.size + 1) (.slice none 0 0) (.slice none 0 0) (.int .i64 0)) (HB : Below W2.heap.size W2 w1) (hd : W2.heap.size + 1 ≤ d0) (hd1 : d0 ≤ w1.heap.size)
    (hX : Var3 w1 W2.heap.size x y z) :
    CopyAt w (((w1.setCell ⟨W2.heap.size, 0, none⟩ uf).setCell ⟨W2.heap.size, 1, none⟩ (.slice none 0 0)).setCell ⟨W2.heap.size, 2, none⟩ (.int .i64 hand)) W2.heap.size vf vg hand uf (.slice none 0 0) d0 w1.heap.size := by
  have s := HB.size
  have BB := B2.trans (HB.mono B2.size)
  have far : ∀ b, b ≠ W2.heap.size → (((w1.setCell ⟨W2.heap.size, 0, none⟩ uf).setCell ⟨W2.heap.size, 1, none⟩ (.slice none 0 0)).setCell ⟨W2.heap.size, 2, none⟩ (.int .i64 hand)).heap[b]? = w1.heap[b]? := fun b hb => by
    rw [Below.heap_setCell _ _ _ _ (by simpa using hb), Below.heap_setCell _ _ _ _ (by simpa using hb), Below.heap_setCell _ _ _ _ (by simpa using hb)]
  exact ⟨(p2.same (HB.block _ (by omega))).same (far _ (by omega)), (r2.same (HB.block _ (by omega))).same (far _ (by omega)), hX.putAll _ _ _, ((BB.setCell (p := ⟨W2.heap.size, 0, none⟩) (by show w.heap.size ≤ W2.heap.size; omega) _).setCell (p := ⟨W2.heap.size, 1, none⟩) (by show w.heap.size ≤ W2.heap.size; omega) _).setCell (p := ⟨W2.heap.size, 2, none⟩) (by show w.heap.size ≤ W2.heap.size; omega) _, by omega, by simp, by omega, Or.inl (by omega), hd1⟩

theorem adN (b o j : Nat) : (⟨b, o, none⟩ : Addr).add j = ⟨b, o + j, none⟩ := by by_cases h : j = 0 <;> simp [Addr.add, h]
/-- A row of nothing, made by a literal. -/
def Emp (W : World) (N : Nat) (t : TypeId) (b : Nat) : Prop := N ≤ b ∧ W.heap[b]? = some (.cells #[] t (0, 0))
theorem emp_new (W : World) (t : TypeId) {N : Nat} (h : N ≤ W.heap.size) : Emp (W.alloc (.cells #[] t)) N t W.heap.size := ⟨h, heap_alloc_new W _⟩
theorem Emp.same {W W' : World} {N b : Nat} {t : TypeId} (h : Emp W N t b) (e : W'.heap[b]? = W.heap[b]?) : Emp W' N t b := ⟨h.1, e.trans h.2⟩
theorem Emp.lt {W : World} {N b : Nat} {t : TypeId} (h : Emp W N t b) : b < W.heap.size := (Array.getElem?_eq_some_iff.1 h.2).1
theorem Emp.own {W : World} {N b : Nat} {t : TypeId} (h : Emp W N t b) (size : Nat) : W.ownsRow N t size (.slice (some ⟨b, 0, none⟩) 0 0) 0 [] := ⟨by simp, Or.inr ⟨b, 0, #[], rfl, h.1, h.2, Nat.le_refl _, by simp [maxLen], by simp, by simp⟩⟩
theorem own_range {w : World} {lo size g n c : Nat} {t : TypeId} {xs : List Value} (h : w.ownsRow lo t size (.slice (some ⟨g, 0, none⟩) n c) n xs) : w.rangeAt g 0 xs := fun j v hj => by
  have := h.cells (g := g) rfl j v hj
  rw [ad0] at this
  rw [Nat.zero_add]
  exact this
theorem own_room {w : World} {lo size g n c : Nat} {t : TypeId} {xs : List Value} (h : w.ownsRow lo t size (.slice (some ⟨g, 0, none⟩) n c) n xs) : Room w g (n * size) := fun j hj => by
  obtain ⟨_, hd⟩ := h
  rcases hd with ⟨h0, _⟩ | ⟨g, c', cur, hv, _, hh, hnc, _, hsz, _⟩
  · cases h0
  · cases hv
    have hj' : j < cur.size := by rw [hsz]; exact Nat.lt_of_lt_of_le hj (Nat.mul_le_mul_right _ hnc)
    have hc := cell_of_row w g j cur t (0, 0) hh
    exact ⟨⟨cur[j], by rw [hc]; simp [hj']⟩, by simp [World.frozen?, hh]⟩
theorem appM {W : World} {N b bm om c : Nat} {ms : List E3} (hE : Emp W N 76 b) (hN : N ≤ W.heap.size) (hs : Ents W bm om ms) (hl : ms.length = 6) :
    ∃ g c' w1, appRun Try.prog 60 60 (.slice (some ⟨b, 0, none⟩) 0 0) (.slice (some ⟨bm, om, none⟩) 6 c) W = .ok (.slice (some ⟨g, 0, none⟩) 6 c') w1 ∧ Hid (Ents w1 g 0 ms ∧ Room w1 g 18 ∧ (g = b ∨ g = W.heap.size) ∧ g < w1.heap.size ∧ W.grownBy w1 (some b)) := by
  obtain ⟨i0, hi0, hz0, hz1, hz2⟩ := info_parts infoM
  have hr := ents_range hs
  obtain ⟨g, c', w1, hrun, hown, hgrow, hat, hlt⟩ := run_append_lies (P := Try.prog) W 60 60 N 76 i0 _ 3 24 Try.underlying60 hi0 hz0 hz1 hz2 rfl (by decide) _ 0 [] (hE.own 3) ⟨bm, om, none⟩ 6 c (flat ms) (by rw [flat_len, hl]) (fun j u hj => by rw [adN]; exact hr j u hj) (flat_one ms) (by decide) (by simp [maxLen]) (by omega) hN _ rfl
  rw [Nat.zero_add] at hrun
  rw [Nat.zero_add, List.nil_append] at hown
  refine ⟨g, c', w1, hrun, range_ents (own_range hown), own_room hown, ?_, hlt, hgrow⟩
  rcases hat with e | e
  · left; simpa [Value.ownBlock] using e.symm
  · exact Or.inr e
theorem appQ {W : World} {N b bs os c : Nat} {ss : List S4} (hE : Emp W N 81 b) (hN : N ≤ W.heap.size) (hs : Quads W bs os ss) (hl : ss.length = 6) :
    ∃ g c' w1, appRun Try.prog 61 61 (.slice (some ⟨b, 0, none⟩) 0 0) (.slice (some ⟨bs, os, none⟩) 6 c) W = .ok (.slice (some ⟨g, 0, none⟩) 6 c') w1 ∧ Hid (Quads w1 g 0 ss ∧ Room w1 g 24 ∧ (g = b ∨ g = W.heap.size) ∧ g < w1.heap.size ∧ W.grownBy w1 (some b)) := by
  obtain ⟨i0, hi0, hz0, hz1, hz2⟩ := info_parts infoQ
  have hr := quads_range hs
  obtain ⟨g, c', w1, hrun, hown, hgrow, hat, hlt⟩ := run_append_lies (P := Try.prog) W 61 61 N 81 i0 _ 4 32 Try.underlying61 hi0 hz0 hz1 hz2 rfl (by decide) _ 0 [] (hE.own 4) ⟨bs, os, none⟩ 6 c (quadsC ss) (by rw [quadsC_len, hl]) (fun j u hj => by rw [adN]; exact hr j u hj) (quadsC_one ss) (by decide) (by simp [maxLen]) (by omega) hN _ rfl
  rw [Nat.zero_add] at hrun
  rw [Nat.zero_add, List.nil_append] at hown
  refine ⟨g, c', w1, hrun, range_quads (own_range hown), own_room hown, ?_, hlt, hgrow⟩
  rcases hat with e | e
  · left; simpa [Value.ownBlock] using e.symm
  · exact Or.inr e
theorem grown_below {W w1 : World} {N b : Nat} (h : W.grownBy w1 (some b)) (hb : N ≤ b) (hN : N ≤ W.heap.size) : Below N W w1 := ⟨h.os, h.tape, h.output, h.size, fun k hk => h.block k (by omega) (by intro e; cases e; omega)⟩

/-- What l12Copy has behind k guests. -/
def CopyUp (w wr : World) (M X k : Nat) (vf vg : Value) (hand : Int) (af : Option Addr) (cf : Nat) (ag : Option Addr) (cg m0 m1 : Nat) (fs : List (List Int)) (gs : List Gst) : Prop :=
  Var3 wr w.heap.size vf vg (.int .i64 hand) ∧ Var3 wr (w.heap.size + 1) (.slice none 0 0) (.slice none 0 0) (.int .i64 0) ∧ Var3 wr X (.slice af 8 cf) (.slice ag k cg) (.int .i64 hand) ∧ OwnMem wr m0 m1 af 8 fs ∧ Below w.heap.size w wr ∧ M ≤ wr.heap.size ∧
  ∃ vs, wr.ownsRow M 63 3 (.slice ag k cg) k vs ∧ GuestsVs wr (Value.slice ag k cg).ownBlock M wr.heap.size k gs vs
theorem copyUp_app {w wr w' : World} {M X k : Nat} {vf vg : Value} {hand : Int} {af : Option Addr} {cf : Nat} {ag : Option Addr} {cg m0 m1 : Nat} {fs : List (List Int)} {gs : List Gst} (h : CopyUp w wr M X k vf vg hand af cf ag cg m0 m1 fs gs)
    (n2 : m1 ≤ M) (n3 : w.heap.size + 2 ≤ X) (n4 : X < m0 ∨ m1 ≤ X) (n5 : X < M) (hk : k ≤ 1000) (BB : Below wr.heap.size wr w') {bm cm cd bs cs : Nat} {ad : Option Addr}
    (hG : OwnGuest w' wr.heap.size w'.heap.size (.slice (some ⟨bm, 0, none⟩) 6 cm) (.slice ad 6 cd) (.slice (some ⟨bs, 0, none⟩) 6 cs) (gs.getD k noG)) :
    X < w'.heap.size ∧ ∃ g cap w1, appRun Try.prog 25 25 (.slice ag k cg) (.slice (some ⟨w'.heap.size, 0, none⟩) 1 1) (w'.alloc (.cells #[.slice (some ⟨bm, 0, none⟩) 6 cm, .slice ad 6 cd, .slice (some ⟨bs, 0, none⟩) 6 cs] 63)) = .ok (.slice (some ⟨g, 0, none⟩) (k + 1) cap) w1 ∧
      w1.cell? ⟨X, 1, none⟩ = some (.slice ag k cg) ∧ w1.frozen? ⟨X, 1, none⟩ = false ∧ (∀ b, wr.heap.size ≤ b → b < w'.heap.size → w1.heap[b]? = w'.heap[b]?) ∧ Hid (CopyUp w (w1.setCell ⟨X, 1, none⟩ (.slice (some ⟨g, 0, none⟩) (k + 1) cap)) M X (k + 1) vf vg hand af cf (some ⟨g, 0, none⟩) cap m0 m1 fs gs) := by
  obtain ⟨hp, hr, hX, hM, hB, hMl, vs, hown, hgv⟩ := h
  obtain ⟨i0, hi0, hz0, hz1, hz2⟩ := info_parts infoG
  have hs := BB.size
  have hown2 : (w'.alloc (.cells #[.slice (some ⟨bm, 0, none⟩) 6 cm, .slice ad 6 cd, .slice (some ⟨bs, 0, none⟩) 6 cs] 63)).ownsRow M 63 3 (.slice ag k cg) k vs := by
    refine World.ownsRow.alloc (hown.kept (below_grown BB) ?_) _
    cases (Value.slice ag k cg).ownBlock
    · exact Or.inl rfl
    · exact Or.inr (by simp)
  have hnews := World.news_of_block (heap_alloc_new w' (.cells #[.slice (some ⟨bm, 0, none⟩) 6 cm, .slice ad 6 cd, .slice (some ⟨bs, 0, none⟩) 6 cs] 63))
  obtain ⟨g, cap, w1, hrun, hown1, hgrow, hat, hlt⟩ := run_append_lies (P := Try.prog) (w'.alloc (.cells #[.slice (some ⟨bm, 0, none⟩) 6 cm, .slice ad 6 cd, .slice (some ⟨bs, 0, none⟩) 6 cs] 63)) 25 25 M 63 i0 _ 3 72 Try.underlying25 hi0 hz0 hz1 hz2 rfl (by decide) _ k vs hown2 ⟨w'.heap.size, 0, none⟩ 1 1 [.slice (some ⟨bm, 0, none⟩) 6 cm, .slice ad 6 cd, .slice (some ⟨bs, 0, none⟩) 6 cs] rfl hnews (by simp [Value.oneCell']) (by decide) (by unfold maxLen; omega) (by omega) (by simp; omega) (w'.heap.size + 1) (by simp)
  have hne : ∀ b, b < M → some b ≠ (Value.slice ag k cg).ownBlock := fun b hb e => by have := (hown.lt _ e.symm).1; omega
  have keep : ∀ b x y z, b < M → Var3 wr b x y z → Var3 w1 b x y z := fun b x y z hb hv => ((hv.same (BB.block _ (by omega))).allocK _).same (hgrow.block _ (by simp; omega) (hne b hb))
  have hX1 := keep _ _ _ _ n5 hX
  have hs1 := hgrow.size
  rw [World.size_alloc] at hs1
  have Bw1 : Below w.heap.size w w1 := Below.grown ((hB.trans (BB.mono hB.size)).alloc (by have := hB.size; omega) _) hgrow (by have := hB.size; simp; omega) (fun j hj => by have := (hown2.lt _ hj).1; omega)
  refine ⟨by omega, g, cap, w1, hrun, hX1.2.1, hX1.2.2.2.2.1, fun b b1 b2 => ?_, ?_, ?_, hX1.put1 _, ?_, ?_, by rw [World.size_setCell]; omega, _, ownsRow_setCell_below hown1 (a := ⟨X, 1, none⟩) n5 _, ?_⟩
  · rw [hgrow.block b (by simp; omega) (fun e => by have := (hown.lt _ e.symm).2; omega)]
    exact ((Below.refl w'.heap.size w').alloc (Nat.le_refl _) _).block b b2
  · exact (keep _ _ _ _ (by omega) hp).same (Below.heap_setCell _ _ _ _ (by simp; omega))
  · exact (keep _ _ _ _ (by omega) hr).same (Below.heap_setCell _ _ _ _ (by simp; omega))
  · refine hM.same fun j j1 j2 => ?_
    rw [Below.heap_setCell _ _ _ _ (by simp; omega), hgrow.block j (by simp; omega) (hne j (by omega)), ((Below.refl w'.heap.size w').alloc (Nat.le_refl _) _).block j (by omega)]
    exact BB.block j (by omega)
  · exact Below.setCell Bw1 (p := ⟨X, 1, none⟩) (by show w.heap.size ≤ X; omega) _
  · rw [World.size_setCell]
    refine GuestsVs.put ?_ n5 _
    exact GuestsVs.step hgv hown.1 (fun T hT => (hown.lt _ hT).2) hMl BB hG hgrow hat
end Go.Proofs.Ytdamdjhnhkmncaa
