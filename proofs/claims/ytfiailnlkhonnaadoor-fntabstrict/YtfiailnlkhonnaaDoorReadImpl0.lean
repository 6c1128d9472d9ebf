/-
  What the program's own TabRead does.
-/
import Derived.Test.YtfiailnlkhonnaaDoorIter0
import Derived.Test.YtfiailnlkhonnaaDoorFlat0
namespace Go.Proofs.YtfiailnlkhonnaaDoor
open Go.RowKit Go.Shelf
attribute [local go_sem] Oper.semAt_some

theorem method_gapEntry (w : World) : Sem.run Tryd.prog (method 214 59 (.agg #[]) "loop.example/casket/impl.entry") w = .ok (78, .agg #[]) w := by kernel_rfl
theorem method_leadEntry (p : Int) (b : Bool) (w : World) : Sem.run Tryd.prog (method 214 61 (.agg #[.int .i64 p, .bool b]) "loop.example/casket/impl.entry") w = .ok (81, .agg #[.int .i64 p, .bool b]) w := by kernel_rfl

set_option maxHeartbeats 400000 in
theorem leadEntry_any (p : Int) (b : Bool) (w : World) :
    Calls Tryd.prog 81 #[.agg #[.int .i64 p, .bool b]] w fun e w' => e = .returned (.agg #[.bool true, .int .i64 p, .bool b]) ∧ Below w.heap.size w w' := by
  go_enter Tryd.func81, Tryd.ntmps81
  go_wp2
  refine bodyPost_ret (v := .agg #[.bool true, .int .i64 p, .bool b]) ?res rfl ⟨rfl, ?_⟩
  case res => simp [results, Tryd.results81, go_sem]
  (repeat' (with_reducible (first | exact Below.refl _ _ | apply Below.setCell | apply Below.alloc | apply below_drewN | apply Below.drew))) <;> (first | exact Nat.le_refl _ | (simp; done) | (simp; omega))

set_option maxHeartbeats 400000 in
theorem gapEntry_any (w : World) :
    Calls Tryd.prog 78 #[.agg #[]] w fun e w' => e = .returned (.agg #[.bool false, .int .i64 0, .bool false]) ∧ Below w.heap.size w w' := by
  go_enter Tryd.func78, Tryd.ntmps78
  go_wp2
  refine bodyPost_ret (v := .agg #[.bool false, .int .i64 0, .bool false]) ?res rfl ⟨rfl, ?_⟩
  case res => simp [results, Tryd.results78, go_sem]
  (repeat' (with_reducible (first | exact Below.refl _ _ | apply Below.setCell | apply Below.alloc | apply below_drewN | apply Below.drew))) <;> (first | exact Nat.le_refl _ | (simp; done) | (simp; omega))

theorem make_ents06 (w : World) :
    (Instr.makeSlice 23 (.int .i64 0) (.int .i64 6)).run Tryd.prog w = .ok (.slice (some ⟨w.heap.size, 0, none⟩) 0 6) (w.alloc (.cells (madeCells #[.bool false, .int .i64 0, .bool false] 18) 37)) := by
  obtain ⟨i0, hi, hz0, hz1, hz2⟩ := info_parts infoE
  have h := run_make (P := Tryd.prog) w 23 37 i0 _ Tryd.underlying23 hi hz0 .i64 .i64 0 6 (by omega) (by omega) (by rw [hz2]; omega) (by omega)
  rw [hz1] at h
  simpa [Value.cells] using h

theorem Room.kept {W W' : World} {b n : Nat} {row : Option Nat} (h : Room W b n) (hg : W.grownBy W' row) (hr : ∀ r, row = some r → ∃ o : Obj, W.heap[r]? = some o ∧ o.isCells = false) : Room W' b n := fun j hj => by
  obtain ⟨⟨v, hv⟩, hf⟩ := h j hj
  exact ⟨⟨v, cell_kept hv hg hr⟩, (frozen_kept hv hg hr).trans hf⟩
theorem Ents.kept {W W' : World} {b o : Nat} {es : List E3} {row : Option Nat} (h : Ents W b o es) (hg : W.grownBy W' row) (hr : ∀ r, row = some r → ∃ o : Obj, W.heap[r]? = some o ∧ o.isCells = false) : Ents W' b o es := fun i hi =>
  ⟨cell_kept (h i hi).1 hg hr, cell_kept (h i hi).2.1 hg hr, cell_kept (h i hi).2.2 hg hr⟩

/-- What holds between two pieces: the entries of those that have come lie in the table. -/
def RdI (N : Nat) (w : World) (pre : List Pc) (W : World) : Prop :=
  (∃ es : List E3, Boxed W (N + 1 + 1 + 1) 23 (.slice (some ⟨N + 1 + 1, 0, none⟩) es.length 6) ∧ (Room W (N + 1 + 1) 18 ∧ Ents W (N + 1 + 1) 0 es) ∧ (pcs pre = es.map txtL ∧ es.all okE = true ∧ es.length ≤ 6)) ∧
  Boxed W N 23 (.slice none 0 0) ∧ Boxed W (N + 1) 4 (.bool false) ∧ Below N w W
/-- Pieces that are no table's. -/
def Bad (pre : List Pc) : Prop := (∃ p ∈ pcs pre, ∀ e, okE e = true → txtL e ≠ p) ∨ 7 ≤ pre.length
def RdX (N : Nat) (w : World) (c : Code) (pre : List Pc) (W : World) : Prop :=
  c = .ret ∧ Bad pre ∧ Boxed W N 23 (.slice none 0 0) ∧ Boxed W (N + 1) 4 (.bool false) ∧ Below N w W
theorem rdI_own {B : Nat} (N : Nat) (w : World) (hN : N ≤ w.heap.size) (hB : N ≤ B) : OwnFrom B (RdI N w) := by
  refine OwnFrom.and (Own.from (fun s X Y row ⟨es, h1, h2, h3⟩ hg hr => ⟨es, boxed_own (N + 1 + 1 + 1) 23 (fun _ : Unit => Value.slice (some ⟨N + 1 + 1, 0, none⟩) es.length 6) () X Y row h1 hg hr, ⟨h2.1.kept hg hr, h2.2.kept hg hr⟩, h3⟩) B) ?_
  exact OwnFrom.and (Own.from (boxed_own _ _ _) _) (OwnFrom.and (Own.from (boxed_own _ _ _) _) (ownFrom_below hN hB))
theorem rdX_own {B : Nat} (N : Nat) (w : World) (hN : N ≤ w.heap.size) (hB : N ≤ B) (c : Code) : OwnFrom B (RdX N w c) :=
  OwnFrom.and (ownFrom_pure _ _) (OwnFrom.and (ownFrom_pure _ _) (OwnFrom.and (Own.from (boxed_own _ _ _) _) (OwnFrom.and (Own.from (boxed_own _ _ _) _) (ownFrom_below hN hB))))

theorem no_table {F : List UInt8} {pre : List Pc} (h : Bad pre) (hp : pcs pre <+: split32 F) {es : List E3} (hl : es.length = 6) (hA : es.all okE = true) : textL es ≠ F ++ [10] := by
  intro e
  have e' := (line_text (line := F) hl hA).1 e.symm
  rw [e'] at hp
  rcases h with ⟨p, hm, hn⟩ | h7
  · obtain ⟨x, hx, rfl⟩ := List.mem_map.1 (hp.subset hm)
    exact hn x (List.all_eq_true.1 hA x hx) rfl
  · have := hp.length_le
    rw [pcs_len, List.length_map] at this
    omega

theorem Room.blk {W W' : World} {b n : Nat} (h : Room W b n) (e : W'.heap[b]? = W.heap[b]?) : Room W' b n := fun j hj =>
  ⟨(h j hj).1.imp fun _ hv => (World.cell?_of_block (a := ⟨b, j, none⟩) e).trans hv, (World.frozen?_of_block (a := ⟨b, j, none⟩) e).trans (h j hj).2⟩
theorem Ents.blk {W W' : World} {b o : Nat} {es : List E3} (h : Ents W b o es) (e : W'.heap[b]? = W.heap[b]?) : Ents W' b o es := fun i hi =>
  ⟨(World.cell?_of_block (a := ⟨b, o + i * 3, none⟩) e).trans (h i hi).1, (World.cell?_of_block (a := ⟨b, o + i * 3 + 1, none⟩) e).trans (h i hi).2.1, (World.cell?_of_block (a := ⟨b, o + i * 3 + 2, none⟩) e).trans (h i hi).2.2⟩
theorem boxed_put {W : World} {B : Nat} {t : TypeId} {v : Value} (h : Boxed W B t v) {b : Nat} (hne : B ≠ b) (j : Nat) (u : Value) : Boxed (W.setCell ⟨b, j, none⟩ u) B t v :=
  (Below.heap_setCell W ⟨b, j, none⟩ u B (fun e => hne e)).trans h

theorem rd_step {B N : Nat} {w W W1 W2 : World} {pre : List Pc} {x : Pc} {es : List E3} {yh : Bool} {yp : Int} {yb : Bool} (o : Obj)
    (hKF : KeepsFrom B W W1) (hBW : Below N W W1) (hB1 : Below N w W1) (hsd : N ≤ W1.drew.heap.size) (B2 : Below W1.drew.heap.size W1.drew W2)
    (hT : Boxed W1.drew (N + 1 + 1 + 1) 23 (.slice (some ⟨N + 1 + 1, 0, none⟩) es.length 6)) (hR : Boxed W1.drew N 23 (.slice none 0 0)) (hK : Boxed W1.drew (N + 1) 4 (.bool false))
    (hO : Room W1.drew (N + 1 + 1) 18 ∧ Ents W1.drew (N + 1 + 1) 0 es) (hP : pcs pre = es.map txtL ∧ es.all okE = true) (hY : okE (yh, yp, yb) = true ∧ txtL (yh, yp, yb) = x.1.data.toList) (h6 : es.length + 1 ≤ 6) (lb : N + 1 + 1 < W2.heap.size) (lb3 : N + 1 + 1 + 1 < W2.heap.size) :
    KeepsFrom B W (((((W2.setCell ⟨N + 1 + 1, es.length * 3, none⟩ (.bool yh)).setCell ⟨N + 1 + 1, es.length * 3 + 1, none⟩ (.int .i64 yp)).setCell ⟨N + 1 + 1, es.length * 3 + 2, none⟩ (.bool yb)).setCell ⟨N + 1 + 1 + 1, 0, none⟩ (.slice (some ⟨N + 1 + 1, 0, none⟩) (es.length + 1) 6)).alloc o) ∧
    Below N W (((((W2.setCell ⟨N + 1 + 1, es.length * 3, none⟩ (.bool yh)).setCell ⟨N + 1 + 1, es.length * 3 + 1, none⟩ (.int .i64 yp)).setCell ⟨N + 1 + 1, es.length * 3 + 2, none⟩ (.bool yb)).setCell ⟨N + 1 + 1 + 1, 0, none⟩ (.slice (some ⟨N + 1 + 1, 0, none⟩) (es.length + 1) 6)).alloc o) ∧
    RdI N w (pre ++ [x]) (((((W2.setCell ⟨N + 1 + 1, es.length * 3, none⟩ (.bool yh)).setCell ⟨N + 1 + 1, es.length * 3 + 1, none⟩ (.int .i64 yp)).setCell ⟨N + 1 + 1, es.length * 3 + 2, none⟩ (.bool yb)).setCell ⟨N + 1 + 1 + 1, 0, none⟩ (.slice (some ⟨N + 1 + 1, 0, none⟩) (es.length + 1) 6)).alloc o) := by
  have g2 := below_grownS B2
  have hT2 := hT.kept g2 (by simp)
  have hR2 := hR.kept g2 (by simp)
  have hK2 := hK.kept g2 (by simp)
  have rm := hO.1.kept g2 (fun r e => by cases e)
  have en := hO.2.kept g2 (fun r e => by cases e)
  have key : ∀ V : World, Below N V W1 → Below N V (((((W2.setCell ⟨N + 1 + 1, es.length * 3, none⟩ (.bool yh)).setCell ⟨N + 1 + 1, es.length * 3 + 1, none⟩ (.int .i64 yp)).setCell ⟨N + 1 + 1, es.length * 3 + 2, none⟩ (.bool yb)).setCell ⟨N + 1 + 1 + 1, 0, none⟩ (.slice (some ⟨N + 1 + 1, 0, none⟩) (es.length + 1) 6)).alloc o) := by
    intro V hV
    have b2 : Below N V W2 := (hV.drew).trans (B2.mono hsd)
    refine Below.alloc (Below.setCell (Below.setCell (Below.setCell (Below.setCell b2 ?_ _) ?_ _) ?_ _) ?_ _) ?_ _
    all_goals first | (show N ≤ _; omega) | (simp; omega)
  refine ⟨?_, key W hBW, ?_⟩
  · refine (hKF.trans ((KeepsOthers.drew _).from _)).trans ((KeepsFrom.of_grownBy g2 (fun j e => by cases e)).trans ?_)
    exact (((((KeepsOthers.setCell _ _ _).trans (KeepsOthers.setCell _ _ _)).trans (KeepsOthers.setCell _ _ _)).trans (KeepsOthers.setCell _ _ _)).trans (KeepsOthers.alloc _ _)).from _
  · have hEl : (es ++ [(yh, yp, yb)]).length = es.length + 1 := by simp
    have e2 := ents_put (es := es ++ [(yh, yp, yb)]) (k := es.length) (eh := yh) (ep := yp) (eb := yb) rm (by rw [List.take_left' rfl]; exact en) (by simp) (by omega) (by simp [List.getD_eq_getElem?_getD])
    rw [List.take_of_length_le (by simp)] at e2
    have hh : ∀ (V : World) (u : Value), N + 1 + 1 < V.heap.size → ((V.setCell ⟨N + 1 + 1 + 1, 0, none⟩ u).alloc o).heap[N + 1 + 1]? = V.heap[N + 1 + 1]? := fun V u hlt =>
      (Below.heap_alloc _ o _ (by simpa using hlt)).trans (Below.heap_setCell V ⟨N + 1 + 1 + 1, 0, none⟩ u (N + 1 + 1) (by intro e; simp at e))
    refine ⟨⟨es ++ [(yh, yp, yb)], ?_, ⟨?_, ?_⟩, ?_, ?_, by rw [hEl]; exact h6⟩, ?_, ?_, key w hB1⟩
    · rw [hEl]
      exact ((boxed_put (boxed_put (boxed_put hT2 (by omega) _ _) (by omega) _ _) (by omega) _ _).set _).alloc o
    · exact (((rm.put _).put _).put _).blk (hh _ _ (by simpa using lb))
    · exact e2.blk (hh _ _ (by simpa using lb))
    · rw [pcs_snoc, hP.1, List.map_append, List.map_singleton, hY.2]
    · rw [List.all_append, hP.2]; simp [hY.1]
    · exact (boxed_put (boxed_put (boxed_put (boxed_put hR2 (by omega) _ _) (by omega) _ _) (by omega) _ _) (by omega) _ _).alloc o
    · exact (boxed_put (boxed_put (boxed_put (boxed_put hK2 (by omega) _ _) (by omega) _ _) (by omega) _ _) (by omega) _ _).alloc o

set_option maxRecDepth 100000 in
set_option maxHeartbeats 4000000 in
theorem implTabRead (s : ByteArray) (w : World) (hs : s.size ≤ 1048576) :
    Calls Tryd.prog 8 #[.string s] w fun e w' => ∃ v k, e = .returned (.tuple #[v, .bool k]) ∧
      ((k = true ∧ ∃ es : List E3, es.length = 6 ∧ es.all okE = true ∧ textL es = s.data.toList ∧ ∃ G, v = .slice (some ⟨G, 0, none⟩) 6 6 ∧ w.heap.size ≤ G ∧ G < w'.heap.size ∧ Room w' G 18 ∧ Ents w' G 0 es) ∨
       (k = false ∧ v = .slice none 0 0 ∧ ∀ es : List E3, es.length = 6 → es.all okE = true → textL es ≠ s.data.toList)) ∧ Below w.heap.size w w' := by
  obtain ⟨F, hF⟩ : ∃ F : ByteArray, F = ⟨(Lib.trimSuffix s.data.toList [10]).toArray⟩ := ⟨_, rfl⟩
  obtain ⟨B, hB⟩ : ∃ B : Bool, B = Lib.hasSuffix s.data.toList [10] := ⟨_, rfl⟩
  have hC := fun w => Tryd.strings_CutSuffix s ⟨#[10]⟩ w (by omega)
  rw [← hF, ← hB] at hC
  have hSuf : Hid ((B = true ∧ s.data.toList = F.data.toList ++ [10]) ∨ (B = false ∧ F.data.toList = s.data.toList ∧ ∀ m, s.data.toList ≠ m ++ [10])) := by
    have := suffix_one s.data.toList 10
    rw [hF, hB]
    exact this
  clear hF hB
  refine (callsIn_wide (n := 3)).1 ?_
  refine callsIn_of_wp_marks Tryd.func8 rfl trivial ?_ rfl
  simp only [Tryd.ntmps8, List.size_toArray, List.length_cons, List.length_nil, Nat.reduceAdd, Nat.reduceSub, Array.replicate_succ, Array.replicate_zero, List.push_toArray, List.append_toArray, List.nil_append, List.cons_append]
  gi_wp2_with (fail)
  try refine ⟨trivial, ?_⟩
  refine (callsIn_wide.2 (hC _)).mono ?_
  rintro e w1 ⟨rfl, rfl⟩
  cases B
  · gi_wp2
    refine ⟨_, by simp [results, Tryd.results8, go_sem]; rfl, ?_⟩
    refine ⟨.slice none 0 0, false, rfl, Or.inr ⟨rfl, rfl, ?_⟩, ?_⟩
    · intro es hl hA e
      rcases hSuf.out with ⟨h, _⟩ | ⟨_, _, h⟩
      · cases h
      · exact h _ e.symm
    · (repeat' (with_reducible (first | exact Below.refl _ _ | apply Below.setCell | apply Below.alloc | apply below_drewN | apply Below.drew))) <;> (first | exact Nat.le_refl _ | (simp; done) | (simp; omega))
  · have hmk := make_ents06
    gi_wp2_with (fail)
    try refine ⟨trivial, ?_⟩
    refine (pieces_any _ F _).mono ?_
    rintro e w2 ⟨rfl, rfl⟩
    gi_wp2_with (fail)
    clear hmk hC
    have hFs : F.size ≤ 1048576 := by
      rcases hSuf.out with ⟨_, h⟩ | ⟨h, _⟩
      · have h' := congrArg List.length h
        rw [Array.length_toList, List.length_append, Array.length_toList] at h'
        have e1 : s.data.size = s.size := rfl
        have e2 : F.data.size = F.size := rfl
        omega
      · cases h
    have hT : Hid (s.data.toList = F.data.toList ++ [10]) := by
      rcases hSuf.out with ⟨_, h⟩ | ⟨h, _⟩
      · exact h
      · cases h
    clear hSuf
    obtain ⟨cs, hcs⟩ : ∃ cs, madeCells #[.bool false, .int .i64 0, .bool false] 18 = cs := ⟨_, rfl⟩
    rw [hcs]
    have bR := ((((Boxed.new w 23 (.slice none 0 0)).alloc (.cells #[.bool false] 4)).alloc (.cells cs 37)).alloc (.cells #[.slice (some ⟨w.heap.size + 1 + 1, 0, none⟩) 0 6] 23)).alloc (.cells #[.string F] 9)
    have bK := (((Boxed.new (w.alloc (.cells #[.slice none 0 0] 23)) 4 (.bool false)).alloc (.cells cs 37)).alloc (.cells #[.slice (some ⟨w.heap.size + 1 + 1, 0, none⟩) 0 6] 23)).alloc (.cells #[.string F] 9)
    have hRm := ((room_made ((w.alloc (.cells #[.slice none 0 0] 23)).alloc (.cells #[.bool false] 4)) #[.bool false, .int .i64 0, .bool false] 18 37).kept (World.grownBy_alloc _ (.cells #[.slice (some ⟨w.heap.size + 1 + 1, 0, none⟩) 0 6] 23) none) (fun r e => by cases e)).kept (World.grownBy_alloc _ (.cells #[.string F] 9) none) (fun r e => by cases e)
    rw [hcs] at hRm
    have bT := (Boxed.new (((w.alloc (.cells #[.slice none 0 0] 23)).alloc (.cells #[.bool false] 4)).alloc (.cells cs 37)) 23 (.slice (some ⟨w.heap.size + 1 + 1, 0, none⟩) 0 6)).alloc (.cells #[.string F] 9)
    have bL := Boxed.new ((((w.alloc (.cells #[.slice none 0 0] 23)).alloc (.cells #[.bool false] 4)).alloc (.cells cs 37)).alloc (.cells #[.slice (some ⟨w.heap.size + 1 + 1, 0, none⟩) 0 6] 23)) 9 (.string F)
    have hB0 : Below w.heap.size w (((((w.alloc (.cells #[.slice none 0 0] 23)).alloc (.cells #[.bool false] 4)).alloc (.cells cs 37)).alloc (.cells #[.slice (some ⟨w.heap.size + 1 + 1, 0, none⟩) 0 6] 23)).alloc (.cells #[.string F] 9)) := by
      (repeat' (with_reducible (first | exact Below.refl _ _ | apply Below.setCell | apply Below.alloc | apply below_drewN | apply Below.drew))) <;> (first | exact Nat.le_refl _ | (simp; done) | (simp; omega))
    simp only [World.size_alloc] at bK hRm bT bL
    obtain ⟨W0, hW0⟩ : ∃ W0, (((((w.alloc (.cells #[.slice none 0 0] 23)).alloc (.cells #[.bool false] 4)).alloc (.cells cs 37)).alloc (.cells #[.slice (some ⟨w.heap.size + 1 + 1, 0, none⟩) 0 6] 23)).alloc (.cells #[.string F] 9)) = W0 := ⟨_, rfl⟩
    rw [hW0] at bR bK hRm bT bL hB0 ⊢
    have hsz : W0.heap.size = w.heap.size + 1 + 1 + 1 + 1 + 1 := by rw [← hW0]; simp
    clear hW0 hcs
    have hI0 : OwnFrom W0.heap.size (RdI w.heap.size w) := rdI_own _ _ (Nat.le_refl _) (by omega)
    refine wpIn_rangeFunc_ownG rfl (by omega) (gf := 32) (lb := #[.pointer (some ⟨w.heap.size + 1 + 1 + 1 + 1, 0, none⟩)]) rfl trivial (enters_of Tryd.func32 (by kernel_rfl) rfl)
      (pieces_stops 2 (by omega) (w.heap.size + 1 + 1 + 1 + 1) w.heap.size F hFs W0 (by omega) bL.cell) belowK_t (belowK_b (by omega)) (Below.refl _ _) (fun _ => rfl)
      (RdI w.heap.size w) (RdX w.heap.size w) hI0 (rdX_own _ _ (Nat.le_refl _) (by omega))
      ⟨⟨[], bT, ⟨hRm, fun i hi => by simp at hi⟩, rfl, rfl, by simp⟩, bR, bK, hB0⟩
      (fun x => { tmps := #[.string s, undef, .pointer (some ⟨w.heap.size, 0, none⟩), .pointer (some ⟨w.heap.size + 1, 0, none⟩), .string F, .bool true, .pointer (some ⟨w.heap.size + 1 + 1 + 1, 0, none⟩), .string x.1, undef, undef,
        .tuple #[.string F, .bool true], .string s, .tuple #[.string F, .bool true], .string F, .bool true, .bool true, .bool false, .slice (some ⟨w.heap.size + 1 + 1, 0, none⟩) 0 6, .string F,
        .func (.func 32) #[] #[.pointer (some ⟨w.heap.size + 1 + 1 + 1 + 1, 0, none⟩)], .string x.1, undef, undef, undef, undef, undef, undef, undef, undef, undef, undef, undef, undef, undef, undef, undef, undef, undef, undef, undef, undef, undef], defers := [] }) ?assign ?body ?done ?stop
    case assign =>
      intro l x W K hK
      gi_wp2
      exact hK
    case body =>
      rintro l pre x W hI hlt
      have hWs : w.heap.size ≤ W.heap.size := hI.2.2.2.size
      gi_wp2_with (fail)
      refine ⟨trivial, ?_⟩
      refine (CallsIn.inRound l (callsIn_wide.2 (readLink_any x.1 _ x.2))).mono ?_
      rintro e W1 ⟨y, k, rfl, hyk, B1⟩
      have hI1 : RdI w.heap.size w pre W1 := hI0 pre W W1 none hI (below_grownS B1) (fun r e => by cases e)
      have hKF : KeepsFrom W0.heap.size W W1 := KeepsFrom.of_grownBy (below_grownS B1) (fun j e => by cases e)
      have hBW : Below w.heap.size W W1 := B1.mono hWs
      have HI : Hid (RdI w.heap.size w pre W1) := hI1
      obtain ⟨⟨es, bT1, ⟨rm1, en1⟩, hpc, hok, hlen⟩, bR1, bK1, hB1⟩ := hI1
      clear hI B1
      have cT := bT1.cell
      have fT := bT1.frozen
      have cR := bR1.cell
      have fR := bR1.frozen
      have cK := bK1.cell
      have fK := bK1.frozen
      have HT : Hid (Boxed W1 (w.heap.size + 1 + 1 + 1) 23 (.slice (some ⟨w.heap.size + 1 + 1, 0, none⟩) es.length 6)) := bT1
      have HR : Hid (Boxed W1 w.heap.size 23 (.slice none 0 0)) := bR1
      have HK : Hid (Boxed W1 (w.heap.size + 1) 4 (.bool false)) := bK1
      have HO : Hid (Room W1 (w.heap.size + 1 + 1) 18 ∧ Ents W1 (w.heap.size + 1 + 1) 0 es) := ⟨rm1, en1⟩
      have HP : Hid (pcs pre = es.map txtL ∧ es.all okE = true) := ⟨hpc, hok⟩
      clear bT1 bR1 bK1 rm1 en1 hpc hok
      have hend : ∀ A : Bad (pre ++ [x]), KeepsFrom W0.heap.size W ((W1.setCell ⟨w.heap.size, 0, none⟩ (.slice none 0 0)).setCell ⟨w.heap.size + 1, 0, none⟩ (.bool false)) ∧
          RdX w.heap.size w .ret (pre ++ [x]) ((W1.setCell ⟨w.heap.size, 0, none⟩ (.slice none 0 0)).setCell ⟨w.heap.size + 1, 0, none⟩ (.bool false)) := by
        intro A
        refine ⟨hKF.trans (((KeepsOthers.setCell _ _ _).trans (KeepsOthers.setCell _ _ _)).from _), rfl, A, (HR.out.set _).other (by omega) _, (HK.out.other (by omega) _).set _, ?_⟩
        exact (hB1.setCell (p := ⟨w.heap.size, 0, none⟩) (Nat.le_refl _) _).setCell (p := ⟨w.heap.size + 1, 0, none⟩) (by simp) _
      rcases hyk with ⟨rfl, hoky, htx⟩ | ⟨rfl, hno⟩
      · have HY : Hid (okE y = true ∧ txtL y = x.1.data.toList) := ⟨hoky, htx⟩
        clear hoky htx
        by_cases h6 : es.length = 6
        · have hbad : Bad (pre ++ [x]) := by
            have := congrArg List.length HP.out.1
            rw [pcs_len, List.length_map] at this
            exact Or.inr (by rw [List.length_append]; simp; omega)
          have hen := hend hbad
          clear hend hbad
          rw [h6] at cT
          gi_wp2
          exact hen
        · have h6i : ¬ (es.length : Int) = 6 := by omega
          clear hend
          obtain ⟨yh, yp, yb⟩ := y
          cases yh
          · have hg0 : yp = 0 ∧ yb = false := by simpa [okE] using HY.out.1
            obtain ⟨rfl, rfl⟩ := hg0
            have hl : linkV (false, 0, false) = .iface 59 (.agg #[]) := rfl
            have hM := method_gapEntry
            rw [hl]
            gi_wp2_with (fail)
            have hmx : Tryd.prog.follows .mixedOrders = true := by kernel_rfl
            have HTd : Hid (Boxed W1.drew (w.heap.size + 1 + 1 + 1) 23 (.slice (some ⟨w.heap.size + 1 + 1, 0, none⟩) es.length 6)) := HT.out
            have HRd : Hid (Boxed W1.drew w.heap.size 23 (.slice none 0 0)) := HR.out
            have HKd : Hid (Boxed W1.drew (w.heap.size + 1) 4 (.bool false)) := HK.out
            have HOd : Hid (Room W1.drew (w.heap.size + 1 + 1) 18 ∧ Ents W1.drew (w.heap.size + 1 + 1) 0 es) := HO.out
            have h6f : es.length + 1 ≤ 6 := by omega
            have hsd : w.heap.size ≤ W1.drew.heap.size := hB1.size
            clear HT HR HK HO
            obtain ⟨Q, hQ⟩ : ∃ Q, ownPostG W0.heap.size (Below w.heap.size) (RdI w.heap.size w) (RdX w.heap.size w) (pre ++ [x]) W = Q := ⟨_, rfl⟩
            rw [hQ]
            have HQ : Hid (ownPostG W0.heap.size (Below w.heap.size) (RdI w.heap.size w) (RdX w.heap.size w) (pre ++ [x]) W = Q) := hQ
            clear hQ
            gi_region_with_o (refine ⟨trivial, ?_⟩; refine (CallsIn.inRound l (callsIn_wide.2 (gapEntry_any _))).mono ?_; rintro e W2 ⟨rfl, B2⟩; have hT2 := HTd.out.kept (below_grownS B2) (by simp); have cT2 := hT2.cell; have fT2 := hT2.frozen; have hO2 := HOd.out.1.kept (below_grownS B2) (fun r e => (by cases e)); obtain ⟨⟨u0, d0⟩, f0⟩ := hO2 (es.length * 3) (by omega); obtain ⟨⟨u1, d1⟩, f1⟩ := hO2 (es.length * 3 + 1) (by omega); obtain ⟨⟨u2, d2⟩, f2⟩ := hO2 (es.length * 3 + 2) (by omega); have lb2 : w.heap.size + 1 + 1 < W2.heap.size := World.block_lt_of_cell? _ _ d0; have lb3 : w.heap.size + 1 + 1 + 1 < W2.heap.size := World.block_lt_of_cell? _ _ cT2)
            all_goals
              rw [← HQ.out]
              exact rd_step _ hKF hBW hB1 hsd B2 HTd.out HRd.out HKd.out HOd.out HP.out HY.out h6f lb2 lb3
          · have hl : linkV (true, yp, yb) = .iface 61 (.agg #[.int .i64 yp, .bool yb]) := rfl
            have hM := method_leadEntry
            rw [hl]
            gi_wp2_with (fail)
            have hmx : Tryd.prog.follows .mixedOrders = true := by kernel_rfl
            have HTd : Hid (Boxed W1.drew (w.heap.size + 1 + 1 + 1) 23 (.slice (some ⟨w.heap.size + 1 + 1, 0, none⟩) es.length 6)) := HT.out
            have HRd : Hid (Boxed W1.drew w.heap.size 23 (.slice none 0 0)) := HR.out
            have HKd : Hid (Boxed W1.drew (w.heap.size + 1) 4 (.bool false)) := HK.out
            have HOd : Hid (Room W1.drew (w.heap.size + 1 + 1) 18 ∧ Ents W1.drew (w.heap.size + 1 + 1) 0 es) := HO.out
            have h6f : es.length + 1 ≤ 6 := by omega
            have hsd : w.heap.size ≤ W1.drew.heap.size := hB1.size
            clear HT HR HK HO
            obtain ⟨Q, hQ⟩ : ∃ Q, ownPostG W0.heap.size (Below w.heap.size) (RdI w.heap.size w) (RdX w.heap.size w) (pre ++ [x]) W = Q := ⟨_, rfl⟩
            rw [hQ]
            have HQ : Hid (ownPostG W0.heap.size (Below w.heap.size) (RdI w.heap.size w) (RdX w.heap.size w) (pre ++ [x]) W = Q) := hQ
            clear hQ
            gi_region_with_o (refine ⟨trivial, ?_⟩; refine (CallsIn.inRound l (callsIn_wide.2 (leadEntry_any _ _ _))).mono ?_; rintro e W2 ⟨rfl, B2⟩; have hT2 := HTd.out.kept (below_grownS B2) (by simp); have cT2 := hT2.cell; have fT2 := hT2.frozen; have hO2 := HOd.out.1.kept (below_grownS B2) (fun r e => (by cases e)); obtain ⟨⟨u0, d0⟩, f0⟩ := hO2 (es.length * 3) (by omega); obtain ⟨⟨u1, d1⟩, f1⟩ := hO2 (es.length * 3 + 1) (by omega); obtain ⟨⟨u2, d2⟩, f2⟩ := hO2 (es.length * 3 + 2) (by omega); have lb2 : w.heap.size + 1 + 1 < W2.heap.size := World.block_lt_of_cell? _ _ d0; have lb3 : w.heap.size + 1 + 1 + 1 < W2.heap.size := World.block_lt_of_cell? _ _ cT2)
            all_goals
              rw [← HQ.out]
              exact rd_step _ hKF hBW hB1 hsd B2 HTd.out HRd.out HKd.out HOd.out HP.out HY.out h6f lb2 lb3
      · have hbad : Bad (pre ++ [x]) := Or.inl ⟨x.1.data.toList, by rw [pcs_snoc]; simp, hno⟩
        have hen := hend hbad
        clear hend hno hbad
        gi_wp2
        exact hen
    case done =>
      rintro D ys W hD hys ⟨⟨es, bT1, ⟨rm, en⟩, hpc, hok, hlen⟩, bR1, bK1, hB⟩ hK
      have cT := bT1.cell
      have cR := bR1.cell
      have fR := bR1.frozen
      have cK := bK1.cell
      have fK := bK1.frozen
      have HS : Hid (split32 F.data.toList = es.map txtL) := hys.symm.trans hpc
      have HA : Hid (es.all okE = true) := hok
      have HRm : Hid (Room W (w.heap.size + 1 + 1) 18) := rm
      have HEn : Hid (Ents W (w.heap.size + 1 + 1) 0 es) := en
      have HB : Hid (Below w.heap.size w W) := hB
      have HBR : Hid (Boxed W w.heap.size 23 (.slice none 0 0)) := bR1
      have HBK : Hid (Boxed W (w.heap.size + 1) 4 (.bool false)) := bK1
      have HKk : Hid (W.heap[D]? = some (.deferred (some []))) := hK
      clear hpc hok rm en hB bR1 bK1 bT1 hys hK
      by_cases h6 : es.length = 6
      · rw [h6] at cT
        gi_wp2
        have bR2 : Boxed ((W.setCell ⟨w.heap.size, 0, none⟩ (.slice (some ⟨w.heap.size + 1 + 1, 0, none⟩) 6 6)).setCell ⟨w.heap.size + 1, 0, none⟩ (.bool true)) w.heap.size 23 (.slice (some ⟨w.heap.size + 1 + 1, 0, none⟩) 6 6) := (HBR.out.set _).other (by omega) _
        have bK2 : Boxed ((W.setCell ⟨w.heap.size, 0, none⟩ (.slice (some ⟨w.heap.size + 1 + 1, 0, none⟩) 6 6)).setCell ⟨w.heap.size + 1, 0, none⟩ (.bool true)) (w.heap.size + 1) 4 (.bool true) := (HBK.out.other (by omega) _).set _
        have hK2 := ((KeepsOthers.setCell W ⟨w.heap.size, 0, none⟩ (.slice (some ⟨w.heap.size + 1 + 1, 0, none⟩) 6 6)).trans (KeepsOthers.setCell _ ⟨w.heap.size + 1, 0, none⟩ (.bool true))).same D _ HKk.out rfl
        have hB2 : Below w.heap.size w ((W.setCell ⟨w.heap.size, 0, none⟩ (.slice (some ⟨w.heap.size + 1 + 1, 0, none⟩) 6 6)).setCell ⟨w.heap.size + 1, 0, none⟩ (.bool true)) := (HB.out.setCell (p := ⟨w.heap.size, 0, none⟩) (Nat.le_refl _) _).setCell (p := ⟨w.heap.size + 1, 0, none⟩) (by simp) _
        have hh : ((W.setCell ⟨w.heap.size, 0, none⟩ (.slice (some ⟨w.heap.size + 1 + 1, 0, none⟩) 6 6)).setCell ⟨w.heap.size + 1, 0, none⟩ (.bool true)).heap[w.heap.size + 1 + 1]? = W.heap[w.heap.size + 1 + 1]? := (Below.heap_setCell _ ⟨w.heap.size + 1, 0, none⟩ _ _ (by intro e; simp at e)).trans (Below.heap_setCell _ ⟨w.heap.size, 0, none⟩ _ _ (by intro e; simp at e; omega))
        obtain ⟨V, hV⟩ : ∃ V, (W.setCell ⟨w.heap.size, 0, none⟩ (.slice (some ⟨w.heap.size + 1 + 1, 0, none⟩) 6 6)).setCell ⟨w.heap.size + 1, 0, none⟩ (.bool true) = V := ⟨_, rfl⟩
        rw [hV] at bR2 bK2 hK2 hB2 hh ⊢
        refine ⟨by simp, .inl ⟨_, _, rfl, run_takeDeferred hK2, ?_⟩⟩
        have cR3 := (bR2.kept (grownBy_putObj' _ D (.deferred none)) (by simp; omega)).cell
        have cK3 := (bK2.kept (grownBy_putObj' _ D (.deferred none)) (by simp; omega)).cell
        have hh3 : (V.putObj D (.deferred none)).heap[w.heap.size + 1 + 1]? = W.heap[w.heap.size + 1 + 1]? := (World.putObj_heap_other (by omega)).trans hh
        refine ⟨.tuple #[.slice (some ⟨w.heap.size + 1 + 1, 0, none⟩) 6 6, .bool true], by simp [results, Tryd.results8, go_sem, cR3, cK3], .slice (some ⟨w.heap.size + 1 + 1, 0, none⟩) 6 6, true, rfl, Or.inl ⟨rfl, es, h6, HA.out, ?_, w.heap.size + 1 + 1, rfl, by omega, ?_, HRm.out.blk hh3, HEn.out.blk hh3⟩, hB2.trans (belowK_b (w := w) (Nat.le_refl _) V D _ _ (by omega) hK2 rfl rfl)⟩
        · rw [hT.out]; exact ((line_text h6 HA.out).2 HS.out).symm
        · obtain ⟨⟨u, hu⟩, _⟩ := (HRm.out.blk hh3) 0 (by omega)
          exact World.block_lt_of_cell? _ _ hu
      · have h6i : ¬ (es.length : Int) = 6 := by omega
        gi_wp2
        have bR2 : Boxed ((W.setCell ⟨w.heap.size, 0, none⟩ (.slice none 0 0)).setCell ⟨w.heap.size + 1, 0, none⟩ (.bool false)) w.heap.size 23 (.slice none 0 0) := (HBR.out.set _).other (by omega) _
        have bK2 : Boxed ((W.setCell ⟨w.heap.size, 0, none⟩ (.slice none 0 0)).setCell ⟨w.heap.size + 1, 0, none⟩ (.bool false)) (w.heap.size + 1) 4 (.bool false) := (HBK.out.other (by omega) _).set _
        have hK2 := ((KeepsOthers.setCell W ⟨w.heap.size, 0, none⟩ (.slice none 0 0)).trans (KeepsOthers.setCell _ ⟨w.heap.size + 1, 0, none⟩ (.bool false))).same D _ HKk.out rfl
        have hB2 : Below w.heap.size w ((W.setCell ⟨w.heap.size, 0, none⟩ (.slice none 0 0)).setCell ⟨w.heap.size + 1, 0, none⟩ (.bool false)) := (HB.out.setCell (p := ⟨w.heap.size, 0, none⟩) (Nat.le_refl _) _).setCell (p := ⟨w.heap.size + 1, 0, none⟩) (by simp) _
        obtain ⟨V, hV⟩ : ∃ V, (W.setCell ⟨w.heap.size, 0, none⟩ (.slice none 0 0)).setCell ⟨w.heap.size + 1, 0, none⟩ (.bool false) = V := ⟨_, rfl⟩
        rw [hV] at bR2 bK2 hK2 hB2 ⊢
        refine ⟨by simp, .inl ⟨_, _, rfl, run_takeDeferred hK2, ?_⟩⟩
        have cR3 := (bR2.kept (grownBy_putObj' _ D (.deferred none)) (by simp; omega)).cell
        have cK3 := (bK2.kept (grownBy_putObj' _ D (.deferred none)) (by simp; omega)).cell
        refine ⟨.tuple #[.slice none 0 0, .bool false], by simp [results, Tryd.results8, go_sem, cR3, cK3], .slice none 0 0, false, rfl, Or.inr ⟨rfl, rfl, ?_⟩, hB2.trans (belowK_b (w := w) (Nat.le_refl _) V D _ _ (by omega) hK2 rfl rfl)⟩
        intro fs hl hA e
        rw [hT.out] at e
        have e' := (line_text hl hA).1 e.symm
        have e2 := congrArg List.length (HS.out.symm.trans e')
        simp at e2
        omega
    case stop =>
      rintro D c pre W hD hpre ⟨rfl, hbad, bR1, bK1, hB⟩ hK
      have HT2 : Hid (Bad pre ∧ pcs pre <+: split32 F.data.toList) := ⟨hbad, hpre⟩
      clear hbad hpre
      gi_wp2
      refine ⟨by simp, .inl ⟨_, _, rfl, run_takeDeferred hK, ?_⟩⟩
      have cR3 := (bR1.kept (grownBy_putObj' _ D (.deferred none)) (by simp; omega)).cell
      have cK3 := (bK1.kept (grownBy_putObj' _ D (.deferred none)) (by simp; omega)).cell
      refine ⟨.tuple #[.slice none 0 0, .bool false], by simp [results, Tryd.results8, go_sem, cR3, cK3], .slice none 0 0, false, rfl, Or.inr ⟨rfl, rfl, ?_⟩, hB.trans (belowK_b (w := w) (Nat.le_refl _) W D _ _ (by omega) hK rfl rfl)⟩
      intro es hl hA
      rw [hT.out]
      exact no_table HT2.out.1 HT2.out.2 hl hA
end Go.Proofs.YtfiailnlkhonnaaDoor
