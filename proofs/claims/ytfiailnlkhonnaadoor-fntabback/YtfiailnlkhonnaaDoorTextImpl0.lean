/-
  What the program's own TabText does.
-/
import Derived.Test.YtfiailnlkhonnaaDoorTextPure0
import Derived.Test.YtfiailnlkhonnaaDoorLinks0
import Derived.Test.YtfiailnlkhonnaaDoorShelf
namespace Go.Proofs.YtfiailnlkhonnaaDoor
open Go.RowKit

theorem infoS : (Tryd.prog.info? 9).map (fun i => (i.zero, i.size, i.bytes)) = some (some (.string ⟨#[]⟩), 1, 16) := by kernel_rfl

theorem makeS (w : World) : (Instr.makeSlice 35 (.int .i64 0) (.int .i64 6)).run Tryd.prog w = .ok (.slice (some ⟨w.heap.size, 0, none⟩) 0 6) (w.alloc (.cells (madeCells #[.string ⟨#[]⟩] 6) 9)) := by
  obtain ⟨i0, hi, hz0, hz1, hz2⟩ := info_parts infoS
  have h := run_make (P := Tryd.prog) w 35 9 i0 _ Tryd.underlying35 hi hz0 .i64 .i64 0 6 (by omega) (by omega) (by rw [hz2]; omega) (by omega)
  rw [hz1] at h
  simpa [Value.cells] using h

theorem below_grownS {W w' : World} (h : Below W.heap.size W w') : W.grownBy w' none := ⟨h.os, h.tape, h.output, h.size, fun k hk _ => h.block k hk⟩

theorem own_not (v : Value) : v.ownBlock = none ∨ v.ownBlock ≠ none := by
  cases v.ownBlock with
  | none => exact Or.inl rfl
  | some g => exact Or.inr (by simp)

/-- What a row of texts that the call owns holds. -/
theorem own_texts {w : World} {base : Nat} {t : TypeId} {v : Value} {n : Nat} {xs : List ByteArray} (h : w.ownsRow base t 1 v n (xs.map Value.string)) (hn : 0 < n) :
    ∃ T cap, v = .slice (some ⟨T, 0, none⟩) n cap ∧ T < w.heap.size ∧ n ≤ cap ∧ ∀ (j : Nat) x, xs[j]? = some x → w.cell? ⟨T, 0 + j, none⟩ = some (.string x) := by
  have hc := h
  obtain ⟨_, hd⟩ := h
  rcases hd with ⟨_, h0⟩ | ⟨g, cap, cur, rfl, _, _, hnc, _⟩
  · omega
  · refine ⟨g, cap, rfl, (hc.lt g rfl).2, hnc, fun j x hx => ?_⟩
    have ad : (⟨g, 0, none⟩ : Addr).add j = ⟨g, 0 + j, none⟩ := by by_cases h : j = 0 <;> simp [Addr.add, h]
    rw [← ad]
    exact hc.cells rfl j _ (by rw [List.getElem?_map, hx]; rfl)

/-- The texts of the entries. -/
def txts (es : List E3) : List ByteArray := es.map txt
theorem txts_get (es : List E3) (k : Nat) (h : k < es.length) : (txts es).take (k + 1) = (txts es).take k ++ [txt (es.getD k (false, 0, false))] := by
  have h' : k < (txts es).length := by simpa [txts] using h
  rw [List.take_succ_eq_append_getElem h']
  have : (txts es)[k] = txt (es.getD k (false, 0, false)) := by simp [txts, List.getD_eq_getElem?_getD, h]
  rw [this]

theorem join_bd (es : List E3) (hl : es.length = 6) : (Lib.join ((txts es).map (·.data.toList)) [32]).length ≤ 100 := by
  have t2 : ∀ e : E3, (txt e).data.toList.length ≤ 2 := by
    intro e
    obtain ⟨h, p, b⟩ := e
    cases h
    · exact (by decide : (1 : Nat) ≤ 2)
    · cases b
      · exact (by decide : (1 : Nat) ≤ 2)
      · exact Nat.le_refl 2
  match es, hl with
  | [x0, x1, x2, x3, x4, x5], _ =>
    have a0 := t2 x0
    have a1 := t2 x1
    have a2 := t2 x2
    have a3 := t2 x3
    have a4 := t2 x4
    have a5 := t2 x5
    simp only [txts, List.map_cons, List.map_nil, Lib.join, List.intercalate, List.intersperse, List.flatten_cons, List.flatten_nil, List.length_append, List.length_cons, List.length_nil]
    omega

set_option maxHeartbeats 400000 in
theorem implTabText_not (b o len cap : Nat) (es : List E3) (w : World) (hl : es.length = len) (hb : b < w.heap.size) (hc : Ents w b o es) (hT : (es.all okE && ((len : Int) == 6)) = false) :
    Calls Tryd.prog 6 #[.slice (some ⟨b, o, none⟩) len cap] w fun e w' => e = .returned (.string ⟨#[]⟩) ∧ Below w.heap.size w w' := by
  go_enter Tryd.func6, Tryd.ntmps6
  go_wp2_with (fail)
  refine (implTabOk b o len cap es _ hl hb hc).mono ?_
  rintro e w1 ⟨rfl, B1⟩
  rw [hT]
  go_wp2
  go_ret
  exact ⟨rfl, B1⟩

set_option maxHeartbeats 2000000 in
theorem implTabText_ok (b o cap : Nat) (es : List E3) (w : World) (hl : es.length = 6) (hb : b < w.heap.size) (hc : Ents w b o es) (hA : es.all okE = true) :
    Calls Tryd.prog 6 #[.slice (some ⟨b, o, none⟩) 6 cap] w fun e w' => e = .returned (.string (⟨(Lib.join ((txts es).map (·.data.toList)) [32]).toArray⟩ ++ ⟨#[10]⟩)) ∧ Below w.heap.size w w' := by
  have hmk := makeS
  have m1 := method_gapText
  have m2 := method_leadText
  obtain ⟨i0, hi, hz0, hz1, hz2⟩ := info_parts infoS
  go_enter Tryd.func6, Tryd.ntmps6
  go_wp2_with (fail)
  refine (implTabOk b o 6 cap es _ hl hb hc).mono ?_
  rintro e w1 ⟨rfl, B1⟩
  rw [show (es.all okE && (((6 : Nat) : Int) == 6)) = true by rw [hA]; rfl]
  have s1 := B1.size
  go_wp2_with (fail)
  clear hmk
  go_loopw [3, 5, 12] (fun v _ i wr => ∃ k : Nat, k ≤ 6 ∧ i = .int .i64 k ∧ Hid (wr.ownsRow w1.heap.size 9 1 v k (((txts es).take k).map Value.string)) ∧ Below w.heap.size w wr ∧ w1.heap.size ≤ wr.heap.size) (fun _ _ i _ => 6 - (intOf i).toNat)
  case atStart => exact ⟨0, Nat.zero_le _, rfl, World.ownsRow_made w1 _ 6 (Nat.le_refl _) (by simp [maxLen]) (size_madeCells _ _), B1.alloc s1 _, by simp⟩
  case round =>
    obtain ⟨k, hk, rfl, hownH, hW, hge⟩ := hrel
    have sW := hW.size
    by_cases hkl : k < 6
    · obtain ⟨q0, q1, q2⟩ := hc k (by omega)
      have hx : Hid ((txts es).take (k + 1) = (txts es).take k ++ [txt (es.getD k (false, 0, false))]) := txts_get es k (by omega)
      have hP := fun p b (h : es.getD k (false, 0, false) = (true, p, b)) => ok_page' hA (k := k) (by omega) h
      have hN := fun p b (h : es.getD k (false, 0, false) = (false, p, b)) => ok_none' hA (k := k) (by omega) h
      generalize es.getD k (false, 0, false) = ek at q0 q1 q2 hx hP hN
      obtain ⟨eh, ep, ew⟩ := ek
      have c0 := (hW.cell (p := ⟨b, o + k * 3, none⟩) hb).trans q0
      have c1 := (hW.cell (p := ⟨b, o + k * 3 + 1, none⟩) hb).trans q1
      have c2 := (hW.cell (p := ⟨b, o + k * 3 + 2, none⟩) hb).trans q2
      clear q0 q1 q2
      have hki : (k : Int) < 6 := by omega
      have hL := linkOf_any eh ep ew
      cases eh
      · obtain ⟨rfl, rfl⟩ := hN ep ew rfl
        rw [show linkV (false, 0, false) = .iface 59 (.agg #[]) from rfl] at hL
        clear hP hN
        go_wp2_with (fail)
        refine (hL _).mono ?_
        rintro e w3 ⟨rfl, o3, rfl⟩
        go_wp2_with (fail)
        refine (gapText _).mono ?_
        rintro e w4 ⟨rfl, B4⟩
        have C4 : Below wr.heap.size wr w4 := by
          refine Below.trans ?_ (B4.mono (by simp; omega))
          (repeat' (with_reducible (first | exact Below.refl _ _ | apply Below.setCell | apply Below.alloc | apply below_drewN | apply Below.drew))) <;> (first | exact Nat.le_refl _ | (simp; done) | (simp; omega))
        have D4 := hW.trans (C4.mono sW)
        have hown := hownH.out.kept (below_grownS C4) (own_not _)
        have s4 := C4.size
        go_wp2_with (at_builtin; refine wpList_append_own _ rfl _ _ 35 rfl w1.heap.size 9 i0 (.string ⟨#[]⟩) 1 16 Tryd.underlying35 hi hz0 hz1 hz2 rfl (by decide) _ _ _ rfl (hown.alloc _) ⟨w4.heap.size, 0, none⟩ 1 1 [.string (txt (false, 0, false))] rfl rfl (cell_one_new _ _ _) (fun u hu => by simp at hu; subst hu; rfl) (by unfold maxLen; omega) (by omega) (by simp; omega) ?_; intro v' w5 hown' hgrow hnil)
        have B5 : Below w.heap.size w w5 := Below.grown (D4.alloc (Nat.le_trans sW s4) (.cells #[.string (txt (false, 0, false))] 9)) hgrow (by simp; omega) (fun j hj => Nat.le_trans s1 (hown.lt _ hj).1)
        have HO : Hid (w5.ownsRow w1.heap.size 9 1 v' (k + 1) (((txts es).take (k + 1)).map Value.string)) := by
          rw [hx.out, List.map_append]; exact hown'
        have g5 : w1.heap.size ≤ w5.heap.size := by have := hgrow.size; simp at this; omega
        clear hown' hgrow hown hnil
        go_wp2
        go_roundw
        case rel => exact ⟨k + 1, by omega, by go_num, HO, B5, g5⟩
        case measure => simp [intOf]; omega
      · have hp := hP ep ew rfl
        rw [show linkV (true, ep, ew) = .iface 61 (.agg #[.int .i64 ep, .bool ew]) from rfl] at hL
        clear hP hN
        go_wp2_with (fail)
        refine (hL _).mono ?_
        rintro e w3 ⟨rfl, o3, rfl⟩
        go_wp2_with (fail)
        refine (leadText ep ew _ hp.1 hp.2).mono ?_
        rintro e w4 ⟨rfl, B4⟩
        have C4 : Below wr.heap.size wr w4 := by
          refine Below.trans ?_ (B4.mono (by simp; omega))
          (repeat' (with_reducible (first | exact Below.refl _ _ | apply Below.setCell | apply Below.alloc | apply below_drewN | apply Below.drew))) <;> (first | exact Nat.le_refl _ | (simp; done) | (simp; omega))
        have D4 := hW.trans (C4.mono sW)
        have hown := hownH.out.kept (below_grownS C4) (own_not _)
        have s4 := C4.size
        go_wp2_with (at_builtin; refine wpList_append_own _ rfl _ _ 35 rfl w1.heap.size 9 i0 (.string ⟨#[]⟩) 1 16 Tryd.underlying35 hi hz0 hz1 hz2 rfl (by decide) _ _ _ rfl (hown.alloc _) ⟨w4.heap.size, 0, none⟩ 1 1 [.string (txt (true, ep, ew))] rfl rfl (cell_one_new _ _ _) (fun u hu => by simp at hu; subst hu; rfl) (by unfold maxLen; omega) (by omega) (by simp; omega) ?_; intro v' w5 hown' hgrow hnil)
        have B5 : Below w.heap.size w w5 := Below.grown (D4.alloc (Nat.le_trans sW s4) (.cells #[.string (txt (true, ep, ew))] 9)) hgrow (by simp; omega) (fun j hj => Nat.le_trans s1 (hown.lt _ hj).1)
        have HO : Hid (w5.ownsRow w1.heap.size 9 1 v' (k + 1) (((txts es).take (k + 1)).map Value.string)) := by
          rw [hx.out, List.map_append]; exact hown'
        have g5 : w1.heap.size ≤ w5.heap.size := by have := hgrow.size; simp at this; omega
        clear hown' hgrow hown hnil
        go_wp2
        go_roundw
        case rel => exact ⟨k + 1, by omega, by go_num, HO, B5, g5⟩
        case measure => simp [intOf]; omega
    · obtain rfl : k = 6 := by omega
      have hown := hownH.out
      rw [List.take_of_length_le (by simp [txts]; omega)] at hown
      obtain ⟨T, tc, hv, hT2, hcp, hcl⟩ := own_texts hown (by omega)
      subst hv
      clear hown hownH
      have hl6 : (txts es).length = 6 := by simpa [txts] using hl
      have hJ := Tryd.strings_Join T 0 tc (txts es) ⟨#[32]⟩ wr hcl hT2 (by omega) (by omega) (Nat.le_trans (join_bd es hl) (by omega))
      rw [hl6] at hJ
      have hsz : (⟨(Lib.join ((txts es).map (·.data.toList)) [32]).toArray⟩ : ByteArray).size ≤ 100 := by
        have := join_bd es hl
        simpa [ByteArray.size] using this
      obtain ⟨J, hJd⟩ : ∃ J : ByteArray, J = ⟨(Lib.join ((txts es).map (·.data.toList)) [32]).toArray⟩ := ⟨_, rfl⟩
      have HJ : Hid (J = ⟨(Lib.join ((txts es).map (·.data.toList)) [32]).toArray⟩) := hJd
      rw [← hJd] at hJ hsz
      clear hJd
      go_wp2_with (fail)
      refine hJ.mono ?_
      rintro e w5 ⟨rfl, B5⟩
      have B5' := hW.trans (B5.mono sW)
      clear hJ hcl
      go_wp2
      go_ret
      exact ⟨by rw [← HJ.out]; rfl, B5'⟩
theorem pre_join (es : List E3) (hl : es.length = 6) (hA : es.all okE = true) : preS es 6 = ⟨(Lib.join ((txts es).map (·.data.toList)) [32]).toArray⟩ := by
  match es, hl with
  | [x0, x1, x2, x3, x4, x5], _ =>
    simp only [List.all_cons, List.all_nil, Bool.and_true, Bool.and_eq_true] at hA
    obtain ⟨h0, h1, h2, h3, h4, h5⟩ := hA
    apply ByteArray.ext
    apply Array.toList_inj.mp
    show (stepS (stepS (stepS (stepS (stepS (stepS ⟨#[]⟩ x0 false) x1 false) x2 false) x3 false) x4 false) x5 true).data.toList = _
    rw [stepS_list _ x5 h5, stepS_list _ x4 h4, stepS_list _ x3 h3, stepS_list _ x2 h2, stepS_list _ x1 h1, stepS_list _ x0 h0]
    simp [txts, Lib.join, List.intercalate, List.intersperse]
end Go.Proofs.YtfiailnlkhonnaaDoor
