/-
  What the given l13Forget does.
-/
import Derived.Test.YtcaknccodndmiaaKS
set_option linter.unusedSimpArgs false
namespace Go.Proofs.Ytcaknccodndmiaa
open Go.RowKit
attribute [local go_sem ↓] Go.wp_at_zero Go.wp_at_succ exec_app
attribute [local go_sem] bigNext_ok

def hitS (p : Int) (s : S4) : Bool := s.1 && (s.2.1 == p)
/-- Shades, the first k of which have been forgotten where they lead to a page. -/
def fU (ss : List S4) (p : Int) : Nat → List S4
  | 0 => ss
  | k + 1 => bif hitS p ((fU ss p k).getD k noS) then (fU ss p k).set k noS else fU ss p k
theorem fU_len (ss : List S4) (p : Int) : ∀ k, (fU ss p k).length = ss.length
  | 0 => rfl
  | k + 1 => by
    rw [fU]
    cases hitS p ((fU ss p k).getD k noS)
    · exact fU_len ss p k
    · rw [cond_true, List.length_set]; exact fU_len ss p k
def withS (x : Gst) (ss : List S4) : Gst := ⟨x.maps, x.disk, ss⟩
theorem withS_self (x : Gst) : withS x x.shades = x := rfl
theorem setG_self {h : Hst} {g : Nat} (hg : g < h.guests.length) : setG h g (gOf h g) = h := by
  cases h with
  | mk f gs z =>
    have : gs.set g (gs.getD g noG) = gs := by
      apply List.ext_getElem?
      intro i
      by_cases hi : i = g
      · subst hi
        rw [List.getElem?_set_self hg, getD_lt hg]
        simp [hg]
      · rw [List.getElem?_set_ne (by omega)]
    show Hst.mk f (gs.set g (gs.getD g noG)) z = _
    rw [this]
theorem setG_setG (h : Hst) (g : Nat) (x y : Gst) : setG (setG h g x) g y = setG h g y := by
  simp [setG, List.set_set]

/-- One shade of a guest written. -/
theorem SepH.shade {w : World} {N : Nat} {A : Pl → Nat} {h : Hst} (k : SepH w N A h) {g : Nat} (hg : g < h.guests.length) {i : Nat} (hi : i < 6) (s : S4) :
    SepH ((((w.setCell ⟨A (.shd g), i * 4, none⟩ (.bool s.1)).setCell ⟨A (.shd g), i * 4 + 1, none⟩ (.int .i64 s.2.1)).setCell ⟨A (.shd g), i * 4 + 2, none⟩ (.int .i64 s.2.2.1)).setCell ⟨A (.shd g), i * 4 + 3, none⟩ (.bool s.2.2.2)) N A (setG h g (withS (gOf h g) ((gOf h g).shades.set i s))) := by
  obtain ⟨s1, s2, s3, s4⟩ := k.sz g hg
  have hh := k.held (.shd g) hg
  refine k.put (.shd g) hg (setG_len _ _ _) k.f8 k.f4 (fun j hj => ?_) (by simp) (fun j hj => ?_) (fun x hx hne hx2 => ?_) ⟨fun j hj => ?_, ?_⟩
  · by_cases e : j = g
    · subst e
      rw [gOf_set_same hg]
      exact ⟨s1, s2, s3, by show ((gOf h j).shades.set i s).length = 6; rw [List.length_set]; exact s4⟩
    · rw [gOf_set_ne e]; exact k.sz j hj
  · rw [Below.heap_setCell _ _ _ _ (by simpa using hj), Below.heap_setCell _ _ _ _ (by simpa using hj), Below.heap_setCell _ _ _ _ (by simpa using hj), Below.heap_setCell _ _ _ _ (by simpa using hj)]
  · exact held_setG hg x hx2 (fun _ => rfl) (fun e => (hne e).elim) (fun p _ => rfl)
  · rw [gOf_set_same hg] at hj ⊢
    have hj6 : j < 6 := by
      have : j < ((gOf h g).shades.set i s).length := hj
      rw [List.length_set, s4] at this
      exact this
    obtain ⟨q0, q1, q2, q3⟩ := hh.1 j (by omega)
    rw [Nat.zero_add] at q0 q1 q2 q3
    have e : (withS (gOf h g) ((gOf h g).shades.set i s)).shades.getD j noS = if j = i then s else (gOf h g).shades.getD j noS := getD_set _ _ _ _ _ (by omega)
    rw [e, Nat.zero_add]
    refine ⟨(cell_put (cell_put (cell_put (cell_put q0)))).trans ?_, (cell_put (cell_put (cell_put (cell_put q1)))).trans ?_, (cell_put (cell_put (cell_put (cell_put q2)))).trans ?_, (cell_put (cell_put (cell_put (cell_put q3)))).trans ?_⟩
    · rw [if_neg (by omega), if_neg (by omega), if_neg (by omega)]
      by_cases hji : j = i
      · rw [if_pos (by omega), if_pos hji]
      · rw [if_neg (by omega), if_neg hji]
    · rw [if_neg (by omega), if_neg (by omega)]
      by_cases hji : j = i
      · rw [if_pos (by omega), if_pos hji]
      · rw [if_neg (by omega), if_neg (by omega), if_neg hji]
    · rw [if_neg (by omega)]
      by_cases hji : j = i
      · rw [if_pos (by omega), if_pos hji]
      · rw [if_neg (by omega), if_neg (by omega), if_neg (by omega), if_neg hji]
    · by_cases hji : j = i
      · rw [if_pos (by omega), if_pos hji]
      · rw [if_neg (by omega), if_neg (by omega), if_neg (by omega), if_neg (by omega), if_neg hji]
  · exact (((hh.2.put _).put _).put _).put _

set_option maxRecDepth 100000 in
set_option maxHeartbeats 8000000 in
theorem specForget13 (N : Nat) (A : Pl → Nat) (h : Hst) (g : Nat) (P : Int) (n cf cg : Nat) (z : Int) (w : World) (k : SepH w N A h) (hn : h.guests.length = n) (hg : g < n) (hN : N ≤ w.heap.size) :
    Calls Try.prog 126 #[.agg #[.slice (some ⟨A .fr, 0, none⟩) 8 cf, .slice (some ⟨A .gs, 0, none⟩) n cg, .int .i64 z], .int .i64 g, .int .i64 P] w fun e w' => e = .returned (.agg #[.slice (some ⟨A .fr, 0, none⟩) 8 cf, .slice (some ⟨A .gs, 0, none⟩) n cg, .int .i64 z]) ∧ SepH w' N A (setG h g (withS (gOf h g) (fU (gOf h g).shades P 6))) ∧ Below N w w' ∧ ∀ j, j < w.heap.size → j ≠ A (.shd g) → w'.heap[j]? = w.heap[j]? := by
  obtain ⟨W2, hW2⟩ : ∃ W2, W2 = (w.alloc (.cells #[.slice (some ⟨A .fr, 0, none⟩) 8 cf, .slice (some ⟨A .gs, 0, none⟩) n cg, .int .i64 z] 27)).alloc (.cells #[.slice none 0 0, .slice none 0 0, .int .i64 0] 27) := ⟨_, rfl⟩
  have B2 : Below w.heap.size w W2 := by rw [hW2]; exact ((Below.refl _ _).alloc (Nat.le_refl _) _).alloc (by simp) _
  have s2 : W2.heap.size ≤ w.heap.size + 2 ∧ w.heap.size + 2 ≤ W2.heap.size := by rw [hW2]; simp
  have p2 : Var3 W2 w.heap.size (.slice (some ⟨A .fr, 0, none⟩) 8 cf) (.slice (some ⟨A .gs, 0, none⟩) n cg) (.int .i64 z) := by rw [hW2]; exact (var3_new w _ _ _ _).allocK _
  have r2 : Var3 W2 (w.heap.size + 1) (.slice none 0 0) (.slice none 0 0) (.int .i64 0) := by rw [hW2]; exact var3_newK (by simp)
  have k2 := k.belowK B2
  have hlow := fun x hx => (k.low x hx).2
  go_enter Try.func126, Try.ntmps126
  go_wp2_with (fail)
  rw [← hW2]
  clear hW2
  have hself : setG h g (withS (gOf h g) (fU (gOf h g).shades P 0)) = h := setG_self (by omega)
  have hss := (k.sz g (by omega)).2.2.2
  have HK2 := hidE k2
  have Hp := hidE p2
  have Hr := hidE r2
  have HB2 := hidE (show Below N w W2 ∧ ∀ j, j < w.heap.size → j ≠ A (.shd g) → W2.heap[j]? = w.heap[j]? from ⟨B2.mono hN, fun j hj _ => B2.block j hj⟩)
  clear k2 p2 r2 B2
  go_loopw [7] (fun i wr => ∃ m : Nat, m ≤ 6 ∧ i = .int .i64 m ∧ Hid (SepH wr N A (setG h g (withS (gOf h g) (fU (gOf h g).shades P m)))) ∧ Hid (Var3 wr w.heap.size (.slice (some ⟨A .fr, 0, none⟩) 8 cf) (.slice (some ⟨A .gs, 0, none⟩) n cg) (.int .i64 z)) ∧ Hid (Var3 wr (w.heap.size + 1) (.slice none 0 0) (.slice none 0 0) (.int .i64 0)) ∧ Hid (Below N w wr ∧ ∀ j, j < w.heap.size → j ≠ A (.shd g) → wr.heap[j]? = w.heap[j]?) ∧ Hid (wr.heap.size = W2.heap.size)) (fun i _ => 6 - (intOf i).toNat)
  case atStart => exact ⟨0, Nat.zero_le _, rfl, by rw [hself]; exact HK2.out, Hp.out, Hr.out, HB2.out, rfl⟩
  case round =>
    clear HK2 Hp Hr HB2 hself
    obtain ⟨m, hm, rfl, HK, HP, HR, HB, HS⟩ := hrel
    obtain ⟨p0, p1, p2, f0, f1, f2⟩ := HP.out
    have hsz := HS.out
    have lP : w.heap.size < wr.heap.size := by omega
    have hK := HK.out
    have hgl : (setG h g (withS (gOf h g) (fU (gOf h g).shades P m))).guests.length = n := by rw [setG_len]; exact hn
    have lG : A .gs < wr.heap.size := (hK.low .gs trivial).2
    have lS : A (.shd g) < wr.heap.size := (hK.low (.shd g) (by rw [hgl]; exact hg)).2
    have hlS : A (.shd g) < w.heap.size := (k.low (.shd g) (by rw [hn]; exact hg)).2
    by_cases hml : m < 6
    · have hmi : (m : Int) < 6 := by omega
      have hgi : (g : Int) < (n : Int) := by omega
      obtain ⟨_, _, cs, q⟩ := (hK.held .gs trivial).1 g (by rw [hgl]; exact hg)
      obtain ⟨hQ, hR⟩ := hK.held (.shd g) (by rw [hgl]; exact hg)
      rw [gOf_set_same (by omega)] at hQ
      obtain ⟨v0, v1, v2, v3⟩ := hQ m (by show m < (fU (gOf h g).shades P m).length; rw [fU_len, hss]; exact hml)
      rw [show (withS (gOf h g) (fU (gOf h g).shades P m)).shades = fU (gOf h g).shades P m from rfl] at v0 v1 v2 v3
      have hput := hK.shade (g := g) (by rw [hgl]; exact hg) hml noS
      rw [setG_setG, gOf_set_same (by omega), show (withS (gOf h g) (fU (gOf h g).shades P m)).shades = fU (gOf h g).shades P m from rfl, show ∀ x a b, withS (withS x a) b = withS x b from fun _ _ _ => rfl] at hput
      have hst : fU (gOf h g).shades P (m + 1) = bif hitS P ((fU (gOf h g).shades P m).getD m noS) then (fU (gOf h g).shades P m).set m noS else fU (gOf h g).shades P m := rfl
      obtain ⟨_, r0⟩ := hR (m * 4) (by omega)
      obtain ⟨_, r1⟩ := hR (m * 4 + 1) (by omega)
      obtain ⟨_, r2⟩ := hR (m * 4 + 2) (by omega)
      obtain ⟨_, r3⟩ := hR (m * 4 + 3) (by omega)
      rw [Nat.zero_add] at v0 v1 v2 v3
      have Hput := hidE hput
      have Hst := hidE hst
      have Hne := hidE (show A (.shd g) ≠ w.heap.size ∧ A (.shd g) ≠ w.heap.size + 1 ∧ N ≤ A (.shd g) from ⟨by omega, by omega, (k.low (.shd g) (by rw [hn]; exact hg)).1⟩)
      clear hput hst hQ hR hK
      generalize (fU (gOf h g).shades P m).getD m noS = s4 at *
      obtain ⟨sh, sp, sf, sw⟩ := s4
      simp only at v0 v1 v2 v3
      cases sh
      · go_wp2
        go_roundw
        case rel =>
          refine ⟨m + 1, by omega, by go_num, ?_, HP.out, HR.out, HB.out, HS.out⟩
          rw [Hst.out]
          exact HK.out
        case measure => simp [intOf]; omega
      · by_cases hsp : sp = P
        · subst hsp
          go_wp2
          go_roundw
          case rel =>
            obtain ⟨ne1, ne2, ne3⟩ := Hne.out
            refine ⟨m + 1, by omega, by go_num, ?_, ?_, ?_, ?_, ?_⟩
            · rw [Hst.out, show hitS sp (true, sp, sf, sw) = true by simp [hitS]]
              exact Hput.out
            · exact HP.out.same (by rw [Below.heap_setCell _ _ _ _ (by simp; omega), Below.heap_setCell _ _ _ _ (by simp; omega), Below.heap_setCell _ _ _ _ (by simp; omega), Below.heap_setCell _ _ _ _ (by simp; omega)])
            · exact HR.out.same (by rw [Below.heap_setCell _ _ _ _ (by simp; omega), Below.heap_setCell _ _ _ _ (by simp; omega), Below.heap_setCell _ _ _ _ (by simp; omega), Below.heap_setCell _ _ _ _ (by simp; omega)])
            · refine ⟨?_, fun j hj hjs => by rw [Below.heap_setCell _ _ _ _ (by simpa using hjs), Below.heap_setCell _ _ _ _ (by simpa using hjs), Below.heap_setCell _ _ _ _ (by simpa using hjs), Below.heap_setCell _ _ _ _ (by simpa using hjs)]; exact HB.out.2 j hj hjs⟩
              exact (((HB.out.1.setCell (p := ⟨A (.shd g), m * 4, none⟩) ne3 _).setCell (p := ⟨A (.shd g), m * 4 + 1, none⟩) ne3 _).setCell (p := ⟨A (.shd g), m * 4 + 2, none⟩) ne3 _).setCell (p := ⟨A (.shd g), m * 4 + 3, none⟩) ne3 _
            · show _ = _
              simp only [World.size_setCell]
              exact HS.out
          case measure => simp [intOf]; omega
        · have hno : (sp == P) = false := by simpa using hsp
          go_wp2
          go_roundw
          case rel =>
            refine ⟨m + 1, by omega, by go_num, ?_, HP.out, HR.out, HB.out, HS.out⟩
            rw [Hst.out, show hitS P (true, sp, sf, sw) = false by simp [hitS, hsp]]
            exact HK.out
          case measure => simp [intOf]; omega
    · obtain rfl : m = 6 := by omega
      obtain ⟨y0, y1, y2, e0, e1, e2⟩ := HR.out
      have lR : w.heap.size + 1 < wr.heap.size := by omega
      clear hK
      go_wp2
      refine bodyPost_ret (v := .agg #[.slice (some ⟨A .fr, 0, none⟩) 8 cf, .slice (some ⟨A .gs, 0, none⟩) n cg, .int .i64 z]) (by simp [results, Try.results126, go_sem, *]) rfl ?_
      have hoff : ∀ x, x.ok (setG h g (withS (gOf h g) (fU (gOf h g).shades P 6))).guests.length → A x ≠ w.heap.size + 1 := fun x hx => by
        rw [setG_len] at hx
        have := (k.low x hx).2
        omega
      refine ⟨rfl, ((HK.out.off hoff _).off hoff _).off hoff _, ?_, fun j hj hjs => by rw [Below.heap_setCell _ _ _ _ (by simp; omega), Below.heap_setCell _ _ _ _ (by simp; omega), Below.heap_setCell _ _ _ _ (by simp; omega)]; exact HB.out.2 j hj hjs⟩
      exact ((HB.out.1.setCell (p := ⟨w.heap.size + 1, 0, none⟩) (show N ≤ w.heap.size + 1 by omega) _).setCell (p := ⟨w.heap.size + 1, 1, none⟩) (show N ≤ w.heap.size + 1 by omega) _).setCell (p := ⟨w.heap.size + 1, 2, none⟩) (show N ≤ w.heap.size + 1 by omega) _
end Go.Proofs.Ytcaknccodndmiaa
