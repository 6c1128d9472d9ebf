/-
  What the given l13Forget does.
-/
import Derived.Test.YtjegndgdpmlbaaaKOS
import Derived.Test.YtjegndgdpmlbaaaKOSpecForget0
import Derived.Deep.RegionHeld3
set_option linter.unusedSimpArgs false
namespace Go.Proofs.Ytjegndgdpmlbaaa
open Go.RowKit
attribute [local go_sem ↓] Go.wp_at_zero Go.wp_at_succ exec_app
attribute [local go_sem] bigNext_ok

def hitS (p : Int) (s : S4) : Bool := s.1 && (s.2.1 == p)
/-- Shades, the first k of which have been forgotten where they lead to a page. -/
def fU (ss : List S4) (p : Int) : Nat → List S4
  | 0 => ss
  | k + 1 => bif hitS p ((fU ss p k).getD k noS) then (fU ss p k).set k noS else fU ss p k
theorem fU_len (ss : List S4) (p : Int) : ∀ k, (fU ss p k).length = ss.length
  | 0 => rfl
  | k + 1 => by
    rw [fU]
    cases hitS p ((fU ss p k).getD k noS)
    · exact fU_len ss p k
    · rw [cond_true, List.length_set]; exact fU_len ss p k
def withS (x : Gst) (ss : List S4) : Gst := ⟨x.maps, x.disk, ss⟩
theorem setG_self {h : Hst} {g : Nat} (hg : g < h.guests.length) : setG h g (gOf h g) = h := by
  cases h with
  | mk f gs z =>
    have : gs.set g (gs.getD g noG) = gs := by
      apply List.ext_getElem?
      intro i
      by_cases hi : i = g
      · subst hi
        rw [List.getElem?_set_self hg, getD_lt hg]
        simp [hg]
      · rw [List.getElem?_set_ne (by omega)]
    show Hst.mk f (gs.set g (gs.getD g noG)) z = _
    rw [this]
theorem setG_setG (h : Hst) (g : Nat) (x y : Gst) : setG (setG h g x) g y = setG h g y := by
  simp [setG, List.set_set]

/-- One shade of a guest written. -/
theorem SepH.shade {w : World} {N : Nat} {A : Pl → Nat} {h : Hst} (k : SepH w N A h) {g : Nat} (hg : g < h.guests.length) {i : Nat} (hi : i < 6) (s : S4) :
    SepH ((((w.setCell ⟨A (.shd g), i * 4, none⟩ (.bool s.1)).setCell ⟨A (.shd g), i * 4 + 1, none⟩ (.int .i64 s.2.1)).setCell ⟨A (.shd g), i * 4 + 2, none⟩ (.int .i64 s.2.2.1)).setCell ⟨A (.shd g), i * 4 + 3, none⟩ (.bool s.2.2.2)) N A (setG h g (withS (gOf h g) ((gOf h g).shades.set i s))) := by
  obtain ⟨s1, s2, s3, s4⟩ := k.sz g hg
  have hh := k.held (.shd g) hg
  refine k.put (.shd g) hg (setG_len _ _ _) k.f8 k.f4 (fun j hj => ?_) (by simp) (fun j hj => ?_) (fun x hx hne hx2 => ?_) ⟨fun j hj => ?_, ?_⟩
  · by_cases e : j = g
    · subst e
      rw [gOf_set_same hg]
      exact ⟨s1, s2, s3, by show ((gOf h j).shades.set i s).length = 6; rw [List.length_set]; exact s4⟩
    · rw [gOf_set_ne e]; exact k.sz j hj
  · rw [Below.heap_setCell _ _ _ _ (by simpa using hj), Below.heap_setCell _ _ _ _ (by simpa using hj), Below.heap_setCell _ _ _ _ (by simpa using hj), Below.heap_setCell _ _ _ _ (by simpa using hj)]
  · exact held_setG hg x hx2 (fun _ => rfl) (fun e => (hne e).elim) (fun p _ => rfl)
  · rw [gOf_set_same hg] at hj ⊢
    have hj6 : j < 6 := by
      have : j < ((gOf h g).shades.set i s).length := hj
      rw [List.length_set, s4] at this
      exact this
    obtain ⟨q0, q1, q2, q3⟩ := hh.1 j (by omega)
    rw [Nat.zero_add] at q0 q1 q2 q3
    have e : (withS (gOf h g) ((gOf h g).shades.set i s)).shades.getD j noS = if j = i then s else (gOf h g).shades.getD j noS := getD_set _ _ _ _ _ (by omega)
    rw [e, Nat.zero_add]
    refine ⟨(cell_put (cell_put (cell_put (cell_put q0)))).trans ?_, (cell_put (cell_put (cell_put (cell_put q1)))).trans ?_, (cell_put (cell_put (cell_put (cell_put q2)))).trans ?_, (cell_put (cell_put (cell_put (cell_put q3)))).trans ?_⟩
    · rw [if_neg (by omega), if_neg (by omega), if_neg (by omega)]
      by_cases hji : j = i
      · rw [if_pos (by omega), if_pos hji]
      · rw [if_neg (by omega), if_neg hji]
    · rw [if_neg (by omega), if_neg (by omega)]
      by_cases hji : j = i
      · rw [if_pos (by omega), if_pos hji]
      · rw [if_neg (by omega), if_neg (by omega), if_neg hji]
    · rw [if_neg (by omega)]
      by_cases hji : j = i
      · rw [if_pos (by omega), if_pos hji]
      · rw [if_neg (by omega), if_neg (by omega), if_neg (by omega), if_neg hji]
    · by_cases hji : j = i
      · rw [if_pos (by omega), if_pos hji]
      · rw [if_neg (by omega), if_neg (by omega), if_neg (by omega), if_neg (by omega), if_neg hji]
  · exact (((hh.2.put _).put _).put _).put _

set_option maxRecDepth 100000 in
set_option maxHeartbeats 8000000 in
theorem specForget13 (N : Nat) (A : Pl → Nat) (h : Hst) (g : Nat) (P : Int) (n cf cg : Nat) (z : Int) (w : World) (k : SepH w N A h) (hn : h.guests.length = n) (hg : g < n) (hN : N ≤ w.heap.size) :
    Calls Try.prog 94 #[.agg #[.slice (some ⟨A .fr, 0, none⟩) 8 cf, .slice (some ⟨A .gs, 0, none⟩) n cg, .int .i64 z], .int .i64 g, .int .i64 P] w fun e w' => e = .returned (.agg #[.slice (some ⟨A .fr, 0, none⟩) 8 cf, .slice (some ⟨A .gs, 0, none⟩) n cg, .int .i64 z]) ∧ SepH w' N A (setG h g (withS (gOf h g) (fU (gOf h g).shades P 6))) ∧ Below N w w' ∧ ∀ j, j < w.heap.size → j ≠ A (.shd g) → w'.heap[j]? = w.heap[j]? := by
  obtain ⟨W2, hW2⟩ : ∃ W2, W2 = (w.alloc (.cells #[.slice (some ⟨A .fr, 0, none⟩) 8 cf, .slice (some ⟨A .gs, 0, none⟩) n cg, .int .i64 z] 26)).alloc (.cells #[.slice none 0 0, .slice none 0 0, .int .i64 0] 26) := ⟨_, rfl⟩
  have B2 : Below w.heap.size w W2 := by rw [hW2]; exact ((Below.refl _ _).alloc (Nat.le_refl _) _).alloc (by simp) _
  have s2 : W2.heap.size ≤ w.heap.size + 2 ∧ w.heap.size + 2 ≤ W2.heap.size := by rw [hW2]; simp
  have p2 : Var3 W2 w.heap.size (.slice (some ⟨A .fr, 0, none⟩) 8 cf) (.slice (some ⟨A .gs, 0, none⟩) n cg) (.int .i64 z) := by rw [hW2]; exact (var3_new w _ _ _ _).allocK _
  have r2 : Var3 W2 (w.heap.size + 1) (.slice none 0 0) (.slice none 0 0) (.int .i64 0) := by rw [hW2]; exact var3_newK (by simp)
  have k2 := k.belowK B2
  have hlow := fun x hx => (k.low x hx).2
  go_enter Try.func94, Try.ntmps94
  go_wp2_with (fail)
  rw [← hW2]
  clear hW2
  have hself : setG h g (withS (gOf h g) (fU (gOf h g).shades P 0)) = h := setG_self (by omega)
  have hss := (k.sz g (by omega)).2.2.2
  have HK2 := hidE k2
  have Hp := hidE p2
  have Hr := hidE r2
  have HB2 := hidE (show Below N w W2 ∧ ∀ j, j < w.heap.size → j ≠ A (.shd g) → W2.heap[j]? = w.heap[j]? from ⟨B2.mono hN, fun j hj _ => B2.block j hj⟩)
  clear k2 p2 r2 B2
  go_loopw [7] (fun i wr => ∃ m : Nat, m ≤ 6 ∧ i = .int .i64 m ∧ Hid (SepH wr N A (setG h g (withS (gOf h g) (fU (gOf h g).shades P m)))) ∧ Hid (Var3 wr w.heap.size (.slice (some ⟨A .fr, 0, none⟩) 8 cf) (.slice (some ⟨A .gs, 0, none⟩) n cg) (.int .i64 z)) ∧ Hid (Var3 wr (w.heap.size + 1) (.slice none 0 0) (.slice none 0 0) (.int .i64 0)) ∧ Hid (Below N w wr ∧ ∀ j, j < w.heap.size → j ≠ A (.shd g) → wr.heap[j]? = w.heap[j]?) ∧ Hid (wr.heap.size = W2.heap.size)) (fun i _ => 6 - (intOf i).toNat)
  case atStart => exact ⟨0, Nat.zero_le _, rfl, by rw [hself]; exact HK2.out, Hp.out, Hr.out, HB2.out, rfl⟩
  case round =>
    clear HK2 Hp Hr HB2 hself
    obtain ⟨m, hm, rfl, HK, HP, HR, HB, HS⟩ := hrel
    obtain ⟨p0, p1, p2, f0, f1, f2⟩ := HP.out
    have hsz := HS.out
    have lP : w.heap.size < wr.heap.size := by omega
    have hK := HK.out
    have hgl : (setG h g (withS (gOf h g) (fU (gOf h g).shades P m))).guests.length = n := by rw [setG_len]; exact hn
    have lG : A .gs < wr.heap.size := (hK.low .gs trivial).2
    have lS : A (.shd g) < wr.heap.size := (hK.low (.shd g) (by rw [hgl]; exact hg)).2
    have hlS : A (.shd g) < w.heap.size := (k.low (.shd g) (by rw [hn]; exact hg)).2
    by_cases hml : m < 6
    · have hmi : (m : Int) < 6 := by omega
      have hgi : (g : Int) < (n : Int) := by omega
      obtain ⟨_, _, cs, q⟩ := (hK.held .gs trivial).1 g (by rw [hgl]; exact hg)
      obtain ⟨hQ, hR⟩ := hK.held (.shd g) (by rw [hgl]; exact hg)
      rw [gOf_set_same (by omega)] at hQ
      obtain ⟨v0, v1, v2, v3⟩ := hQ m (by show m < (fU (gOf h g).shades P m).length; rw [fU_len, hss]; exact hml)
      rw [show (withS (gOf h g) (fU (gOf h g).shades P m)).shades = fU (gOf h g).shades P m from rfl] at v0 v1 v2 v3
      have hput := hK.shade (g := g) (by rw [hgl]; exact hg) hml noS
      rw [setG_setG, gOf_set_same (by omega), show (withS (gOf h g) (fU (gOf h g).shades P m)).shades = fU (gOf h g).shades P m from rfl, show ∀ x a b, withS (withS x a) b = withS x b from fun _ _ _ => rfl] at hput
      have hst : fU (gOf h g).shades P (m + 1) = bif hitS P ((fU (gOf h g).shades P m).getD m noS) then (fU (gOf h g).shades P m).set m noS else fU (gOf h g).shades P m := rfl
      obtain ⟨_, r0⟩ := hR (m * 4) (by omega)
      obtain ⟨_, r1⟩ := hR (m * 4 + 1) (by omega)
      obtain ⟨_, r2⟩ := hR (m * 4 + 2) (by omega)
      obtain ⟨_, r3⟩ := hR (m * 4 + 3) (by omega)
      rw [Nat.zero_add] at v0 v1 v2 v3
      have Hput := hidE hput
      have Hst := hidE hst
      have Hne := hidE (show A (.shd g) ≠ w.heap.size ∧ A (.shd g) ≠ w.heap.size + 1 ∧ N ≤ A (.shd g) from ⟨by omega, by omega, (k.low (.shd g) (by rw [hn]; exact hg)).1⟩)
      clear hput hst hQ hR hK
      generalize (fU (gOf h g).shades P m).getD m noS = s4 at *
      obtain ⟨sh, sp, sf, sw⟩ := s4
      simp only at v0 v1 v2 v3
      cases sh
      · go_wp2
        go_roundw
        case rel =>
          refine ⟨m + 1, by omega, by go_num, ?_, HP.out, HR.out, HB.out, HS.out⟩
          rw [Hst.out]
          exact HK.out
        case measure => simp [intOf]; omega
      · by_cases hsp : sp = P
        · subst hsp
          go_wp2
          go_roundw
          case rel =>
            obtain ⟨ne1, ne2, ne3⟩ := Hne.out
            refine ⟨m + 1, by omega, by go_num, ?_, ?_, ?_, ?_, ?_⟩
            · rw [Hst.out, show hitS sp (true, sp, sf, sw) = true by simp [hitS]]
              exact Hput.out
            · exact HP.out.same (by rw [Below.heap_setCell _ _ _ _ (by simp; omega), Below.heap_setCell _ _ _ _ (by simp; omega), Below.heap_setCell _ _ _ _ (by simp; omega), Below.heap_setCell _ _ _ _ (by simp; omega)])
            · exact HR.out.same (by rw [Below.heap_setCell _ _ _ _ (by simp; omega), Below.heap_setCell _ _ _ _ (by simp; omega), Below.heap_setCell _ _ _ _ (by simp; omega), Below.heap_setCell _ _ _ _ (by simp; omega)])
            · refine ⟨?_, fun j hj hjs => by rw [Below.heap_setCell _ _ _ _ (by simpa using hjs), Below.heap_setCell _ _ _ _ (by simpa using hjs), Below.heap_setCell _ _ _ _ (by simpa using hjs), Below.heap_setCell _ _ _ _ (by simpa using hjs)]; exact HB.out.2 j hj hjs⟩
              exact (((HB.out.1.setCell (p := ⟨A (.shd g), m * 4, none⟩) ne3 _).setCell (p := ⟨A (.shd g), m * 4 + 1, none⟩) ne3 _).setCell (p := ⟨A (.shd g), m * 4 + 2, none⟩) ne3 _).setCell (p := ⟨A (.shd g), m * 4 + 3, none⟩) ne3 _
            · show _ = _
              simp only [World.size_setCell]
              exact HS.out
          case measure => simp [intOf]; omega
        · have hno : (sp == P) = false := by simpa using hsp
          go_wp2
          go_roundw
          case rel =>
            refine ⟨m + 1, by omega, by go_num, ?_, HP.out, HR.out, HB.out, HS.out⟩
            rw [Hst.out, show hitS P (true, sp, sf, sw) = false by simp [hitS, hsp]]
            exact HK.out
          case measure => simp [intOf]; omega
    · obtain rfl : m = 6 := by omega
      obtain ⟨y0, y1, y2, e0, e1, e2⟩ := HR.out
      have lR : w.heap.size + 1 < wr.heap.size := by omega
      clear hK
      go_wp2
      refine bodyPost_ret (v := .agg #[.slice (some ⟨A .fr, 0, none⟩) 8 cf, .slice (some ⟨A .gs, 0, none⟩) n cg, .int .i64 z]) (by simp [results, Try.results94, go_sem, *]) rfl ?_
      have hoff : ∀ x, x.ok (setG h g (withS (gOf h g) (fU (gOf h g).shades P 6))).guests.length → A x ≠ w.heap.size + 1 := fun x hx => by
        rw [setG_len] at hx
        have := (k.low x hx).2
        omega
      refine ⟨rfl, ((HK.out.off hoff _).off hoff _).off hoff _, ?_, fun j hj hjs => by rw [Below.heap_setCell _ _ _ _ (by simp; omega), Below.heap_setCell _ _ _ _ (by simp; omega), Below.heap_setCell _ _ _ _ (by simp; omega)]; exact HB.out.2 j hj hjs⟩
      exact ((HB.out.1.setCell (p := ⟨w.heap.size + 1, 0, none⟩) (show N ≤ w.heap.size + 1 by omega) _).setCell (p := ⟨w.heap.size + 1, 1, none⟩) (show N ≤ w.heap.size + 1 by omega) _).setCell (p := ⟨w.heap.size + 1, 2, none⟩) (show N ≤ w.heap.size + 1 by omega) _
end Go.Proofs.Ytjegndgdpmlbaaa

/-
  What the given l13Out and PageOut do.
-/
set_option linter.unusedSimpArgs false
namespace Go.Proofs.Ytjegndgdpmlbaaa
open Go.RowKit
attribute [local go_sem ↓] Go.wp_at_zero Go.wp_at_succ exec_app
attribute [local go_sem] bigNext_ok

def withMs (x : Gst) (ms : List E3) : Gst := ⟨ms, x.disk, x.shades⟩
def withDs (x : Gst) (ds : List (List Int)) : Gst := ⟨x.maps, ds, x.shades⟩
/-- One map of a guest written. -/
theorem SepH.map {w : World} {N : Nat} {A : Pl → Nat} {h : Hst} (k : SepH w N A h) {g : Nat} (hg : g < h.guests.length) {i : Nat} (hi : i < 6) (s : E3) :
    SepH (((w.setCell ⟨A (.maps g), i * 3, none⟩ (.bool s.1)).setCell ⟨A (.maps g), i * 3 + 1, none⟩ (.int .i64 s.2.1)).setCell ⟨A (.maps g), i * 3 + 2, none⟩ (.bool s.2.2)) N A (setG h g (withMs (gOf h g) ((gOf h g).maps.set i s))) := by
  obtain ⟨s1, s2, s3, s4⟩ := k.sz g hg
  have hh := k.held (.maps g) hg
  refine k.put (.maps g) hg (setG_len _ _ _) k.f8 k.f4 (fun j hj => ?_) (by simp) (fun j hj => ?_) (fun x hx hne hx2 => ?_) ⟨fun j hj => ?_, ?_⟩
  · by_cases e : j = g
    · subst e
      rw [gOf_set_same hg]
      exact ⟨by show ((gOf h j).maps.set i s).length = 6; rw [List.length_set]; exact s1, s2, s3, s4⟩
    · rw [gOf_set_ne e]; exact k.sz j hj
  · rw [Below.heap_setCell _ _ _ _ (by simpa using hj), Below.heap_setCell _ _ _ _ (by simpa using hj), Below.heap_setCell _ _ _ _ (by simpa using hj)]
  · exact held_setG hg x hx2 (fun e => (hne e).elim) (fun _ => rfl) (fun p _ => rfl)
  · rw [gOf_set_same hg] at hj ⊢
    have hj6 : j < 6 := by
      have : j < ((gOf h g).maps.set i s).length := hj
      rw [List.length_set, s1] at this
      exact this
    obtain ⟨q0, q1, q2⟩ := hh.1 j (by omega)
    rw [Nat.zero_add] at q0 q1 q2
    have e : (withMs (gOf h g) ((gOf h g).maps.set i s)).maps.getD j noM = if j = i then s else (gOf h g).maps.getD j noM := getD_set _ _ _ _ _ (by omega)
    rw [show ((false, 0, false) : E3) = noM from rfl, e, Nat.zero_add]
    refine ⟨(cell_put (cell_put (cell_put q0))).trans ?_, (cell_put (cell_put (cell_put q1))).trans ?_, (cell_put (cell_put (cell_put q2))).trans ?_⟩
    · rw [if_neg (by omega), if_neg (by omega)]
      by_cases hji : j = i
      · rw [if_pos (by omega), if_pos hji]
      · rw [if_neg (by omega), if_neg hji]; rfl
    · rw [if_neg (by omega)]
      by_cases hji : j = i
      · rw [if_pos (by omega), if_pos hji]
      · rw [if_neg (by omega), if_neg (by omega), if_neg hji]; rfl
    · by_cases hji : j = i
      · rw [if_pos (by omega), if_pos hji]
      · rw [if_neg (by omega), if_neg (by omega), if_neg (by omega), if_neg hji]; rfl
  · exact ((hh.2.put _).put _).put _

/-- Places, one of them elsewhere. -/
def upd (A : Pl → Nat) (x0 : Pl) (b : Nat) : Pl → Nat := fun x => @ite Nat (x = x0) (plEq x x0) b (A x)
theorem upd_same (A : Pl → Nat) (x0 : Pl) (b : Nat) : upd A x0 b x0 = b := if_pos rfl
theorem upd_ne (A : Pl → Nat) {x0 x : Pl} (b : Nat) (h : x ≠ x0) : upd A x0 b x = A x := if_neg h
/-- A page on disk is another one, in a block of its own. -/
theorem SepH.disk {w : World} {N : Nat} {A : Pl → Nat} {h : Hst} (k : SepH w N A h) {g : Nat} (hg : g < h.guests.length) {p : Nat} (hp : p < 6) {b c : Nat} {zs : List Int} (hz : zs.length = 4) (hb : N ≤ b ∧ b < w.heap.size) (hfree : ∀ x, x.ok h.guests.length → A x ≠ b) (hI : Ints w b 0 zs) (hR : Room w b 4) :
    SepH (w.setCell ⟨A (.row g), p, none⟩ (.slice (some ⟨b, 0, none⟩) 4 c)) N (upd A (.dsk g p) b) (setG h g (withDs (gOf h g) ((gOf h g).disk.set p zs))) := by
  obtain ⟨s1, s2, s3, s4⟩ := k.sz g hg
  have hr := k.held (.row g) hg
  have hbr : A (.row g) ≠ b := hfree (.row g) hg
  have far : ∀ j, j ≠ A (.row g) → (w.setCell ⟨A (.row g), p, none⟩ (.slice (some ⟨b, 0, none⟩) 4 c)).heap[j]? = w.heap[j]? := fun j hj => Below.heap_setCell _ _ _ _ (by simpa using hj)
  have hlen := setG_len h g (withDs (gOf h g) ((gOf h g).disk.set p zs))
  refine ⟨by rw [hlen]; exact k.n2, k.f8, k.f4, fun j hj => ?_, fun x y hx hy e => ?_, fun x hx => ?_, fun x hx => ?_⟩
  · rw [hlen] at hj
    by_cases e : j = g
    · subst e
      rw [gOf_set_same hg]
      refine ⟨s1, by show ((gOf h j).disk.set p zs).length = 6; rw [List.length_set]; exact s2, fun i hi => ?_, s4⟩
      show (((gOf h j).disk.set p zs).getD i []).length = 4
      rw [getD_set _ _ _ _ _ (by omega)]
      by_cases hip : i = p
      · rw [if_pos hip]; exact hz
      · rw [if_neg hip]; exact s3 i hi
    · rw [gOf_set_ne e]; exact k.sz j hj
  · rw [hlen] at hx hy
    by_cases ex : x = .dsk g p
    · by_cases ey : y = .dsk g p
      · rw [ex, ey]
      · rw [ex, upd_same, upd_ne _ _ ey] at e
        exact (hfree y hy e.symm).elim
    · by_cases ey : y = .dsk g p
      · rw [ey, upd_same, upd_ne _ _ ex] at e
        exact (hfree x hx e).elim
      · rw [upd_ne _ _ ex, upd_ne _ _ ey] at e
        exact k.inj x y hx hy e
  · rw [hlen] at hx
    rw [World.size_setCell]
    by_cases ex : x = .dsk g p
    · rw [ex, upd_same]; exact hb
    · rw [upd_ne _ _ ex]; exact k.low x hx
  · rw [hlen] at hx
    by_cases ex : x = .dsk g p
    · subst ex
      show Ints _ (upd A (.dsk g p) b (.dsk g p)) 0 ((gOf (setG h g (withDs (gOf h g) ((gOf h g).disk.set p zs))) g).disk.getD p []) ∧ Room _ (upd A (.dsk g p) b (.dsk g p)) 4
      rw [upd_same, gOf_set_same hg, show (withDs (gOf h g) ((gOf h g).disk.set p zs)).disk.getD p [] = zs from getD_set_same _ _ _ _ (by omega)]
      have s := same_block (far b (Ne.symm hbr))
      exact ⟨hI.same s (Nat.le_refl _) (Nat.lt_succ_self _), hR.same s (Nat.le_refl _) (Nat.lt_succ_self _)⟩
    · by_cases er : x = .row g
      · subst er
        intro i hi
        rw [upd_ne _ _ (by intro e; cases e)]
        obtain ⟨⟨c', q⟩, f⟩ := hr i hi
        refine ⟨?_, by rw [frozen_put]; exact f⟩
        have q' := cell_put (j := p) (u := .slice (some ⟨b, 0, none⟩) 4 c) q
        by_cases hip : i = p
        · subst hip
          rw [if_pos rfl] at q'
          rw [upd_same]
          exact ⟨c, q'⟩
        · rw [if_neg hip] at q'
          rw [upd_ne _ _ (fun e => hip (by cases e; rfl))]
          exact ⟨c', q'⟩
      · have h0 := (held_setG (g' := withDs (gOf h g) ((gOf h g).disk.set p zs)) hg x (k.held x hx) (fun _ => rfl) (fun _ => rfl) (fun p' e => by
          subst e
          have : p' ≠ p := fun e => ex (by rw [e])
          exact getD_set_ne _ _ _ this)).same (far (A x) (fun e => er (k.inj x (.row g) hx hg e)))
        cases x using Pl.seven with
        | fr => exact fun i hi => by rw [upd_ne _ _ (by intro e; cases e), upd_ne _ _ (by intro e; cases e)]; exact h0 i hi
        | gs => exact ⟨fun i hi => by rw [upd_ne _ _ (by intro e; cases e), upd_ne _ _ (by intro e; cases e), upd_ne _ _ (by intro e; cases e), upd_ne _ _ (by intro e; cases e)]; exact h0.1 i hi, by rw [upd_ne _ _ (by intro e; cases e), upd_ne _ _ (by intro e; cases e)]; exact h0.2⟩
        | page i => show Ints _ (upd A _ b (.page i)) 0 _ ∧ Room _ (upd A _ b (.page i)) 4; rw [upd_ne _ _ (by intro e; cases e)]; exact h0
        | maps i => show Ents _ (upd A _ b (.maps i)) 0 _ ∧ Room _ (upd A _ b (.maps i)) 18; rw [upd_ne _ _ (by intro e; cases e)]; exact h0
        | row i =>
          intro j hj
          have hig : i ≠ g := fun e => er (by rw [e])
          rw [upd_ne _ _ (by intro e; cases e), upd_ne _ _ (fun e => hig (by cases e; rfl))]
          exact h0 j hj
        | shd i => show Quads _ (upd A _ b (.shd i)) 0 _ ∧ Room _ (upd A _ b (.shd i)) 24; rw [upd_ne _ _ (by intro e; cases e)]; exact h0
        | dsk i j => show Ints _ (upd A _ b (.dsk i j)) 0 _ ∧ Room _ (upd A _ b (.dsk i j)) 4; rw [upd_ne _ _ ex]; exact h0
theorem SepH.drewS {w : World} {N : Nat} {A : Pl → Nat} {h : Hst} (k : SepH w N A h) : SepH w.drew N A h := k.belowK ((Below.refl _ _).drew)
theorem HostIn.parts8 {w : World} {lo hi : Nat} {af ag : Option Addr} {cf n cg : Nat} {h : Hst} (k : HostIn w lo hi (.slice af 8 cf) (.slice ag n cg) h) : IsMem w lo hi af 8 h.frames ∧ IsGuests w lo hi ag n h.guests := k.parts
theorem own_intsS {w : World} {lo g c : Nat} {zs : List Int} (h : w.ownsRow lo 3 1 (.slice (some ⟨g, 0, none⟩) 4 c) 4 (zv zs)) : Ints w g 0 zs := fun i hi => by
  have := h.cells (g := g) rfl i (.int .i64 (zs.getD i 0)) (by simp [zv, List.getD_eq_getElem?_getD, hi])
  rw [ad0] at this
  rw [Nat.zero_add]
  exact this
end Go.Proofs.Ytjegndgdpmlbaaa

/-
  What the given l13Out does.
-/
set_option linter.unusedSimpArgs false
namespace Go.Proofs.Ytjegndgdpmlbaaa
open Go.RowKit
attribute [local go_sem ↓] Go.wp_at_zero Go.wp_at_succ exec_app
attribute [local go_sem] bigNext_ok

/-- A page taken out. -/
def outG1 (fs : List (List Int)) (x : Gst) (p : Nat) : Gst := ⟨x.maps.set p noM, x.disk.set p (pageM fs x p), fU x.shades (p : Int) 6⟩
def outP (h : Hst) (g p : Nat) : Hst := bif ((gOf h g).maps.getD p noM).1 then setG h g (outG1 h.frames (gOf h g) p) else h
theorem outP_len (h : Hst) (g p : Nat) : (outP h g p).guests.length = h.guests.length := by
  rw [outP]
  cases ((gOf h g).maps.getD p noM).1
  · rfl
  · exact setG_len _ _ _
theorem outP_hand (h : Hst) (g p : Nat) : (outP h g p).hand = h.hand := by
  rw [outP]
  cases ((gOf h g).maps.getD p noM).1 <;> rfl

set_option maxRecDepth 100000 in
set_option maxHeartbeats 8000000 in
theorem specOut13 (N : Nat) (A : Pl → Nat) (h : Hst) (g p : Nat) (n cf cg : Nat) (w : World) (k : SepH w N A h) (ho : okHost h = true) (hn : h.guests.length = n) (hg : g < n) (hp : p < 6) (hN : N ≤ w.heap.size) :
    Calls Try.prog 69 #[.agg #[.slice (some ⟨A .fr, 0, none⟩) 8 cf, .slice (some ⟨A .gs, 0, none⟩) n cg, .int .i64 h.hand], .int .i64 g, .int .i64 p] w fun e w' => e = .returned (.agg #[.slice (some ⟨A .fr, 0, none⟩) 8 cf, .slice (some ⟨A .gs, 0, none⟩) n cg, .int .i64 h.hand]) ∧ (∃ A', A' .fr = A .fr ∧ (A' .gs = A .gs ∧ A' (.maps 9) = A (.maps 9)) ∧ (∀ x, x.ok n → A' x = A x ∨ w.heap.size ≤ A' x) ∧ SepH w' N A' (outP h g p)) ∧ Below N w w' ∧ ∀ j, j < w.heap.size → (∀ x, x.ok n → A x ≠ j) → w'.heap[j]? = w.heap[j]? := by
  obtain ⟨W2, hW2⟩ : ∃ W2, W2 = (w.alloc (.cells #[.slice (some ⟨A .fr, 0, none⟩) 8 cf, .slice (some ⟨A .gs, 0, none⟩) n cg, .int .i64 h.hand] 26)).alloc (.cells #[.slice none 0 0, .slice none 0 0, .int .i64 0] 26) := ⟨_, rfl⟩
  have B2 : Below w.heap.size w W2 := by rw [hW2]; exact ((Below.refl _ _).alloc (Nat.le_refl _) _).alloc (by simp) _
  have s2 : W2.heap.size ≤ w.heap.size + 2 ∧ w.heap.size + 2 ≤ W2.heap.size := by rw [hW2]; simp
  have p2 : Var3 W2 w.heap.size (.slice (some ⟨A .fr, 0, none⟩) 8 cf) (.slice (some ⟨A .gs, 0, none⟩) n cg) (.int .i64 h.hand) := by rw [hW2]; exact (var3_new w _ _ _ _).allocK _
  have r2 : Var3 W2 (w.heap.size + 1) (.slice none 0 0) (.slice none 0 0) (.int .i64 0) := by rw [hW2]; exact var3_newK (by simp)
  have k2 := k.belowK B2
  have hg' : g < h.guests.length := by omega
  obtain ⟨s1, s3, s4, s5⟩ := k.sz g hg'
  obtain ⟨⟨c1, q1⟩, ⟨c2, q2⟩, c3, q3⟩ := (k.held .gs trivial).1 g hg'
  obtain ⟨e0, e1, e2⟩ := (k.held (.maps g) hg').1 p (by omega)
  rw [Nat.zero_add] at e0 e1 e2
  have lG : A .gs < w.heap.size := (k.low .gs trivial).2
  have lM : A (.maps g) < w.heap.size := (k.low (.maps g) hg').2
  have lR : A (.row g) < w.heap.size := (k.low (.row g) hg').2
  have lG1 : A .gs < w.heap.size + 1 := by omega
  have lM1 : A (.maps g) < w.heap.size + 1 := by omega
  have lR1 : A (.row g) < w.heap.size + 1 := by omega
  have lP : w.heap.size < W2.heap.size := by omega
  have lQ : w.heap.size + 1 < W2.heap.size := by omega
  have hgi : (g : Int) < (n : Int) := by omega
  have hpi : (p : Int) < 6 := by omega
  obtain ⟨p0, p1, p3, f0, f1, f2⟩ := p2
  have hlow := fun x hx => (k.low x hx).2
  cases hin : ((gOf h g).maps.getD p noM).1
  · have hout : outP h g p = h := by rw [outP, hin]; rfl
    rw [hout]
    rw [show ((false, 0, false) : E3) = noM from rfl, hin] at e0
    obtain ⟨y0, y1, y2, z0, z1, z2⟩ := r2
    have HK2 := hidE k2
    have HB2 := hidE (B2.mono hN)
    clear k2 B2 hout
    go_enter Try.func69, Try.ntmps69
    go_wp2
    refine bodyPost_ret (v := .agg #[.slice (some ⟨A .fr, 0, none⟩) 8 cf, .slice (some ⟨A .gs, 0, none⟩) n cg, .int .i64 h.hand]) (by simp [results, Try.results69, go_sem, *]) rfl ?_
    have BB : Below w.heap.size w ((w.alloc (.cells #[.slice (some ⟨A .fr, 0, none⟩) 8 cf, .slice (some ⟨A .gs, 0, none⟩) n cg, .int .i64 h.hand] 26)).alloc (.cells #[.slice (some ⟨A .fr, 0, none⟩) 8 cf, .slice (some ⟨A .gs, 0, none⟩) n cg, .int .i64 h.hand] 26)) := ((Below.refl _ _).alloc (Nat.le_refl _) _).alloc (by simp) _
    exact ⟨rfl, ⟨A, rfl, ⟨rfl, rfl⟩, fun _ _ => Or.inl rfl, k.belowK BB⟩, BB.mono hN, fun j hj _ => BB.block j hj⟩
  · go_enter Try.func69, Try.ntmps69
    rw [show ((false, 0, false) : E3) = noM from rfl, hin] at e0
    go_wp2_with (fail)
    rw [← hW2]
    clear hW2
    have hneG : A .gs ≠ A (.row g) := fun e => by have := k.inj .gs (.row g) trivial hg' e; cases this
    have u1 := (B2.cell (p := ⟨A .gs, g * 3 + 1, none⟩) (show A .gs < w.heap.size by omega)).trans q2
    obtain ⟨S, hSE⟩ : ∃ S : World → Prop, S = fun W' => W'.cell? ⟨w.heap.size, 0, none⟩ = some (.slice (some ⟨A .fr, 0, none⟩) 8 cf) ∧ W'.cell? ⟨w.heap.size, 1, none⟩ = some (.slice (some ⟨A .gs, 0, none⟩) n cg) ∧ W'.cell? ⟨w.heap.size, 2, none⟩ = some (.int .i64 h.hand) ∧ W'.cell? ⟨A .gs, g * 3 + 1, none⟩ = some (.slice (some ⟨A (.row g), 0, none⟩) 6 c2) := ⟨_, rfl⟩
    have hcells : ∀ W', S W' → W'.cell? ⟨w.heap.size, 0, none⟩ = some (.slice (some ⟨A .fr, 0, none⟩) 8 cf) ∧ W'.cell? ⟨w.heap.size, 1, none⟩ = some (.slice (some ⟨A .gs, 0, none⟩) n cg) ∧ W'.cell? ⟨w.heap.size, 2, none⟩ = some (.int .i64 h.hand) ∧ W'.cell? ⟨A .gs, g * 3 + 1, none⟩ = some (.slice (some ⟨A (.row g), 0, none⟩) 6 c2) := fun W' hW' => by rw [hSE] at hW'; exact hW'
    have hSb : ∀ W', Below W2.heap.size W2 W' → S W' := fun W' B => by
      rw [hSE]
      obtain ⟨a, b, c⟩ := cells3 B lP ⟨p0, p1, p3⟩
      exact ⟨a, b, c, (B.cell (p := ⟨A .gs, g * 3 + 1, none⟩) (show A .gs < W2.heap.size by omega)).trans u1⟩
    have hSw : ∀ W' j v, S W' → S (W'.setCell ⟨A (.row g), j, none⟩ v) := fun W' j v hW' => by
      rw [hSE] at hW' ⊢
      exact ⟨cellk_offK hW'.1 (by omega), cellk_offK hW'.2.1 (by omega), cellk_offK hW'.2.2.1 (by omega), cellk_offK hW'.2.2.2 hneG⟩
    have Bc : Below W2.heap.size W2 W2.drew := (Below.refl _ _).drew
    have kc := k2.drewS
    have hsd : W2.drew.heap.size ≤ W2.heap.size ∧ W2.heap.size ≤ W2.drew.heap.size := by rw [World.size_drew]; exact ⟨Nat.le_refl _, Nat.le_refl _⟩
    clear p0 p1 p3 f0 f1 f2 q1 q2 q3 e0 e1 e2 u1 hSE
    refine wp_region_held_drew (S := S) (by kernel_rfl) (hSb _ Bc) (fun hHeld => ?_)
    generalize W2.drew = Wd at Bc hHeld hsd kc ⊢
    have hpg := specPage12 N Wd.heap.size (some ⟨A .fr, 0, none⟩) (some ⟨A .gs, 0, none⟩) cf n cg g p h Wd (kc.hostIn cf cg).parts8.1 (by rw [← hn]; exact (kc.hostIn cf cg).parts8.2) (Nat.le_refl _) ho hn hg hp
    refine wpAnyH_take (i := 0) (v := ?_) (by simp only [List.getElem?_toArray, List.getElem?_cons_succ, List.getElem?_cons_zero]; rfl) (by kernel_rfl) (by kernel_rfl) (by kernel_rfl) (by exact fun _ _ _ h => h) (Or.inl ⟨by rfl, ?_⟩) hHeld ?_
    rotate_left
    · intro W' hW'; go_simp <;> with_reducible rfl
    simp only [Act.put, List.setIfInBounds_toArray, List.set_cons_zero, List.set_cons_succ]
    refine wpAnyH_take (i := 1) (v := ?_) (by simp only [List.getElem?_toArray, List.getElem?_cons_succ, List.getElem?_cons_zero]; rfl) (by kernel_rfl) (by kernel_rfl) (by kernel_rfl) (by exact fun _ _ _ h => h) (Or.inl ⟨by rfl, ?_⟩) hHeld ?_
    rotate_left
    · intro W' hW'; obtain ⟨z0, z1, z2, z3⟩ := hcells W' hW'; go_simp <;> with_reducible rfl
    simp only [Act.put, List.setIfInBounds_toArray, List.set_cons_zero, List.set_cons_succ]
    refine wpAnyH_take (i := 2) (v := ?_) (by simp only [List.getElem?_toArray, List.getElem?_cons_succ, List.getElem?_cons_zero]; rfl) (by kernel_rfl) (by kernel_rfl) (by kernel_rfl) (by exact fun _ _ _ h => h) (Or.inl ⟨by rfl, ?_⟩) hHeld ?_
    rotate_left
    · intro W' hW'; go_simp <;> with_reducible rfl
    simp only [Act.put, List.setIfInBounds_toArray, List.set_cons_zero, List.set_cons_succ]
    refine wpAnyH_take (i := 3) (v := ?_) (by simp only [List.getElem?_toArray, List.getElem?_cons_succ, List.getElem?_cons_zero]; rfl) (by kernel_rfl) (by kernel_rfl) (by kernel_rfl) (by exact fun _ _ _ h => h) (Or.inl ⟨by rfl, ?_⟩) hHeld ?_
    rotate_left
    · intro W' hW'; go_simp <;> with_reducible rfl
    simp only [Act.put, List.setIfInBounds_toArray, List.set_cons_zero, List.set_cons_succ]
    refine wpAnyH_take (i := 4) (v := ?_) (by simp only [List.getElem?_toArray, List.getElem?_cons_succ, List.getElem?_cons_zero]; rfl) (by kernel_rfl) (by kernel_rfl) (by kernel_rfl) (by exact fun _ _ _ h => h) (Or.inl ⟨by rfl, ?_⟩) hHeld ?_
    rotate_left
    · intro W' hW'; go_simp <;> with_reducible rfl
    simp only [Act.put, List.setIfInBounds_toArray, List.set_cons_zero, List.set_cons_succ]
    refine wpAnyH_take (i := 5) (v := ?_) (by simp only [List.getElem?_toArray, List.getElem?_cons_succ, List.getElem?_cons_zero]; rfl) (by kernel_rfl) (by kernel_rfl) (by kernel_rfl) (by exact fun _ _ _ h => h) (Or.inl ⟨by rfl, ?_⟩) hHeld ?_
    rotate_left
    · intro W' hW'; obtain ⟨z0, z1, z2, z3⟩ := hcells W' hW'; go_simp <;> with_reducible rfl
    simp only [Act.put, List.setIfInBounds_toArray, List.set_cons_zero, List.set_cons_succ]
    refine wpAnyH_take (i := 6) (v := ?_) (by simp only [List.getElem?_toArray, List.getElem?_cons_succ, List.getElem?_cons_zero]; rfl) (by kernel_rfl) (by kernel_rfl) (by kernel_rfl) (by exact fun _ _ _ h => h) (Or.inl ⟨by rfl, ?_⟩) hHeld ?_
    rotate_left
    · intro W' hW'; go_simp <;> with_reducible rfl
    simp only [Act.put, List.setIfInBounds_toArray, List.set_cons_zero, List.set_cons_succ]
    refine wpAnyH_take (i := 7) (v := ?_) (by simp only [List.getElem?_toArray, List.getElem?_cons_succ, List.getElem?_cons_zero]; rfl) (by kernel_rfl) (by kernel_rfl) (by kernel_rfl) (by exact fun _ _ _ h => h) (Or.inl ⟨by rfl, ?_⟩) hHeld ?_
    rotate_left
    · intro W' hW'; obtain ⟨z0, z1, z2, z3⟩ := hcells W' hW'; go_simp <;> with_reducible rfl
    simp only [Act.put, List.setIfInBounds_toArray, List.set_cons_zero, List.set_cons_succ]
    refine wpAnyH_take (i := 8) (v := ?_) (by simp only [List.getElem?_toArray, List.getElem?_cons_succ, List.getElem?_cons_zero]; rfl) (by kernel_rfl) (by kernel_rfl) (by kernel_rfl) (by exact fun _ _ _ h => h) (Or.inl ⟨by rfl, ?_⟩) hHeld ?_
    rotate_left
    · intro W' hW'; go_simp <;> with_reducible rfl
    simp only [Act.put, List.setIfInBounds_toArray, List.set_cons_zero, List.set_cons_succ]
    refine wpAnyH_take (i := 9) (v := ?_) (by simp only [List.getElem?_toArray, List.getElem?_cons_succ, List.getElem?_cons_zero]; rfl) (by kernel_rfl) (by kernel_rfl) (by kernel_rfl) (by exact fun _ _ _ h => h) (Or.inl ⟨by rfl, ?_⟩) hHeld ?_
    rotate_left
    · intro W' hW'; go_simp <;> with_reducible rfl
    simp only [Act.put, List.setIfInBounds_toArray, List.set_cons_zero, List.set_cons_succ]
    refine wpAnyH_ready (rs := [10]) (by kernel_rfl) (by simp) ?_
    refine AllReadyH.cons (by simp only [List.getElem?_toArray, List.getElem?_cons_succ, List.getElem?_cons_zero]; rfl) (fun K hK => ?_) AllReadyH.nil
    rw [if_pos (by rfl)]
    go_simp
    refine hpg.mono ?_
    rintro e W3 ⟨b3, c3', rfl, own3, B3⟩
    have z3 := B3.size
    have kd := kc.belowK B3
    have Bd := Bc.trans (B3.mono (by omega))
    have hb3 := (own3.lt b3 rfl)
    try go_wp2_with (fail)
    refine hK.out _ _ (hSb _ Bd) (fun hHeld => ?_)
    clear hK K
    try simp only [Act.put, List.setIfInBounds_toArray, List.set_cons_zero, List.set_cons_succ]
    refine wpAnyH_take (i := 11) (v := ?_) (by simp only [List.getElem?_toArray, List.getElem?_cons_succ, List.getElem?_cons_zero]; rfl) (by kernel_rfl) (by kernel_rfl) (by kernel_rfl) (by exact fun _ _ _ h => h) (Or.inl ⟨by rfl, ?_⟩) hHeld ?_
    rotate_left
    · intro W' hW'; go_simp <;> with_reducible rfl
    simp only [Act.put, List.setIfInBounds_toArray, List.set_cons_zero, List.set_cons_succ]
    refine wpAnyH_ready (rs := [12]) (by kernel_rfl) (by simp) ?_
    refine AllReadyH.cons (by simp only [List.getElem?_toArray, List.getElem?_cons_succ, List.getElem?_cons_zero]; rfl) (fun K hK => ?_) AllReadyH.nil
    rw [if_pos (by rfl)]
    obtain ⟨⟨c4, w4⟩, w5⟩ := (kd.held (.row g) hg') p hp
    have lRd : A (.row g) < W3.heap.size := by omega
    have hz4 := pageM_len ho hg' hp
    have hpage := hidE (show h.frames = h.frames from rfl)
    have kx := kd.disk (c := c3') hg' hp hz4 (b := b3) ⟨by omega, hb3.2⟩ (fun x hx => by have := (k.low x hx).2; omega) (own_intsS own3) (by have := own_room own3; simpa using this)
    go_simp
    refine hK.out _ _ (hSw _ _ _ hHeld) (fun hHeld => ?_)
    clear hK K
    try simp only [Act.put, List.setIfInBounds_toArray, List.set_cons_zero, List.set_cons_succ]
    refine wpAnyH_done (by kernel_rfl) ?_ _
    obtain ⟨W4, hW4⟩ : ∃ W4, W4 = W3.setCell ⟨A (.row g), p, none⟩ (.slice (some ⟨b3, 0, none⟩) 4 c3') := ⟨_, rfl⟩
    rw [← hW4] at kx hHeld ⊢
    have s4z : W4.heap.size ≤ W3.heap.size ∧ W3.heap.size ≤ W4.heap.size := by rw [hW4, World.size_setCell]; exact ⟨Nat.le_refl _, Nat.le_refl _⟩
    have r4 : Var3 W4 (w.heap.size + 1) (.slice none 0 0) (.slice none 0 0) (.int .i64 0) := by
      rw [hW4]
      exact (r2.same (Bd.block _ (by omega))).same (Below.heap_setCell _ _ _ _ (by simp; omega))
    have B4 : Below N w W4 := by
      rw [hW4]
      exact ((B2.trans (Bd.mono (by omega))).mono hN).setCell (p := ⟨A (.row g), p, none⟩) (k.low (.row g) hg').1 _
    have BM4 := hidE (show ∀ b, b < w.heap.size → b ≠ A (.row g) → W4.heap[b]? = w.heap[b]? from fun b h1 h2 => by
      rw [hW4, Below.heap_setCell _ _ _ _ (by simpa using h2)]
      exact (Bd.block b (by omega)).trans (B2.block b h1))
    clear hW4
    obtain ⟨x0, x1, x2, x3⟩ := hcells _ hHeld
    obtain ⟨A', hA'⟩ : ∃ A', A' = upd A (.dsk g p) b3 := ⟨_, rfl⟩
    rw [← hA'] at kx
    have aF : A' .fr = A .fr := by rw [hA']; exact upd_ne _ _ (by intro e; cases e)
    have aG : A' .gs = A .gs := by rw [hA']; exact upd_ne _ _ (by intro e; cases e)
    have a9 := hidE (show A' (.maps 9) = A (.maps 9) by rw [hA']; exact upd_ne _ _ (by intro e; cases e))
    have aM : A' (.maps g) = A (.maps g) := by rw [hA']; exact upd_ne _ _ (by intro e; cases e)
    have aX : ∀ x, x.ok n → A' x = A x ∨ w.heap.size + 2 ≤ A' x := fun x _ => by
      rw [hA']
      by_cases e : x = .dsk g p
      · right; rw [e, upd_same]; omega
      · left; exact upd_ne _ _ e
    have aS : A' (.shd g) = A (.shd g) := by rw [hA']; exact upd_ne _ _ (by intro e; cases e)
    clear hA'
    obtain ⟨h1, hh1⟩ : ∃ h1, h1 = setG h g (withDs (gOf h g) ((gOf h g).disk.set p (pageM h.frames (h.guests.getD g noG) p))) := ⟨_, rfl⟩
    rw [← hh1] at kx
    have h1n : h1.guests.length = n := by rw [hh1, setG_len]; exact hn
    have hg1 : g < h1.guests.length := by omega
    obtain ⟨⟨c5, q5⟩, _, _⟩ := (kx.held .gs trivial).1 g hg1
    obtain ⟨_, hRM⟩ := kx.held (.maps g) hg1
    obtain ⟨⟨t0, g0⟩, j0⟩ := hRM (p * 3) (by omega)
    obtain ⟨⟨t1, g1⟩, j1⟩ := hRM (p * 3 + 1) (by omega)
    obtain ⟨⟨t2, g2⟩, j2⟩ := hRM (p * 3 + 2) (by omega)
    have kM := kx.map hg1 hp noM
    rw [aG, aM] at q5
    rw [aM] at g0 g1 g2 j0 j1 j2 kM
    have l4G : A .gs < W4.heap.size := by omega
    have l4M : A (.maps g) < W4.heap.size := by omega
    have l4P : w.heap.size < W4.heap.size := by omega
    have neM : A (.maps g) ≠ w.heap.size := by omega
    have HkM := hidE kM
    have Hr4 := hidE r4
    have HB4 := hidE B4
    clear kx kM hRM kd kc hpg own3 hSb hSw hHeld hcells B3 Bd Bc r2 r4 B4 B2 k2 w4 w5 x3
    obtain ⟨W5, hW5⟩ : ∃ W5, W5 = ((W4.setCell ⟨A (.maps g), p * 3, none⟩ (.bool false)).setCell ⟨A (.maps g), p * 3 + 1, none⟩ (.int .i64 0)).setCell ⟨A (.maps g), p * 3 + 2, none⟩ (.bool false) := ⟨_, rfl⟩
    have k5 : SepH W5 N A' (setG h1 g (withMs (gOf h1 g) ((gOf h1 g).maps.set p noM))) := by rw [hW5]; exact HkM.out
    have s5z : W5.heap.size ≤ W4.heap.size ∧ W4.heap.size ≤ W5.heap.size := by rw [hW5]; simp
    have B5 := hidE (show Below N w W5 by
      rw [hW5]
      exact ((HB4.out.setCell (p := ⟨A (.maps g), p * 3, none⟩) (k.low (.maps g) hg').1 _).setCell (p := ⟨A (.maps g), p * 3 + 1, none⟩) (k.low (.maps g) hg').1 _).setCell (p := ⟨A (.maps g), p * 3 + 2, none⟩) (k.low (.maps g) hg').1 _)
    have BM5 := hidE (show ∀ b, b < w.heap.size → b ≠ A (.row g) → b ≠ A (.maps g) → W5.heap[b]? = w.heap[b]? from fun b h1 h2 h3 => by
      rw [hW5, Below.heap_setCell _ _ _ _ (by simpa using h3), Below.heap_setCell _ _ _ _ (by simpa using h3), Below.heap_setCell _ _ _ _ (by simpa using h3)]
      exact BM4.out b h1 h2)
    have r5 : Var3 W5 (w.heap.size + 1) (.slice none 0 0) (.slice none 0 0) (.int .i64 0) := by
      rw [hW5]
      exact Hr4.out.same (by rw [Below.heap_setCell _ _ _ _ (by simp; omega), Below.heap_setCell _ _ _ _ (by simp; omega), Below.heap_setCell _ _ _ _ (by simp; omega)])
    have hfo := specForget13 N A' _ g (p : Int) n cf cg h.hand W5 k5 (by rw [setG_len]; exact h1n) hg (by omega)
    rw [aF, aG] at hfo
    have hout : setG (setG h1 g (withMs (gOf h1 g) ((gOf h1 g).maps.set p noM))) g (withS (gOf (setG h1 g (withMs (gOf h1 g) ((gOf h1 g).maps.set p noM))) g) (fU (gOf (setG h1 g (withMs (gOf h1 g) ((gOf h1 g).maps.set p noM))) g).shades (p : Int) 6)) = outP h g p := by
      rw [setG_setG, gOf_set_same hg1, hh1, setG_setG, gOf_set_same hg', outP, hin]
      rfl
    rw [hout] at hfo
    have hon := outP_len h g p
    clear hout k5
    go_wp2_with (fail)
    rw [← hW5]
    clear hW5
    refine hfo.mono ?_
    rintro e W6 ⟨rfl, k6, B6, X6⟩
    have s6 := B6.size
    obtain ⟨y0, y1, y2, i0, i1, i2⟩ := r5.same (X6 _ (by omega) (by rw [aS]; have := (k.low (.shd g) hg').2; omega))
    have lR6 : w.heap.size + 1 < W6.heap.size := by omega
    have Hk6 := hidE k6
    have HB6 := hidE (B5.out.trans B6)
    have HX6 := hidE (show ∀ j, j < w.heap.size → (∀ x, x.ok n → A x ≠ j) → W6.heap[j]? = w.heap[j]? from fun j hj hx => by
      have n1 := hx (.row g) hg
      have n2 := hx (.maps g) hg
      have n3 := hx (.shd g) hg
      rw [X6 j (by omega) (by rw [aS]; exact Ne.symm n3)]
      exact BM5.out j hj (Ne.symm n1) (Ne.symm n2))
    clear X6 BM4 BM5
    clear hfo k6 B6 B5 r5 HkM Hr4 HB4 x0 x1 x2 q5 g0 g1 g2 j0 j1 j2
    go_wp2
    refine bodyPost_ret (v := .agg #[.slice (some ⟨A .fr, 0, none⟩) 8 cf, .slice (some ⟨A .gs, 0, none⟩) n cg, .int .i64 h.hand]) (by simp [results, Try.results69, go_sem, *]) rfl ?_
    have hoff : ∀ x, x.ok (outP h g p).guests.length → A' x ≠ w.heap.size + 1 := fun x hx => by
      rw [hon, hn] at hx
      rcases aX x hx with e | e
      · have := (k.low x (by rw [hn]; exact hx)).2
        omega
      · omega
    refine ⟨rfl, ⟨A', aF, ⟨aG, a9.out⟩, fun x hx => (aX x hx).imp id (fun e => by omega), ((Hk6.out.off hoff _).off hoff _).off hoff _⟩, ?_, fun j hj hx => by rw [Below.heap_setCell _ _ _ _ (by simp; omega), Below.heap_setCell _ _ _ _ (by simp; omega), Below.heap_setCell _ _ _ _ (by simp; omega)]; exact HX6.out j hj hx⟩
    exact ((HB6.out.setCell (p := ⟨w.heap.size + 1, 0, none⟩) (show N ≤ w.heap.size + 1 by omega) _).setCell (p := ⟨w.heap.size + 1, 1, none⟩) (show N ≤ w.heap.size + 1 by omega) _).setCell (p := ⟨w.heap.size + 1, 2, none⟩) (show N ≤ w.heap.size + 1 by omega) _
end Go.Proofs.Ytjegndgdpmlbaaa

/-
  What the given PageOut does.
-/
set_option linter.unusedSimpArgs false
namespace Go.Proofs.Ytjegndgdpmlbaaa
open Go.RowKit
attribute [local go_sem ↓] Go.wp_at_zero Go.wp_at_succ exec_app
attribute [local go_sem] bigNext_ok

end Go.Proofs.Ytjegndgdpmlbaaa
