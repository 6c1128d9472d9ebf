/-
  What the given l14Write does.
-/
import Derived.Test.YtjegndgdpmlbaaaKOAC
import Derived.Test.YtjegndgdpmlbaaaKOPC
set_option linter.unusedSimpArgs false
namespace Go.Proofs.Ytjegndgdpmlbaaa
open Go.RowKit
attribute [local go_sem ↓] Go.wp_at_zero Go.wp_at_succ exec_app
attribute [local go_sem] bigNext_ok

/-- A word of a frame written. -/
theorem SepH.word {w : World} {N : Nat} {A : Pl → Nat} {h : Hst} (k : SepH w N A h) {F : Nat} (hF : F < 8) (o : Nat) (z : Int) : SepH (w.setCell ⟨A (.page F), o, none⟩ (.int .i64 z)) N A (wordP h F o z) := by
  have hh := k.held (.page F) hF
  have h4 := k.f4 F hF
  refine k.put (.page F) hF rfl (by show (h.frames.set F _).length = 8; rw [List.length_set]; exact k.f8) (fun j hj => ?_) k.sz (by simp) (fun j hj => ?_) (fun x hx hne hx2 => ?_) ⟨?_, ?_⟩
  · show ((h.frames.set F ((fAt h F).set o z)).getD j []).length = 4
    rw [getD_set _ _ _ _ _ (by rw [k.f8]; exact hF)]
    by_cases e : j = F
    · rw [if_pos e, List.length_set]; exact h4
    · rw [if_neg e]; exact k.f4 j hj
  · rw [Below.heap_setCell _ _ _ _ (by simpa using hj)]
  · cases x using Pl.seven with
    | page i =>
      have hne' : i ≠ F := fun e => hne (by rw [e])
      have e2 : (wordP h F o z).frames.getD i [] = h.frames.getD i [] := getD_set_ne _ _ _ hne'
      show Ints w (A (.page i)) 0 ((wordP h F o z).frames.getD i []) ∧ _
      rw [e2]; exact hx2
    | _ => exact hx2
  · show Ints _ (A (.page F)) 0 ((h.frames.set F ((fAt h F).set o z)).getD F [])
    rw [getD_set_same _ _ _ _ (by rw [k.f8]; exact hF)]
    have := ints_set (k := o) hh.1 z
    rw [Nat.zero_add] at this
    exact this
  · exact hh.2.put _

set_option maxRecDepth 100000 in
set_option maxHeartbeats 2000000 in
theorem specWrite14 (N : Nat) (A : Pl → Nat) (h : Hst) (g p o : Nat) (z : Int) (n cf cg : Nat) (w : World) (k : SepH w N A h) (kk : OkH h) (hn : h.guests.length = n) (hg : g < n) (hp : p < 6) (ho4 : o < 4) (hN : N ≤ w.heap.size) :
    Calls Try.prog 122 #[.agg #[.slice (some ⟨A .fr, 0, none⟩) 8 cf, .slice (some ⟨A .gs, 0, none⟩) n cg, .int .i64 h.hand], .int .i64 g, .int .i64 p, .int .i64 o, .int .i64 z] w fun e w' => e = .returned (.tuple #[.agg #[.slice (some ⟨A .fr, 0, none⟩) 8 cf, .slice (some ⟨A .gs, 0, none⟩) n cg, .int .i64 (wrH h g p o z).hand], .int .i64 (zAt h g p o)]) ∧ ∃ A', Mv w w' w.heap.size N n A A' (wrH h g p o z) := by
  obtain ⟨W2, hW2⟩ : ∃ W2, W2 = (w.alloc (.cells #[.slice (some ⟨A .fr, 0, none⟩) 8 cf, .slice (some ⟨A .gs, 0, none⟩) n cg, .int .i64 h.hand] 26)).alloc (.cells #[.slice none 0 0, .slice none 0 0, .int .i64 0] 26) := ⟨_, rfl⟩
  have B2 : Below w.heap.size w W2 := by rw [hW2]; exact ((Below.refl _ _).alloc (Nat.le_refl _) _).alloc (by simp) _
  have s2 : W2.heap.size ≤ w.heap.size + 2 ∧ w.heap.size + 2 ≤ W2.heap.size := by rw [hW2]; simp
  have p2 : Var3 W2 w.heap.size (.slice (some ⟨A .fr, 0, none⟩) 8 cf) (.slice (some ⟨A .gs, 0, none⟩) n cg) (.int .i64 h.hand) := by rw [hW2]; exact (var3_new w _ _ _ _).allocK _
  have r2 : Var3 W2 (w.heap.size + 1) (.slice none 0 0) (.slice none 0 0) (.int .i64 0) := by rw [hW2]; exact var3_newK (by simp)
  have hAl : ∀ x, x.ok n → A x < w.heap.size := fun x hx => (k.low x (by rw [hn]; exact hx)).2
  have m2 : Mv w W2 (w.heap.size + 2) N n A A h := Mv.start k hn B2 hN (Nat.le_add_right _ _) s2.2
  have hin1 := specOwn13 N A h g p n cf cg W2 m2.sep (okHost_mk kk) hn hg hp (by omega)
  obtain ⟨k1, l1, c1, hm1, hw1⟩ := ownP_ok kk (show g < h.guests.length by omega) hp
  have hz : zAt (ownP h g p) g p o = zAt h g p o := by rw [zAt, c1 g p (by omega) hp]; rfl
  have hwr : wrH h g p o z = wordP (ownP h g p) (mAt (ownP h g p) g p).2.1.toNat o z := rfl
  rw [← hz, hwr]
  rw [hn] at l1
  clear hz hwr c1
  generalize ownP h g p = h1 at *
  obtain ⟨y, hyy⟩ : ∃ y, y = zAt h1 g p o := ⟨_, rfl⟩
  rw [← hyy]
  obtain ⟨F, hF8, hmF⟩ := okH_fr k1 (show g < h1.guests.length by omega) hp hm1
  rw [hmF, Int.toNat_natCast]
  obtain ⟨hfin, hhf⟩ : ∃ hfin, hfin = wordP h1 F o z := ⟨_, rfl⟩
  have hhf2 := hidE hhf
  rw [← hhf]
  go_enter Try.func122, Try.ntmps122
  go_wp2_with (fail)
  rw [← hW2]
  clear hW2
  refine hin1.mono ?_
  rintro e w3 ⟨rfl, A1, M3⟩
  have s3 := M3.size
  have M03 := m2.call hAl M3
  have P3 := p2.same (m2.own hAl M3 (Nat.le_refl _) (by omega))
  have R3 := r2.same (m2.own hAl M3 (Nat.le_succ _) (by omega))
  have hg1 : g < h1.guests.length := by omega
  obtain ⟨⟨c1, q1⟩, e0, e1, e2, ⟨c2, q2⟩, q3⟩ := M03.sep.cells hg1 hp hF8 hmF ho4
  rw [← zAt_in hm1 hmF o, ← hyy] at q3
  have z3 := ((M03.sep.held (.page F) hF8).2 o ho4).2
  have lG := (M03.sep.low .gs trivial).2
  have lF := (M03.sep.low .fr trivial).2
  have lM := (M03.sep.low (.maps g) hg1).2
  have lP := (M03.sep.low (.page F) hF8).2
  have lPN := (M03.sep.low (.page F) hF8).1
  rw [M03.gs] at q1 lG
  rw [M03.fr] at q2 lF
  have lG0 := hAl .gs trivial
  have lF0 := hAl .fr trivial
  have nG : A .gs ≠ w.heap.size := by omega
  have nF : A .fr ≠ w.heap.size := by omega
  have nM : A1 (.maps g) ≠ w.heap.size := M03.ne (by omega) (fun x hx => by have := hAl x hx; omega) (.maps g) hg
  have nP : A1 (.page F) ≠ w.heap.size := M03.ne (by omega) (fun x hx => by have := hAl x hx; omega) (.page F) hF8
  have nP1 : A1 (.page F) ≠ w.heap.size + 1 := M03.ne (by omega) (fun x hx => by have := hAl x hx; omega) (.page F) hF8
  obtain ⟨pp0, pp1, pp2, ff0, ff1, ff2⟩ := P3
  have hgi : (g : Int) < (n : Int) := by omega
  have hpi : (p : Int) < 6 := by omega
  have hoi : (o : Int) < 4 := by omega
  have hFi : (F : Int) < 8 := by omega
  have l3 : w.heap.size < w3.heap.size := by omega
  have M4 := hidE (M03.off3 hAl (b := w.heap.size) (Nat.le_refl _) (by omega) hN (.slice (some ⟨A .fr, 0, none⟩) 8 cf) (.slice (some ⟨A .gs, 0, none⟩) n cg) (.int .i64 h1.hand))
  have HM03 := hidE M03
  have HPP := hidE (show Var3 w3 w.heap.size (.slice (some ⟨A .fr, 0, none⟩) 8 cf) (.slice (some ⟨A .gs, 0, none⟩) n cg) (.int .i64 h.hand) from ⟨pp0, pp1, pp2, ff0, ff1, ff2⟩)
  have HR3 := hidE R3
  obtain ⟨y0, y1, y2, d0, d1, d2⟩ := R3
  have lR : w.heap.size + 1 < w3.heap.size := by omega
  have nG1 : A .gs ≠ w.heap.size + 1 := by omega
  have nF1 : A .fr ≠ w.heap.size + 1 := by omega
  have nM1 : A1 (.maps g) ≠ w.heap.size + 1 := M03.ne (by omega) (fun x hx => by have := hAl x hx; omega) (.maps g) hg
  clear hin1 m2 M3 M03 p2 r2 B2 k hm1 hmF k1 hyy hhf e0 e2
  go_wp2_with (fail)
  obtain ⟨V, hV⟩ : ∃ V, V = (((w3.setCell ⟨w.heap.size, 0, none⟩ (.slice (some ⟨A .fr, 0, none⟩) 8 cf)).setCell ⟨w.heap.size, 1, none⟩ (.slice (some ⟨A .gs, 0, none⟩) n cg)).setCell ⟨w.heap.size, 2, none⟩ (.int .i64 h1.hand)).setCell ⟨A1 (.page F), o, none⟩ (.int .i64 z) := ⟨_, rfl⟩
  rw [← hV]
  have hM4 := HM03.out.off3 hAl (b := w.heap.size) (Nat.le_refl _) (by omega) hN (.slice (some ⟨A .fr, 0, none⟩) 8 cf) (.slice (some ⟨A .gs, 0, none⟩) n cg) (.int .i64 h1.hand)
  have hK5 := hM4.sep.word hF8 o z
  have hM5 := hM4.put hK5 (by show h1.guests.length = n; omega) ((Below.refl N _).setCell (p := ⟨A1 (.page F), o, none⟩) lPN _) (x0 := .page F) hF8 (by simp) (fun j _ h2 => Below.heap_setCell _ _ _ _ (by simpa using h2))
  rw [← hV] at hM5
  have nP' := Ne.symm nP1
  have R5 := HR3.out.same (w' := V) (by rw [hV, Below.heap_setCell _ _ _ _ (by simpa using nP'), Below.heap_setCell _ _ _ _ (by simp), Below.heap_setCell _ _ _ _ (by simp), Below.heap_setCell _ _ _ _ (by simp)])
  have lV : w.heap.size + 1 < V.heap.size := by rw [hV]; simpa using lR
  have R9 := R5.putAll (.slice (some ⟨A .fr, 0, none⟩) 8 cf) (.slice (some ⟨A .gs, 0, none⟩) n cg) (.int .i64 h1.hand)
  have hM9 := (hM5.off3 hAl (b := w.heap.size + 1) (by omega) (by omega) hN (.slice (some ⟨A .fr, 0, none⟩) 8 cf) (.slice (some ⟨A .gs, 0, none⟩) n cg) (.int .i64 h1.hand)).weak (M' := w.heap.size) (Nat.le_refl _) (by omega)
  have lV9 : w.heap.size + 1 < (((V.setCell ⟨w.heap.size + 1, 0, none⟩ (.slice (some ⟨A .fr, 0, none⟩) 8 cf)).setCell ⟨w.heap.size + 1, 1, none⟩ (.slice (some ⟨A .gs, 0, none⟩) n cg)).setCell ⟨w.heap.size + 1, 2, none⟩ (.int .i64 h1.hand)).heap.size := by simpa using lV
  clear hM4 hK5 hM5 hV R5 y0 y1 y2 d0 d1 d2 pp0 pp1 pp2 ff0 ff1 ff2 q1 q2 q3 z3
  generalize ((V.setCell ⟨w.heap.size + 1, 0, none⟩ (.slice (some ⟨A .fr, 0, none⟩) 8 cf)).setCell ⟨w.heap.size + 1, 1, none⟩ (.slice (some ⟨A .gs, 0, none⟩) n cg)).setCell ⟨w.heap.size + 1, 2, none⟩ (.int .i64 h1.hand) = W9 at *
  obtain ⟨y0, y1, y2, d0, d1, d2⟩ := R9
  refine bodyPost_ret (v := .tuple #[.agg #[.slice (some ⟨A .fr, 0, none⟩) 8 cf, .slice (some ⟨A .gs, 0, none⟩) n cg, .int .i64 h1.hand], .int .i64 y]) (by simp [results, Try.results122, go_sem, *]) rfl ?_
  rw [hhf2.out]
  exact ⟨rfl, A1, hM9⟩
end Go.Proofs.Ytjegndgdpmlbaaa
