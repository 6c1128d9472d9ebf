/-
  What the given l13Own does.
-/
import Derived.Test.YtdamdjhnhkmncaaKSpecIn3
set_option linter.unusedSimpArgs false
namespace Go.Proofs.Ytdamdjhnhkmncaa
open Go.RowKit
attribute [local go_sem ↓] Go.wp_at_zero Go.wp_at_succ exec_app
attribute [local go_sem] bigNext_ok

/-- Whether a page may be written is written alone. -/
theorem SepH.mapW {w : World} {N : Nat} {A : Pl → Nat} {h : Hst} (k : SepH w N A h) {g : Nat} (hg : g < h.guests.length) {i : Nat} (hi : i < 6) (b : Bool) :
    SepH (w.setCell ⟨A (.maps g), i * 3 + 2, none⟩ (.bool b)) N A (setM h g i ((mAt h g i).1, (mAt h g i).2.1, b)) := by
  obtain ⟨s1, s2, s3, s4⟩ := k.sz g hg
  have hh := k.held (.maps g) hg
  refine k.put (.maps g) hg (setG_len _ _ _) k.f8 k.f4 (fun j hj => ?_) (by simp) (fun j hj => ?_) (fun x hx hne hx2 => ?_) ⟨fun j hj => ?_, ?_⟩
  · unfold setM
    by_cases e : j = g
    · subst e
      rw [gOf_set_same hg]
      exact ⟨by show ((gOf h j).maps.set i _).length = 6; rw [List.length_set]; exact s1, s2, s3, s4⟩
    · rw [gOf_set_ne e]; exact k.sz j hj
  · rw [Below.heap_setCell _ _ _ _ (by simpa using hj)]
  · exact held_setG hg x hx2 (fun e => (hne e).elim) (fun _ => rfl) (fun p _ => rfl)
  · unfold setM at hj ⊢
    rw [gOf_set_same hg] at hj ⊢
    have hj6 : j < 6 := by
      have : j < ((gOf h g).maps.set i ((mAt h g i).1, (mAt h g i).2.1, b)).length := hj
      rw [List.length_set, s1] at this
      exact this
    obtain ⟨q0, q1, q2⟩ := hh.1 j (by omega)
    rw [Nat.zero_add, show ((false, 0, false) : E3) = noM from rfl] at q0 q1 q2
    have e : (withMs (gOf h g) ((gOf h g).maps.set i ((mAt h g i).1, (mAt h g i).2.1, b))).maps.getD j noM = if j = i then ((mAt h g i).1, (mAt h g i).2.1, b) else (gOf h g).maps.getD j noM := getD_set _ _ _ _ _ (by omega)
    rw [show ((false, 0, false) : E3) = noM from rfl, e, Nat.zero_add]
    refine ⟨(cell_put q0).trans ?_, (cell_put q1).trans ?_, (cell_put q2).trans ?_⟩
    · rw [if_neg (by omega)]
      by_cases hji : j = i
      · rw [if_pos hji, hji]; rfl
      · rw [if_neg hji]
    · rw [if_neg (by omega)]
      by_cases hji : j = i
      · rw [if_pos hji, hji]; rfl
      · rw [if_neg hji]
    · by_cases hji : j = i
      · rw [if_pos (by omega), if_pos hji]
      · rw [if_neg (by omega), if_neg hji]
  · exact hh.2.put _

set_option maxRecDepth 100000 in
set_option maxHeartbeats 2000000 in
theorem specOwn13 (N : Nat) (A : Pl → Nat) (h : Hst) (g p : Nat) (n cf cg : Nat) (w : World) (k : SepH w N A h) (ho : okHost h = true) (hn : h.guests.length = n) (hg : g < n) (hp : p < 6) (hN : N ≤ w.heap.size) :
    Calls Try.prog 71 #[.agg #[.slice (some ⟨A .fr, 0, none⟩) 8 cf, .slice (some ⟨A .gs, 0, none⟩) n cg, .int .i64 h.hand], .int .i64 g, .int .i64 p] w fun e w' => e = .returned (.agg #[.slice (some ⟨A .fr, 0, none⟩) 8 cf, .slice (some ⟨A .gs, 0, none⟩) n cg, .int .i64 (ownP h g p).hand]) ∧ ∃ A', Mv w w' w.heap.size N n A A' (ownP h g p) := by
  obtain ⟨W2, hW2⟩ : ∃ W2, W2 = (w.alloc (.cells #[.slice (some ⟨A .fr, 0, none⟩) 8 cf, .slice (some ⟨A .gs, 0, none⟩) n cg, .int .i64 h.hand] 27)).alloc (.cells #[.slice none 0 0, .slice none 0 0, .int .i64 0] 27) := ⟨_, rfl⟩
  have B2 : Below w.heap.size w W2 := by rw [hW2]; exact ((Below.refl _ _).alloc (Nat.le_refl _) _).alloc (by simp) _
  have s2 : W2.heap.size ≤ w.heap.size + 2 ∧ w.heap.size + 2 ≤ W2.heap.size := by rw [hW2]; simp
  have p2 : Var3 W2 w.heap.size (.slice (some ⟨A .fr, 0, none⟩) 8 cf) (.slice (some ⟨A .gs, 0, none⟩) n cg) (.int .i64 h.hand) := by rw [hW2]; exact (var3_new w _ _ _ _).allocK _
  have r2 : Var3 W2 (w.heap.size + 1) (.slice none 0 0) (.slice none 0 0) (.int .i64 0) := by rw [hW2]; exact var3_newK (by simp)
  have hAl : ∀ x, x.ok n → A x < w.heap.size := fun x hx => (k.low x (by rw [hn]; exact hx)).2
  have m2 : Mv w W2 (w.heap.size + 2) N n A A h := Mv.start k hn B2 hN (Nat.le_add_right _ _) s2.2
  have kk := okHost_of ho
  have hin1 := specIn13 N A h g p n cf cg W2 m2.sep ho hn hg hp (by omega)
  obtain ⟨k1, _, hm1⟩ := inP_ok kk (show g < h.guests.length by omega) hp
  have l1 : (inP h g p).guests.length = n := by rw [inP_len kk, hn]
  have hown : ownP h g p = bif (mAt (inP h g p) g p).2.2 then inP h g p else bif usersH (inP h g p) (mAt (inP h g p) g p).2.1 == 1 then setM (inP h g p) g p (true, (mAt (inP h g p) g p).2.1, true) else inP (outP (inP h g p) g p) g p := rfl
  have Hown := hidE hown
  clear hown
  generalize ownP h g p = ho' at *
  generalize inP h g p = h1 at *
  go_enter Try.func71, Try.ntmps71
  go_wp2_with (fail)
  rw [← hW2]
  clear hW2
  refine hin1.mono ?_
  rintro e w3 ⟨rfl, A1, M3⟩
  have s3 := M3.size
  have M03 := m2.call hAl M3
  have P3 := p2.same (m2.own hAl M3 (Nat.le_refl _) (by omega))
  have R3 := r2.same (m2.own hAl M3 (Nat.le_succ _) (by omega))
  obtain ⟨W4, hW4⟩ : ∃ W4, W4 = ((w3.setCell ⟨w.heap.size, 0, none⟩ (.slice (some ⟨A .fr, 0, none⟩) 8 cf)).setCell ⟨w.heap.size, 1, none⟩ (.slice (some ⟨A .gs, 0, none⟩) n cg)).setCell ⟨w.heap.size, 2, none⟩ (.int .i64 h1.hand) := ⟨_, rfl⟩
  have M4 := M03.off3 hAl (b := w.heap.size) (Nat.le_refl _) (by omega) hN (.slice (some ⟨A .fr, 0, none⟩) 8 cf) (.slice (some ⟨A .gs, 0, none⟩) n cg) (.int .i64 h1.hand)
  have P4 := P3.putAll (.slice (some ⟨A .fr, 0, none⟩) 8 cf) (.slice (some ⟨A .gs, 0, none⟩) n cg) (.int .i64 h1.hand)
  have R4 := R3.same (w' := W4) (by rw [hW4, Below.heap_setCell _ _ _ _ (by simp), Below.heap_setCell _ _ _ _ (by simp), Below.heap_setCell _ _ _ _ (by simp)])
  rw [← hW4] at M4 P4
  have s4 : W4.heap.size = w3.heap.size := by rw [hW4]; simp
  have hg1 : g < h1.guests.length := by omega
  obtain ⟨⟨c1, q1⟩, _, _⟩ := (M03.sep.held .gs trivial).1 g hg1
  obtain ⟨e0, e1, e2⟩ := (M03.sep.held (.maps g) hg1).1 p (by rw [(M03.sep.sz g hg1).1]; exact hp)
  rw [Nat.zero_add, show ((false, 0, false) : E3) = noM from rfl, show (gOf h1 g).maps.getD p noM = mAt h1 g p from rfl] at e0 e1 e2
  rw [M03.gs] at q1
  have lG := (M03.sep.low .gs trivial).2
  rw [M03.gs] at lG
  have lM := (M03.sep.low (.maps g) hg1).2
  have lG0 := hAl .gs trivial
  have nG : A .gs ≠ w.heap.size := by omega
  have nM : A1 (.maps g) ≠ w.heap.size := M03.ne (by omega) (fun x hx => by have := hAl x hx; omega) (.maps g) hg
  have nG' := Ne.symm nG
  have nM' := Ne.symm nM
  obtain ⟨pp0, pp1, pp2, ff0, ff1, ff2⟩ := P3
  have hgi : (g : Int) < (n : Int) := by omega
  have hpi : (p : Int) < 6 := by omega
  have l3 : w.heap.size < w3.heap.size := by omega
  have l4 : w.heap.size < W4.heap.size := by omega
  have HM4 := hidE M4
  have HP4 := hidE P4
  have HR4 := hidE R4
  have hU := fun (W : World) (B : Below W4.heap.size W4 W) => specUsers N W.heap.size _ _ h1 (mAt h1 g p).2.1 W (by have := (M4.sep.belowK B).hostIn cf cg; rw [M4.fr, M4.gs, l1] at this; exact this) (Nat.le_refl _) (by have := k1.n2; omega) (fun i hi => by rw [show (h1.guests.getD i noG).maps.length = 6 from (k1.six i hi).1]; omega)
  have Hown' := hidE (And.intro (fun (e : (mAt h1 g p).2.2 = true) => (show ho' = h1 by rw [Hown.out, e]; rfl)) (fun (e : (mAt h1 g p).2.2 = false) => (show ho' = bif usersH h1 (mAt h1 g p).2.1 == 1 then setM h1 g p (true, (mAt h1 g p).2.1, true) else inP (outP h1 g p) g p by rw [Hown.out, e]; rfl)))
  have hmW := hidE (fun (W : World) (kS : SepH W N A1 h1) => kS.mapW (g := g) hg1 hp true)
  rw [hm1] at e0 hmW
  obtain ⟨mf, hmf⟩ : ∃ mf, mf = (mAt h1 g p).2.1 := ⟨_, rfl⟩
  rw [← hmf] at e1 hU Hown' hmW
  obtain ⟨uu, huu⟩ : ∃ uu, uu = usersH h1 mf := ⟨_, rfl⟩
  rw [← huu] at hU Hown'
  have hM40 := HM4.out
  have HR3 := hidE R3
  clear hin1 m2 M3 M03 R3 R4 M4 p2 r2 B2 k ho P4 hmf huu Hown
  have s4' : W4.heap.size ≤ w3.heap.size ∧ w3.heap.size ≤ W4.heap.size := ⟨by omega, by omega⟩
  have HW4 := hidE hW4
  have L1 := hidE l1
  have Hm1 := hidE hm1
  clear s4 hW4 l1 hm1
  cases hmw : (mAt h1 g p).2.2
  rotate_left
  · rw [hmw] at e2
    have he := hidE (Hown'.out.1 hmw)
    obtain ⟨y0, y1, y2, d0, d1, d2⟩ := HR3.out
    have lR4 : w.heap.size + 1 < W4.heap.size := by omega
    have lR3 : w.heap.size + 1 < w3.heap.size := by omega
    clear hU Hown' hmW hM40 hmw
    go_wp2
    rw [← HW4.out]
    clear y0 y1 y2 d0 d1 d2
    obtain ⟨y0, y1, y2, d0, d1, d2⟩ := HR4.out
    refine bodyPost_ret (v := .agg #[.slice (some ⟨A .fr, 0, none⟩) 8 cf, .slice (some ⟨A .gs, 0, none⟩) n cg, .int .i64 h1.hand]) (by simp [results, Try.results71, go_sem, *]) rfl ?_
    rw [he.out]
    exact ⟨rfl, A1, ((HM4.out.off3 hAl (b := w.heap.size + 1) (by omega) (by omega) hN _ _ _).below hN ((Below.refl _ _).alloc (Nat.le_refl _) _)).weak (Nat.le_refl _) (by omega)⟩
  · rw [hmw] at e2
    have he := hidE (Hown'.out.2 hmw)
    have hout := fun (W : World) (A2 : Pl → Nat) (kS : SepH W N A2 h1) (hN2 : N ≤ W.heap.size) => outMv N A2 h1 g p n cf cg W kS (okHost_mk k1) L1.out hg hp hN2
    have k2 : OkH (outP h1 g p) := okHost_of (okHost_out (okHost_mk k1) (by rw [L1.out]; exact hg) hp)
    have hin2 := fun (W : World) (A2 : Pl → Nat) (kS : SepH W N A2 (outP h1 g p)) (hN2 : N ≤ W.heap.size) => specIn13 N A2 (outP h1 g p) g p n cf cg W kS (okHost_mk k2) (by rw [outP_len]; exact L1.out) hg hp hN2
    rw [outP_hand] at hin2
    have hB5 : Below W4.heap.size W4 (W4.alloc (.cells #[.bool true, .int .i64 mf, .bool false] 76)) := (Below.refl _ _).alloc (Nat.le_refl _) _
    have hu5 := hU _ hB5
    have HM5 := hidE (HM4.out.below hN hB5)
    have HP5 := hidE (HP4.out.same (hB5.block w.heap.size (by omega)))
    have HR5 := hidE (HR4.out.same (hB5.block (w.heap.size + 1) (by omega)))
    have hs5 : w.heap.size + 2 ≤ (W4.alloc (.cells #[.bool true, .int .i64 mf, .bool false] 76)).heap.size := by have := HM5.out.hi; exact this
    have Hout := hidE hout
    have Hin2 := hidE hin2
    have HmW := hidE hmW
    clear Hown' hmw hU hout hin2 hmW hM40 k2
    go_wp2_with (fail)
    rw [← HW4.out]
    clear HW4 HM4 HP4 HR4 HR3 pp0 pp1 pp2 ff0 ff1 ff2 q1 e0 e1 e2 lG lM nG nM nG' nM'
    generalize W4.alloc (.cells #[.bool true, .int .i64 mf, .bool false] 76) = W5 at *
    refine hu5.mono ?_
    rintro e w6 ⟨rfl, B6⟩
    have HM6 := hidE (HM5.out.below hN B6)
    have P6 := HP5.out.same (B6.block w.heap.size (by omega))
    have R6 := HR5.out.same (B6.block (w.heap.size + 1) (by omega))
    have HR6 := hidE R6
    have hs6 := HM6.out.hi
    have lH : w.heap.size < w6.heap.size := by omega
    have lR : w.heap.size + 1 < w6.heap.size := by omega
    obtain ⟨p0, p1, p3, f0, f1, f2⟩ := P6
    obtain ⟨y0, y1, y2, d0, d1, d2⟩ := R6
    clear hu5 B6 hB5 HM5 HP5 HR5
    by_cases hu1 : uu = 1
    · subst hu1
      have he' := hidE (show ho' = setM h1 g p (true, mf, true) by rw [he.out]; rfl)
      obtain ⟨⟨c1', q1⟩, _, _⟩ := (HM6.out.sep.held .gs trivial).1 g (by rw [L1.out]; exact hg)
      obtain ⟨_, hRm⟩ := HM6.out.sep.held (.maps g) (by rw [L1.out]; exact hg)
      obtain ⟨⟨v2, r2⟩, z2⟩ := hRm (p * 3 + 2) (by omega)
      rw [HM6.out.gs] at q1
      have lG := (HM6.out.sep.low .gs trivial).2
      rw [HM6.out.gs] at lG
      have lM := HM6.out.sep.low (.maps g) (by rw [L1.out]; exact hg)
      have lM2 := lM.2
      have nM := HM6.out.ne (j := w.heap.size) (by omega) (fun x hx => by have := hAl x hx; omega) (.maps g) hg
      have nR := HM6.out.ne (j := w.heap.size + 1) (by omega) (fun x hx => by have := hAl x hx; omega) (.maps g) hg
      have nM' := Ne.symm nM
      have nR' := Ne.symm nR
      have hK7 := HmW.out w6 HM6.out.sep
      have hM7 := hidE (HM6.out.put hK7 (by rw [setM_len]; exact L1.out) ((Below.refl N w6).setCell (p := ⟨A1 (.maps g), p * 3 + 2, none⟩) lM.1 _) (x0 := .maps g) hg (by simp) (fun j _ h2 => Below.heap_setCell _ _ _ _ (by simpa using h2)))
      have R7 := hidE (HR6.out.same (w' := w6.setCell ⟨A1 (.maps g), p * 3 + 2, none⟩ (.bool true)) (Below.heap_setCell _ _ _ _ (by simpa using nR')))
      clear hRm lM hK7 he
      go_wp2
      obtain ⟨W7, hW7⟩ : ∃ W7, W7 = w6.setCell ⟨A1 (.maps g), p * 3 + 2, none⟩ (.bool true) := ⟨_, rfl⟩
      rw [← hW7] at hM7 R7 ⊢
      clear hW7 y0 y1 y2 d0 d1 d2 p0 p1 p3 f0 f1 f2 q1 r2 z2
      obtain ⟨y0, y1, y2, d0, d1, d2⟩ := R7.out
      refine bodyPost_ret (v := .agg #[.slice (some ⟨A .fr, 0, none⟩) 8 cf, .slice (some ⟨A .gs, 0, none⟩) n cg, .int .i64 h1.hand]) (by simp [results, Try.results71, go_sem, *]) rfl ?_
      rw [he'.out]
      exact ⟨rfl, A1, (hM7.out.off3 hAl (b := w.heap.size + 1) (by omega) (by omega) hN _ _ _).weak (Nat.le_refl _) (by omega)⟩
    · have hne : ((uu : Int) == 1) = false := by simp; omega
      have he' := hidE (show ho' = inP (outP h1 g p) g p by rw [he.out, show (uu == 1) = false by simpa using hu1]; rfl)
      have ho6 := Hout.out w6 A1 HM6.out.sep (by have := HM6.out.size; omega)
      rw [HM6.out.fr, HM6.out.gs] at ho6
      clear he
      go_wp2_with (fail)
      refine ho6.mono ?_
      rintro e w7 ⟨rfl, A2, M7⟩
      have M07 := HM6.out.call hAl M7
      have R7 := HR6.out.same (HM6.out.own hAl M7 (Nat.le_succ _) (by omega))
      have hi7 := Hin2.out w7 A2 M7.sep (by have := M07.size; omega)
      rw [M07.fr, M07.gs] at hi7
      have HM07 := hidE M07
      have HR7 := hidE R7
      clear ho6 M7 M07 p0 p1 p3 f0 f1 f2 y0 y1 y2 d0 d1 d2 R7
      go_wp2_with (fail)
      refine hi7.mono ?_
      rintro e w8 ⟨rfl, A3, M8⟩
      have HM08 := hidE (HM07.out.call hAl M8)
      have R8 := HR7.out.same (HM07.out.own hAl M8 (Nat.le_succ _) (by omega))
      have HR8 := hidE R8
      have hs8 := HM08.out.hi
      have lR8 : w.heap.size + 1 < w8.heap.size := by omega
      obtain ⟨y0, y1, y2, d0, d1, d2⟩ := R8
      clear hi7 M8
      go_wp2
      refine bodyPost_ret (v := .agg #[.slice (some ⟨A .fr, 0, none⟩) 8 cf, .slice (some ⟨A .gs, 0, none⟩) n cg, .int .i64 (inP (outP h1 g p) g p).hand]) (by simp [results, Try.results71, go_sem, *]) rfl ?_
      rw [he'.out]
      exact ⟨rfl, A3, (HM08.out.off3 hAl (b := w.heap.size + 1) (by omega) (by omega) hN _ _ _).weak (Nat.le_refl _) (by omega)⟩
end Go.Proofs.Ytdamdjhnhkmncaa
