/-
  What the given l13In does.
-/
import Derived.Test.YtjegndgdpmlbaaaKOT
set_option linter.unusedSimpArgs false
namespace Go.Proofs.Ytjegndgdpmlbaaa
open Go.RowKit
attribute [local go_sem ↓] Go.wp_at_zero Go.wp_at_succ exec_app
attribute [local go_sem] bigNext_ok

theorem frozen_set3 {W : World} {b j i : Nat} (u : Value) (h : W.frozen? ⟨b, i, none⟩ = false) : (W.setCell ⟨b, j, none⟩ u).frozen? ⟨b, i, none⟩ = false := by rw [← h]; go_simp
theorem Var3.put2 {w : World} {b : Nat} {x y z : Value} (h : Var3 w b x y z) (u : Value) : Var3 (w.setCell ⟨b, 2, none⟩ u) b x y u := by
  obtain ⟨h0, h1, h2, f0, f1, f2⟩ := h
  exact ⟨cellk_else h0 (by decide), cellk_else h1 (by decide), cellk_same h2, frozen_set3 u f0, frozen_set3 u f1, frozen_set3 u f2⟩
theorem swap_eq (W5 : World) (R p : Nat) (v : Value) (ob : Obj) (hR : R < W5.heap.size) : ((W5.drew.setCell ⟨R, p, none⟩ v).alloc ob).drew = ((W5.alloc ob).setCell ⟨R, p, none⟩ v).drew.drew := by
  rw [World.setCell_alloc_past _ _ _ _ hR]
  rfl
/-- The page's block in the frame's place, a new page on disk: what is then in place. -/
theorem swapMv {w Wt : World} {M N n : Nat} {A A3 : Pl → Nat} {h3 : Hst} (a : Mv w Wt M N n A A3 h3) {g p F c4 : Nat} (hg : g < n) (hp : p < 6) (hF : F < 8) (hN : N ≤ w.heap.size) :
    Mv w (((Wt.setCell ⟨A3 .fr, F, none⟩ (.slice (some ⟨A3 (.dsk g p), 0, none⟩) 4 c4)).alloc (.cells (madeCells #[.int .i64 0] 4) 3)).setCell ⟨A3 (.row g), p, none⟩ (.slice (some ⟨Wt.heap.size, 0, none⟩) 4 4)) M N n A (upd (upd A3 (.page F) (A3 (.dsk g p))) (.dsk g p) Wt.heap.size) (swapH h3 g p F) := by
  have hgl := a.len
  have k := a.sep
  have hlo := a.lo
  have hhi := a.hi
  have okr : (Pl.row g).ok h3.guests.length := by rw [hgl]; exact hg
  have okd : (Pl.dsk g p).ok h3.guests.length := by rw [hgl]; exact ⟨hg, hp⟩
  have lf := k.low .fr trivial
  have lr := k.low (.row g) okr
  have ld := k.low (.dsk g p) okd
  have hne : A3 .fr ≠ A3 (.row g) := fun e => by have := k.inj .fr (.row g) trivial okr e; cases this
  have hB1 : Below N Wt (Wt.setCell ⟨A3 .fr, F, none⟩ (.slice (some ⟨A3 (.dsk g p), 0, none⟩) 4 c4)) := (Below.refl _ _).setCell (p := ⟨A3 .fr, F, none⟩) lf.1 _
  have hs1 : (Wt.setCell ⟨A3 .fr, F, none⟩ (.slice (some ⟨A3 (.dsk g p), 0, none⟩) 4 c4)).heap.size = Wt.heap.size := by simp
  have hB2 := hB1.alloc (by omega) (.cells (madeCells #[.int .i64 0] 4) 3)
  have hB3 := hB2.setCell (p := ⟨A3 (.row g), p, none⟩) lr.1 (.slice (some ⟨Wt.heap.size, 0, none⟩) 4 4)
  obtain ⟨W1, hW1⟩ : ∃ W1, W1 = Wt.setCell ⟨A3 .fr, F, none⟩ (.slice (some ⟨A3 (.dsk g p), 0, none⟩) 4 c4) := ⟨_, rfl⟩
  rw [← hW1] at hB1 hs1 hB2 hB3 ⊢
  have BA : Below W1.heap.size W1 (W1.alloc (.cells (madeCells #[.int .i64 0] 4) 3)) := (Below.refl _ _).alloc (Nat.le_refl _) _
  have blk : ∀ j, j < Wt.heap.size → j ≠ A3 .fr → j ≠ A3 (.row g) → ((W1.alloc (.cells (madeCells #[.int .i64 0] 4) 3)).setCell ⟨A3 (.row g), p, none⟩ (.slice (some ⟨Wt.heap.size, 0, none⟩) 4 4)).heap[j]? = Wt.heap[j]? := fun j h1 h2 h3 => by
    rw [Below.heap_setCell _ _ _ _ (by simpa using h3), BA.block j (by omega), hW1, Below.heap_setCell _ _ _ _ (by simpa using h2)]
  have hA : ∀ x, x.ok n → A3 x < Wt.heap.size := fun x hx => (k.low x (by rw [hgl]; exact hx)).2
  have hmade : (W1.alloc (.cells (madeCells #[.int .i64 0] 4) 3)).ownsRow W1.heap.size 3 1 (.slice (some ⟨W1.heap.size, 0, none⟩) 4 4) 4 (zv [0, 0, 0, 0]) := own_made W1 _
  have hIm := own_intsS (own_made W1 3)
  have hRm := room_made W1 #[.int .i64 0] 4 3
  rw [hs1] at hIm hRm
  have hfar : Wt.heap.size ≠ A3 (.row g) := by omega
  have sB : SameIn Wt.heap.size (Wt.heap.size + 1) (W1.alloc (.cells (madeCells #[.int .i64 0] 4) 3)) ((W1.alloc (.cells (madeCells #[.int .i64 0] 4) 3)).setCell ⟨A3 (.row g), p, none⟩ (.slice (some ⟨Wt.heap.size, 0, none⟩) 4 4)) := fun j j1 j2 => Below.heap_setCell _ _ _ _ (by simp; omega)
  have hsz : ((W1.alloc (.cells (madeCells #[.int .i64 0] 4) 3)).setCell ⟨A3 (.row g), p, none⟩ (.slice (some ⟨Wt.heap.size, 0, none⟩) 4 4)).heap.size = Wt.heap.size + 1 := by simp [hs1]
  have kN : N ≤ Wt.heap.size := by omega
  refine ⟨?_, ?_, ?_, fun x hx => ?_, ?_, by rw [swapH_len]; exact hgl, a.bel.trans hB3, fun j hj hx => ?_, hlo, by omega⟩
  · rw [upd_ne _ _ (by intro e; cases e), upd_ne _ _ (by intro e; cases e)]; exact a.fr
  · rw [upd_ne _ _ (by intro e; cases e), upd_ne _ _ (by intro e; cases e)]; exact a.gs
  · rw [upd_ne _ _ (by intro e; cases e), upd_ne _ _ (by intro e; cases e)]; exact a.rm
  · by_cases e1 : x = .dsk g p
    · rw [e1, upd_same]; exact Or.inr hhi
    · rw [upd_ne _ _ e1]
      by_cases e2 : x = .page F
      · rw [e2, upd_same]; exact a.pl (.dsk g p) ⟨hg, hp⟩
      · rw [upd_ne _ _ e2]; exact a.pl x hx
  · refine k.swap (by rw [hgl]; exact hg) hp hF (c := c4) (c2 := 4) (by omega) ⟨kN, by omega⟩ (fun x hx => by have := (k.low x hx).2; omega) (fun x hx h1 h2 => ?_) (fun i v hv hfz => ?_) (fun i v hv hfz => ?_) (hIm.same sB (Nat.le_refl _) (Nat.lt_succ_self _)) (hRm.same sB (Nat.le_refl _) (Nat.lt_succ_self _))
    · exact blk _ (k.low x hx).2 (fun e => h1 (k.inj x .fr hx trivial e)) (fun e => h2 (k.inj x (.row g) hx okr e))
    · have q1 : W1.cell? ⟨A3 .fr, i, none⟩ = some (if i = F then .slice (some ⟨A3 (.dsk g p), 0, none⟩) 4 c4 else v) := by rw [hW1]; exact cell_put hv
      have f1 : W1.frozen? ⟨A3 .fr, i, none⟩ = false := by rw [hW1]; exact frozen_set3 _ hfz
      have e : ((W1.alloc (.cells (madeCells #[.int .i64 0] 4) 3)).setCell ⟨A3 (.row g), p, none⟩ (.slice (some ⟨Wt.heap.size, 0, none⟩) 4 4)).heap[A3 .fr]? = W1.heap[A3 .fr]? := by
        rw [Below.heap_setCell _ _ _ _ (by simpa using hne), BA.block _ (by omega)]
      exact ⟨(World.cell?_of_block (a := ⟨A3 .fr, i, none⟩) e).trans q1, (World.frozen?_of_block (a := ⟨A3 .fr, i, none⟩) e).trans f1⟩
    · have eW : W1.heap[A3 (.row g)]? = Wt.heap[A3 (.row g)]? := by rw [hW1, Below.heap_setCell _ _ _ _ (by simpa using Ne.symm hne)]
      have e : (W1.alloc (.cells (madeCells #[.int .i64 0] 4) 3)).heap[A3 (.row g)]? = Wt.heap[A3 (.row g)]? := (BA.block _ (by omega)).trans eW
      have q1 := (World.cell?_of_block (a := ⟨A3 (.row g), i, none⟩) e).trans hv
      have f1 := (World.frozen?_of_block (a := ⟨A3 (.row g), i, none⟩) e).trans hfz
      exact ⟨cell_put q1, frozen_set3 _ f1⟩
  · rw [blk j (by omega) (fun e => a.ne (by omega) hx .fr trivial e.symm) (fun e => a.ne (by omega) hx (.row g) hg e.symm)]
    exact a.keep j hj hx

set_option maxRecDepth 100000 in
set_option maxHeartbeats 8000000 in
theorem specIn13 (N : Nat) (A : Pl → Nat) (h : Hst) (g p : Nat) (n cf cg : Nat) (w : World) (k : SepH w N A h) (ho : okHost h = true) (hn : h.guests.length = n) (hg : g < n) (hp : p < 6) (hN : N ≤ w.heap.size) :
    Calls Try.prog 66 #[.agg #[.slice (some ⟨A .fr, 0, none⟩) 8 cf, .slice (some ⟨A .gs, 0, none⟩) n cg, .int .i64 h.hand], .int .i64 g, .int .i64 p] w fun e w' => e = .returned (.agg #[.slice (some ⟨A .fr, 0, none⟩) 8 cf, .slice (some ⟨A .gs, 0, none⟩) n cg, .int .i64 (inP h g p).hand]) ∧ ∃ A', Mv w w' w.heap.size N n A A' (inP h g p) := by
  obtain ⟨W2, hW2⟩ : ∃ W2, W2 = (w.alloc (.cells #[.slice (some ⟨A .fr, 0, none⟩) 8 cf, .slice (some ⟨A .gs, 0, none⟩) n cg, .int .i64 h.hand] 26)).alloc (.cells #[.slice none 0 0, .slice none 0 0, .int .i64 0] 26) := ⟨_, rfl⟩
  have B2 : Below w.heap.size w W2 := by rw [hW2]; exact ((Below.refl _ _).alloc (Nat.le_refl _) _).alloc (by simp) _
  have s2 : W2.heap.size ≤ w.heap.size + 2 ∧ w.heap.size + 2 ≤ W2.heap.size := by rw [hW2]; simp
  have p2 : Var3 W2 w.heap.size (.slice (some ⟨A .fr, 0, none⟩) 8 cf) (.slice (some ⟨A .gs, 0, none⟩) n cg) (.int .i64 h.hand) := by rw [hW2]; exact (var3_new w _ _ _ _).allocK _
  have r2 : Var3 W2 (w.heap.size + 1) (.slice none 0 0) (.slice none 0 0) (.int .i64 0) := by rw [hW2]; exact var3_newK (by simp)
  have hAl : ∀ x, x.ok n → A x < w.heap.size := fun x hx => (k.low x (by rw [hn]; exact hx)).2
  have m2 : Mv w W2 (w.heap.size + 2) N n A A h := Mv.start k hn B2 hN (Nat.le_add_right _ _) s2.2
  have kk := okHost_of ho
  have hg' : g < h.guests.length := by omega
  obtain ⟨⟨c1, q1⟩, _, _⟩ := (k.held .gs trivial).1 g hg'
  obtain ⟨e0, e1, e2⟩ := (k.held (.maps g) hg').1 p (by rw [(k.sz g hg').1]; exact hp)
  rw [Nat.zero_add, show ((false, 0, false) : E3) = noM from rfl] at e0
  have lG : A .gs < w.heap.size := (k.low .gs trivial).2
  have lM : A (.maps g) < w.heap.size := (k.low (.maps g) hg').2
  have lG1 : A .gs < w.heap.size + 1 := by omega
  have lM1 : A (.maps g) < w.heap.size + 1 := by omega
  have lP : w.heap.size < W2.heap.size := by omega
  have lR : w.heap.size + 1 < W2.heap.size := by omega
  obtain ⟨p0, p1, p3, f0, f1, f2⟩ := p2
  have hgi : (g : Int) < (n : Int) := by omega
  have hpi : (p : Int) < 6 := by omega
  cases hin : ((gOf h g).maps.getD p noM).1
  rotate_left
  · have hR : inP h g p = h := by rw [inP, hin]; rfl
    rw [hin] at e0
    obtain ⟨z0, z1, z2, d0, d1, d2⟩ := r2
    have hK := hidE k
    have HR := hidE hR
    clear hR m2 k B2
    go_enter Try.func66, Try.ntmps66
    go_wp2
    subst hW2
    refine bodyPost_ret (v := .agg #[.slice (some ⟨A .fr, 0, none⟩) 8 cf, .slice (some ⟨A .gs, 0, none⟩) n cg, .int .i64 h.hand]) (by simp [results, Try.results66, go_sem, *]) rfl ?_
    rw [HR.out]
    have BB : Below w.heap.size w ((w.alloc (.cells #[.slice (some ⟨A .fr, 0, none⟩) 8 cf, .slice (some ⟨A .gs, 0, none⟩) n cg, .int .i64 h.hand] 26)).alloc (.cells #[.slice (some ⟨A .fr, 0, none⟩) 8 cf, .slice (some ⟨A .gs, 0, none⟩) n cg, .int .i64 h.hand] 26)) := ((Below.refl _ _).alloc (Nat.le_refl _) _).alloc (by simp) _
    exact ⟨rfl, A, Mv.start hK.out hn BB hN (Nat.le_refl _) BB.size⟩
  rw [hin] at e0
  have hR : inP h g p = bringH (roomH h) g p (roomF h) := by rw [inP, hin]; rfl
  have hHd : (inP h g p).hand = (roomH h).hand := by rw [hR]; rfl
  have hmo := room_out kk hg' hp hin
  obtain ⟨i1, i2, i3, i4, i5, i6, i7, i8, _⟩ := room_ok kk
  have hfst := specFirst N W2.heap.size _ _ cf n cg h W2 (by rw [← hn]; exact m2.sep.hostIn cf cg) (Nat.le_refl _) kk.n2 (fun g hg => (kk.six g hg).1)
  have hclr := fun (W : World) (A1 : Pl → Nat) (k1 : SepH W N A1 h) (hN1 : N ≤ W.heap.size) => clearMv N A1 (setHand h (nextHand h.hand)) h.hand n cf cg W (k1.hand _) (okHost_mk (okH_hand kk (nextHand_ok kk).1 (nextHand_ok kk).2)) hn hN1
  have h0 := kk.h0
  have h7 := kk.h7
  have Hfin := hidE (And.intro hR (And.intro hmo (And.intro i2 (And.intro i1.six (And.intro i1.f8 i4)))))
  have hrm : ((firstH h = -1 ∧ roomH h = clrH (setHand h (nextHand h.hand)) h.hand n) ∧ (roomF h : Int) = h.hand ∧ (roomH h).hand = nextHand h.hand) ∨ (∃ r : Nat, r < 8 ∧ (firstH h = (r : Int) ∧ roomH h = h) ∧ roomF h = r ∧ (roomH h).hand = h.hand) := by
    rcases firstH_cases h with ⟨e, _⟩ | ⟨r, e, hr, _, _⟩
    · refine Or.inl ⟨⟨e, ?_⟩, ?_, by rw [i7, if_pos (by omega)]⟩
      · rw [roomH, e, show decide ((-1 : Int) < 0) = true from rfl, cond_true, hn]
      · rw [roomF, e, show decide ((-1 : Int) < 0) = true from rfl, cond_true]
        omega
    · have hd : decide ((r : Int) < 0) = false := by simp
      exact Or.inr ⟨r, hr, ⟨e, by rw [roomH, e, hd]; rfl⟩, by rw [roomF, e, hd, cond_false, Int.toNat_natCast], by rw [i7, if_neg (by omega)]⟩
  have hHa : ∀ z, (setHand h z).hand = z := fun _ => rfl
  rw [hHa] at hclr
  have Hclr := hidE hclr
  have HHd := hidE hHd
  have HHd' := hidE (show nextHand h.hand = nextHand h.hand from rfl)
  generalize hF : roomF h = F at *
  generalize roomH h = h3 at *
  clear hR hmo i1 i2 i3 i4 i5 i6 i7 i8 hclr hHd ho k
  go_enter Try.func66, Try.ntmps66
  go_wp2_with (fail)
  rw [← hW2]
  clear hW2
  refine hfst.mono ?_
  rintro e w3 ⟨rfl, B3⟩
  have s3 := B3.size
  have M3 := hidE (m2.below hN B3)
  have P3 := hidE ((show Var3 W2 w.heap.size (.slice (some ⟨A .fr, 0, none⟩) 8 cf) (.slice (some ⟨A .gs, 0, none⟩) n cg) (.int .i64 h.hand) from ⟨p0, p1, p3, f0, f1, f2⟩).same (B3.block _ lP))
  have R3 := hidE (r2.same (B3.block _ lR))
  have L3 : w.heap.size + 2 ≤ w3.heap.size := by omega
  clear hfst m2 r2 p0 p1 p3 f0 f1 f2 e0 e1 e2 q1 B3 B2 lG lM lG1 lM1 lP lR
  have hnx : nextHand h.hand = (h.hand + 1) % 8 := rfl
  have hF8 := Hfin.out.2.2.2.2.2
  have hFi : (F : Int) < 8 := by omega
  have h0F : (0 : Int) ≤ (F : Int) := Int.natCast_nonneg _
  have key : ∃ Wz, Wz = w3 := ⟨_, rfl⟩
  rcases hrm with ⟨⟨e1, e2⟩, e3, e4⟩ | ⟨r, hr, ⟨e1, e2⟩, e3, e4⟩
  · rw [e1]
    obtain ⟨p0, p1, p3, f0, f1, f2⟩ := P3.out
    have lP : w.heap.size < w3.heap.size := by omega
    have E3 := hidE e3
    have P4 := P3.out.put2 (.int .i64 (nextHand h.hand))
    have M4 := M3.out.off hAl (b := w.heap.size) (i := 2) (Nat.le_refl _) (by omega) hN (.int .i64 (nextHand h.hand))
    have R4 := R3.out.same (w' := w3.setCell ⟨w.heap.size, 2, none⟩ (.int .i64 (nextHand h.hand))) (Below.heap_setCell _ _ _ _ (by simp))
    rw [hnx] at P4 M4 R4
    have s4 : (w3.setCell ⟨w.heap.size, 2, none⟩ (.int .i64 ((h.hand + 1) % 8))).heap.size = w3.heap.size := by simp
    have hcl := Hclr.out _ A M4.sep (by rw [s4]; omega)
    rw [hnx] at hcl e2
    rw [← e2] at hcl
    clear e1 e2 e3 M3 P3 R3
    go_wp2_with (fail)
    refine hcl.mono ?_
    rintro e w5 ⟨rfl, A3, M5⟩
    have HM5 := hidE (M4.call hAl M5)
    have P5 := P4.same (M4.own hAl M5 (Nat.le_refl _) (by omega))
    have R5 := hidE (R4.same (M4.own hAl M5 (Nat.le_succ _) (by omega)))
    have s5 := M5.size
    have HP5 := hidE P5
    obtain ⟨p0, p1, p3, f0, f1, f2⟩ := P5
    have lP : w.heap.size < w5.heap.size := by omega
    clear hcl M4 P4 R4 M5
    rw [← E3.out]
    have E4 := hidE (show h3.hand = ((F : Int) + 1) % 8 by rw [e4, hnx, E3.out])
    clear e4
    go_wp2_with (fail)
    obtain ⟨Wt, hWt⟩ : ∃ Wt, Wt = ((w5.setCell ⟨w.heap.size, 0, none⟩ (.slice (some ⟨A .fr, 0, none⟩) 8 cf)).setCell ⟨w.heap.size, 1, none⟩ (.slice (some ⟨A .gs, 0, none⟩) n cg)).setCell ⟨w.heap.size, 2, none⟩ (.int .i64 (((F : Int) + 1) % 8)) := ⟨_, rfl⟩
    have HM := HM5.out.off3 hAl (b := w.heap.size) (Nat.le_refl _) (by omega) hN (.slice (some ⟨A .fr, 0, none⟩) 8 cf) (.slice (some ⟨A .gs, 0, none⟩) n cg) (.int .i64 (((F : Int) + 1) % 8))
    have HP := HP5.out.putAll (.slice (some ⟨A .fr, 0, none⟩) 8 cf) (.slice (some ⟨A .gs, 0, none⟩) n cg) (.int .i64 (((F : Int) + 1) % 8))
    have HR := R5.out.same (w' := Wt) (by rw [hWt, Below.heap_setCell _ _ _ _ (by simp), Below.heap_setCell _ _ _ _ (by simp), Below.heap_setCell _ _ _ _ (by simp)])
    rw [← hWt] at HM HP ⊢
    rw [← E4.out] at HP
    clear hWt HM5 HP5 R5 p0 p1 p3 f0 f1 f2
    have kS := HM.sep
    have hgl := HM.len
    have okr : (Pl.row g).ok h3.guests.length := by rw [hgl]; exact hg
    have okd : (Pl.dsk g p).ok h3.guests.length := by rw [hgl]; exact ⟨hg, hp⟩
    have okm : (Pl.maps g).ok h3.guests.length := by rw [hgl]; exact hg
    obtain ⟨_, ⟨c2, q2⟩, _⟩ := (kS.held .gs trivial).1 g (by rw [hgl]; exact hg)
    obtain ⟨⟨c4, q4⟩, z4⟩ := kS.held (.row g) okr p hp
    obtain ⟨⟨c5, q5⟩, z5⟩ := kS.held .fr trivial F hF8
    have hSw := swapMv (c4 := c4) HM hg hp hF8 hN
    have lG := (kS.low .gs trivial).2
    have lF := (kS.low .fr trivial).2
    have lW := (kS.low (.row g) okr).2
    have nGF : A3 .gs ≠ A3 .fr := fun e => by have := kS.inj .gs .fr trivial trivial e; cases this
    have nWF : A3 (.row g) ≠ A3 .fr := fun e => by have := kS.inj (.row g) .fr okr trivial e; cases this
    have nGW : A3 .gs ≠ A3 (.row g) := fun e => by have := kS.inj .gs (.row g) trivial okr e; cases this
    rw [HM.gs] at q2 lG nGF nGW
    rw [HM.fr] at q5 z5 lF nGF nWF hSw
    have lA := hAl .fr trivial
    have lB := hAl .gs trivial
    have nW1 : A3 (.row g) ≠ w.heap.size := HM.ne (by omega) (fun x hx => by have := hAl x hx; omega) (.row g) hg
    have nW2 : A3 (.row g) ≠ w.heap.size + 1 := HM.ne (by omega) (fun x hx => by have := hAl x hx; omega) (.row g) hg
    obtain ⟨p0, p1, p3, f0, f1, f2⟩ := HP
    have lt0 := HM.hi
    have lP : w.heap.size < Wt.heap.size := by omega
    obtain ⟨W5, hW5⟩ : ∃ W5, W5 = Wt.setCell ⟨A .fr, F, none⟩ (.slice (some ⟨A3 (.dsk g p), 0, none⟩) 4 c4) := ⟨_, rfl⟩
    rw [← hW5] at hSw
    have P5 : Var3 W5 w.heap.size (.slice (some ⟨A .fr, 0, none⟩) 8 cf) (.slice (some ⟨A .gs, 0, none⟩) n cg) (.int .i64 h3.hand) := Var3.same ⟨p0, p1, p3, f0, f1, f2⟩ (by rw [hW5, Below.heap_setCell _ _ _ _ (by simp; omega)])
    have R5 := HR.same (w' := W5) (by rw [hW5, Below.heap_setCell _ _ _ _ (by simp; omega)])
    have s5 : W5.heap.size = Wt.heap.size := by rw [hW5]; simp
    have q2' : W5.cell? ⟨A .gs, g * 3 + 1, none⟩ = some (.slice (some ⟨A3 (.row g), 0, none⟩) 6 c2) := by rw [hW5]; exact cellk_offK q2 nGF
    have q4' : W5.cell? ⟨A3 (.row g), p, none⟩ = some (.slice (some ⟨A3 (.dsk g p), 0, none⟩) 4 c4) := by rw [hW5]; exact cellk_offK q4 nWF
    have z4' : W5.frozen? ⟨A3 (.row g), p, none⟩ = false := by rw [hW5]; exact (World.frozen?_of_block (a := ⟨A3 (.row g), p, none⟩) (Below.heap_setCell _ _ _ _ (by simpa using nWF))).trans z4
    have HSw := hidE hSw
    have HR5 := hidE R5
    have HP5 := hidE P5
    have HM0 := hidE HM
    have Hne := hidE (And.intro nGW (And.intro nW1 nW2))
    clear hSw R5 HR HM kS z4 nGF nWF nGW nW1 nW2 P5
    go_cut [7] (fun s wx => s = .int .i64 F ∧ wx = W5.drew)
    case first =>
      go_region_with (fail)
      all_goals go_wp2_with fail
      all_goals go_meet
      all_goals exact ⟨rfl, by rw [hW5]⟩
    case rest =>
      obtain ⟨rfl, hwc⟩ := hcut
      clear hW5 q2 q4 q5 z5 p0 p1 p3 f0 f1 f2
      have hB6 : Below W5.heap.size W5 wc := by rw [hwc]; exact (Below.refl _ _).drew
      have s6 : wc.heap.size = W5.heap.size := by rw [hwc]; rfl
      obtain ⟨p0, p1, p3, f0, f1, f2⟩ := HP5.out.same (hB6.block _ (by omega))
      have q2 := (hB6.cell (p := ⟨A .gs, g * 3 + 1, none⟩) (by show A .gs < _; omega)).trans q2'
      have q4 := (hB6.cell (p := ⟨A3 (.row g), p, none⟩) (by show A3 (.row g) < _; omega)).trans q4'
      have z4 := (hB6.frozen (p := ⟨A3 (.row g), p, none⟩) (by show A3 (.row g) < _; omega)).trans z4'
      clear q2' q4' z4'
      have lPc : w.heap.size < wc.heap.size := by omega
      have lGc : A .gs < wc.heap.size := by omega
      have lWc : A3 (.row g) < wc.heap.size := by omega
      have hwcD := hidE hwc
      have hs5 := hidE (show wc.heap.size = Wt.heap.size by omega)
      have hEq : ((wc.setCell ⟨A3 (.row g), p, none⟩ (.slice (some ⟨wc.heap.size, 0, none⟩) 4 4)).alloc (.cells (madeCells #[.int .i64 0] 4) 3)).drew = ((W5.alloc (.cells (madeCells #[.int .i64 0] 4) 3)).setCell ⟨A3 (.row g), p, none⟩ (.slice (some ⟨Wt.heap.size, 0, none⟩) 4 4)).drew.drew := by
        rw [show wc.heap.size = Wt.heap.size by omega, hwc]
        exact swap_eq W5 _ _ _ _ (by omega)
      have HM7 := HSw.out.below hN ((Below.refl _ _).drew.drew)
      rw [← hEq] at HM7
      obtain ⟨A4, hA4⟩ : ∃ A4, A4 = upd (upd A3 (.page F) (A3 (.dsk g p))) (.dsk g p) Wt.heap.size := ⟨_, rfl⟩
      rw [← hA4] at HM7
      have HM7 := hidE HM7
      have hs5 := hidE (show wc.heap.size = Wt.heap.size by omega)
      have HPc := hidE (show Var3 wc w.heap.size (.slice (some ⟨A .fr, 0, none⟩) 8 cf) (.slice (some ⟨A .gs, 0, none⟩) n cg) (.int .i64 h3.hand) from ⟨p0, p1, p3, f0, f1, f2⟩)
      have HRc := hidE (HR5.out.same (hB6.block _ (by omega)))
      clear hwc hB6 s6 s5 hEq hA4 HSw HP5 HR5
      generalize wc = Wm at *
      go_wp2_with (fail)
      go_cut [7] (fun s wx => s = .int .i64 F ∧ wx = ((Wm.setCell ⟨A3 (.row g), p, none⟩ (.slice (some ⟨Wm.heap.size, 0, none⟩) 4 4)).alloc (.cells (madeCells #[.int .i64 0] 4) 3)).drew)
      case first =>
        go_region_with (go_at_call 91; refine (specPage _).mono ?_; rintro e w' ⟨rfl, rfl⟩)
        all_goals go_wp2_with fail
        all_goals go_meet
        all_goals exact ⟨rfl, rfl⟩
      case rest =>
        obtain ⟨rfl, hwx⟩ := hcut
        have hM7 := HM7.out
        obtain ⟨_, nw1, nw2⟩ := Hne.out
        have e7 : ∀ j, j < Wm.heap.size → j ≠ A3 (.row g) → wc.heap[j]? = Wm.heap[j]? := fun j h1 h2 => by
          rw [hwx, show ∀ V : World, V.drew.heap = V.heap from fun _ => rfl, ((Below.refl Wm.heap.size _).alloc (by simp) _).block j h1, Below.heap_setCell _ _ _ _ (by simpa using h2)]
        rw [← hwx] at hM7
        have hs5' := hs5.out
        have P7 := HPc.out.same (e7 w.heap.size (by omega) (Ne.symm nw1))
        have R7 := HRc.out.same (e7 (w.heap.size + 1) (by omega) (Ne.symm nw2))
        have kS7 := hM7.sep
        have hln7 := hM7.len
        have hg7 : g < (swapH h3 g p F).guests.length := by rw [hln7]; exact hg
        obtain ⟨⟨c7, q7⟩, _, _⟩ := (kS7.held .gs trivial).1 g hg7
        obtain ⟨_, hRm⟩ := kS7.held (.maps g) hg7
        obtain ⟨⟨v0, r0⟩, z0⟩ := hRm (p * 3) (by omega)
        obtain ⟨⟨v1, r1⟩, z1⟩ := hRm (p * 3 + 1) (by omega)
        obtain ⟨⟨v2, r2⟩, z2⟩ := hRm (p * 3 + 2) (by omega)
        have lm7 := kS7.low (.maps g) hg7
        have lg7 := kS7.low .gs trivial
        have nM1 : A4 (.maps g) ≠ w.heap.size := hM7.ne (by omega) (fun x hx => by have := hAl x hx; omega) (.maps g) hg
        have nM2 : A4 (.maps g) ≠ w.heap.size + 1 := hM7.ne (by omega) (fun x hx => by have := hAl x hx; omega) (.maps g) hg
        have hK8 := kS7.map hg7 hp (inM F)
        rw [hM7.gs] at q7 lg7
        obtain ⟨W8, hW8⟩ : ∃ W8, W8 = ((wc.setCell ⟨A4 (.maps g), p * 3, none⟩ (.bool true)).setCell ⟨A4 (.maps g), p * 3 + 1, none⟩ (.int .i64 F)).setCell ⟨A4 (.maps g), p * 3 + 2, none⟩ (.bool true) := ⟨_, rfl⟩
        rw [show ((wc.setCell ⟨A4 (.maps g), p * 3, none⟩ (.bool (inM F).1)).setCell ⟨A4 (.maps g), p * 3 + 1, none⟩ (.int .i64 (inM F).2.1)).setCell ⟨A4 (.maps g), p * 3 + 2, none⟩ (.bool (inM F).2.2) = W8 from hW8.symm] at hK8
        have e8 : ∀ j, j ≠ A4 (.maps g) → W8.heap[j]? = wc.heap[j]? := fun j h2 => by rw [hW8, Below.heap_setCell _ _ _ _ (by simpa using h2), Below.heap_setCell _ _ _ _ (by simpa using h2), Below.heap_setCell _ _ _ _ (by simpa using h2)]
        have s8 : W8.heap.size = wc.heap.size := by rw [hW8]; simp
        have B8 : Below N wc W8 := by rw [hW8]; exact (((Below.refl N wc).setCell (p := ⟨A4 (.maps g), p * 3, none⟩) lm7.1 _).setCell (p := ⟨A4 (.maps g), p * 3 + 1, none⟩) lm7.1 _).setCell (p := ⟨A4 (.maps g), p * 3 + 2, none⟩) lm7.1 _
        have hM8 := hM7.put hK8 (by rw [setG_len]; exact hln7) B8 (x0 := .maps g) hg (by omega) (fun j _ h2 => e8 j h2)
        have HR8 := hidE (R7.same (e8 _ (Ne.symm nM2)))
        obtain ⟨p0, p1, p3, f0, f1, f2⟩ := P7
        obtain ⟨y0, y1, y2, d0, d1, d2⟩ := R7
        have HM8 := hidE hM8
        have lR7 : w.heap.size + 1 < wc.heap.size := by have := hM7.hi; omega
        have hi7 := hM7.hi
        have lP7 : w.heap.size < wc.heap.size := by omega
        have lm : A4 (.maps g) < wc.heap.size := lm7.2
        have lgs : A .gs < wc.heap.size := lg7.2
        clear hM8 hK8 kS7 hM7 HM7 hwx e7 e8 HPc HRc lt0 nw1 nw2 lm7 lg7 hRm
        have nM1' := Ne.symm nM1
        have nM2' := Ne.symm nM2
        go_wp2
        rw [← hW8]
        clear hW8 y0 y1 y2 d0 d1 d2 p0 p1 p3 f0 f1 f2
        obtain ⟨y0, y1, y2, d0, d1, d2⟩ := HR8.out
        refine bodyPost_ret (v := .agg #[.slice (some ⟨A .fr, 0, none⟩) 8 cf, .slice (some ⟨A .gs, 0, none⟩) n cg, .int .i64 h3.hand]) (by simp [results, Try.results66, go_sem, *]) rfl ?_
        obtain ⟨hR, _⟩ := Hfin.out
        rw [HHd.out, hR]
        exact ⟨rfl, A4, (HM8.out.off3 hAl (b := w.heap.size + 1) (by omega) (by omega) hN _ _ _).weak (Nat.le_refl _) (by omega)⟩
  · rw [e1]
    subst e3
    have E4 := hidE e4
    have E2 := hidE e2
    obtain ⟨p0, p1, p3, f0, f1, f2⟩ := P3.out
    have lP : w.heap.size < w3.heap.size := by omega
    clear e1 e2 e4
    go_wp2_with (fail)
    have HM := M3.out
    have HP := P3.out
    have HR := R3.out
    rw [← E2.out] at HM
    rw [← E4.out] at HP
    clear M3 P3 R3 p0 p1 p3 f0 f1 f2
    generalize w3 = Wt at *
    have kS := HM.sep
    have hgl := HM.len
    have okr : (Pl.row g).ok h3.guests.length := by rw [hgl]; exact hg
    have okd : (Pl.dsk g p).ok h3.guests.length := by rw [hgl]; exact ⟨hg, hp⟩
    have okm : (Pl.maps g).ok h3.guests.length := by rw [hgl]; exact hg
    obtain ⟨_, ⟨c2, q2⟩, _⟩ := (kS.held .gs trivial).1 g (by rw [hgl]; exact hg)
    obtain ⟨⟨c4, q4⟩, z4⟩ := kS.held (.row g) okr p hp
    obtain ⟨⟨c5, q5⟩, z5⟩ := kS.held .fr trivial F hF8
    have hSw := swapMv (c4 := c4) HM hg hp hF8 hN
    have lG := (kS.low .gs trivial).2
    have lF := (kS.low .fr trivial).2
    have lW := (kS.low (.row g) okr).2
    have nGF : A .gs ≠ A .fr := fun e => by have := kS.inj .gs .fr trivial trivial e; cases this
    have nWF : A (.row g) ≠ A .fr := fun e => by have := kS.inj (.row g) .fr okr trivial e; cases this
    have nGW : A .gs ≠ A (.row g) := fun e => by have := kS.inj .gs (.row g) trivial okr e; cases this
    rw [HM.gs] at q2 lG nGF nGW
    rw [HM.fr] at q5 z5 lF nGF nWF hSw
    have lA := hAl .fr trivial
    have lB := hAl .gs trivial
    have nW1 : A (.row g) ≠ w.heap.size := HM.ne (by omega) (fun x hx => by have := hAl x hx; omega) (.row g) hg
    have nW2 : A (.row g) ≠ w.heap.size + 1 := HM.ne (by omega) (fun x hx => by have := hAl x hx; omega) (.row g) hg
    obtain ⟨p0, p1, p3, f0, f1, f2⟩ := HP
    have lt0 := HM.hi
    have lP : w.heap.size < Wt.heap.size := by omega
    obtain ⟨W5, hW5⟩ : ∃ W5, W5 = Wt.setCell ⟨A .fr, F, none⟩ (.slice (some ⟨A (.dsk g p), 0, none⟩) 4 c4) := ⟨_, rfl⟩
    rw [← hW5] at hSw
    have P5 : Var3 W5 w.heap.size (.slice (some ⟨A .fr, 0, none⟩) 8 cf) (.slice (some ⟨A .gs, 0, none⟩) n cg) (.int .i64 h3.hand) := Var3.same ⟨p0, p1, p3, f0, f1, f2⟩ (by rw [hW5, Below.heap_setCell _ _ _ _ (by simp; omega)])
    have R5 := HR.same (w' := W5) (by rw [hW5, Below.heap_setCell _ _ _ _ (by simp; omega)])
    have s5 : W5.heap.size = Wt.heap.size := by rw [hW5]; simp
    have q2' : W5.cell? ⟨A .gs, g * 3 + 1, none⟩ = some (.slice (some ⟨A (.row g), 0, none⟩) 6 c2) := by rw [hW5]; exact cellk_offK q2 nGF
    have q4' : W5.cell? ⟨A (.row g), p, none⟩ = some (.slice (some ⟨A (.dsk g p), 0, none⟩) 4 c4) := by rw [hW5]; exact cellk_offK q4 nWF
    have z4' : W5.frozen? ⟨A (.row g), p, none⟩ = false := by rw [hW5]; exact (World.frozen?_of_block (a := ⟨A (.row g), p, none⟩) (Below.heap_setCell _ _ _ _ (by simpa using nWF))).trans z4
    have HSw := hidE hSw
    have HR5 := hidE R5
    have HP5 := hidE P5
    have HM0 := hidE HM
    have Hne := hidE (And.intro nGW (And.intro nW1 nW2))
    clear hSw R5 HR HM kS z4 nGF nWF nGW nW1 nW2 P5
    go_cut [7] (fun s wx => s = .int .i64 F ∧ wx = W5.drew)
    case first =>
      go_region_with (fail)
      all_goals go_wp2_with fail
      all_goals go_meet
      all_goals exact ⟨rfl, by rw [hW5]⟩
    case rest =>
      obtain ⟨rfl, hwc⟩ := hcut
      clear hW5 q2 q4 q5 z5 p0 p1 p3 f0 f1 f2
      have hB6 : Below W5.heap.size W5 wc := by rw [hwc]; exact (Below.refl _ _).drew
      have s6 : wc.heap.size = W5.heap.size := by rw [hwc]; rfl
      obtain ⟨p0, p1, p3, f0, f1, f2⟩ := HP5.out.same (hB6.block _ (by omega))
      have q2 := (hB6.cell (p := ⟨A .gs, g * 3 + 1, none⟩) (by show A .gs < _; omega)).trans q2'
      have q4 := (hB6.cell (p := ⟨A (.row g), p, none⟩) (by show A (.row g) < _; omega)).trans q4'
      have z4 := (hB6.frozen (p := ⟨A (.row g), p, none⟩) (by show A (.row g) < _; omega)).trans z4'
      clear q2' q4' z4'
      have lPc : w.heap.size < wc.heap.size := by omega
      have lGc : A .gs < wc.heap.size := by omega
      have lWc : A (.row g) < wc.heap.size := by omega
      have hwcD := hidE hwc
      have hs5 := hidE (show wc.heap.size = Wt.heap.size by omega)
      have hEq : ((wc.setCell ⟨A (.row g), p, none⟩ (.slice (some ⟨wc.heap.size, 0, none⟩) 4 4)).alloc (.cells (madeCells #[.int .i64 0] 4) 3)).drew = ((W5.alloc (.cells (madeCells #[.int .i64 0] 4) 3)).setCell ⟨A (.row g), p, none⟩ (.slice (some ⟨Wt.heap.size, 0, none⟩) 4 4)).drew.drew := by
        rw [show wc.heap.size = Wt.heap.size by omega, hwc]
        exact swap_eq W5 _ _ _ _ (by omega)
      have HM7 := HSw.out.below hN ((Below.refl _ _).drew.drew)
      rw [← hEq] at HM7
      obtain ⟨A4, hA4⟩ : ∃ A4, A4 = upd (upd A (.page F) (A (.dsk g p))) (.dsk g p) Wt.heap.size := ⟨_, rfl⟩
      rw [← hA4] at HM7
      have HM7 := hidE HM7
      have hs5 := hidE (show wc.heap.size = Wt.heap.size by omega)
      have HPc := hidE (show Var3 wc w.heap.size (.slice (some ⟨A .fr, 0, none⟩) 8 cf) (.slice (some ⟨A .gs, 0, none⟩) n cg) (.int .i64 h3.hand) from ⟨p0, p1, p3, f0, f1, f2⟩)
      have HRc := hidE (HR5.out.same (hB6.block _ (by omega)))
      clear hwc hB6 s6 s5 hEq hA4 HSw HP5 HR5
      generalize wc = Wm at *
      go_wp2_with (fail)
      go_cut [7] (fun s wx => s = .int .i64 F ∧ wx = ((Wm.setCell ⟨A (.row g), p, none⟩ (.slice (some ⟨Wm.heap.size, 0, none⟩) 4 4)).alloc (.cells (madeCells #[.int .i64 0] 4) 3)).drew)
      case first =>
        go_region_with (go_at_call 91; refine (specPage _).mono ?_; rintro e w' ⟨rfl, rfl⟩)
        all_goals go_wp2_with fail
        all_goals go_meet
        all_goals exact ⟨rfl, rfl⟩
      case rest =>
        obtain ⟨rfl, hwx⟩ := hcut
        have hM7 := HM7.out
        obtain ⟨_, nw1, nw2⟩ := Hne.out
        have e7 : ∀ j, j < Wm.heap.size → j ≠ A (.row g) → wc.heap[j]? = Wm.heap[j]? := fun j h1 h2 => by
          rw [hwx, show ∀ V : World, V.drew.heap = V.heap from fun _ => rfl, ((Below.refl Wm.heap.size _).alloc (by simp) _).block j h1, Below.heap_setCell _ _ _ _ (by simpa using h2)]
        rw [← hwx] at hM7
        have hs5' := hs5.out
        have P7 := HPc.out.same (e7 w.heap.size (by omega) (Ne.symm nw1))
        have R7 := HRc.out.same (e7 (w.heap.size + 1) (by omega) (Ne.symm nw2))
        have kS7 := hM7.sep
        have hln7 := hM7.len
        have hg7 : g < (swapH h3 g p F).guests.length := by rw [hln7]; exact hg
        obtain ⟨⟨c7, q7⟩, _, _⟩ := (kS7.held .gs trivial).1 g hg7
        obtain ⟨_, hRm⟩ := kS7.held (.maps g) hg7
        obtain ⟨⟨v0, r0⟩, z0⟩ := hRm (p * 3) (by omega)
        obtain ⟨⟨v1, r1⟩, z1⟩ := hRm (p * 3 + 1) (by omega)
        obtain ⟨⟨v2, r2⟩, z2⟩ := hRm (p * 3 + 2) (by omega)
        have lm7 := kS7.low (.maps g) hg7
        have lg7 := kS7.low .gs trivial
        have nM1 : A4 (.maps g) ≠ w.heap.size := hM7.ne (by omega) (fun x hx => by have := hAl x hx; omega) (.maps g) hg
        have nM2 : A4 (.maps g) ≠ w.heap.size + 1 := hM7.ne (by omega) (fun x hx => by have := hAl x hx; omega) (.maps g) hg
        have hK8 := kS7.map hg7 hp (inM F)
        rw [hM7.gs] at q7 lg7
        obtain ⟨W8, hW8⟩ : ∃ W8, W8 = ((wc.setCell ⟨A4 (.maps g), p * 3, none⟩ (.bool true)).setCell ⟨A4 (.maps g), p * 3 + 1, none⟩ (.int .i64 F)).setCell ⟨A4 (.maps g), p * 3 + 2, none⟩ (.bool true) := ⟨_, rfl⟩
        rw [show ((wc.setCell ⟨A4 (.maps g), p * 3, none⟩ (.bool (inM F).1)).setCell ⟨A4 (.maps g), p * 3 + 1, none⟩ (.int .i64 (inM F).2.1)).setCell ⟨A4 (.maps g), p * 3 + 2, none⟩ (.bool (inM F).2.2) = W8 from hW8.symm] at hK8
        have e8 : ∀ j, j ≠ A4 (.maps g) → W8.heap[j]? = wc.heap[j]? := fun j h2 => by rw [hW8, Below.heap_setCell _ _ _ _ (by simpa using h2), Below.heap_setCell _ _ _ _ (by simpa using h2), Below.heap_setCell _ _ _ _ (by simpa using h2)]
        have s8 : W8.heap.size = wc.heap.size := by rw [hW8]; simp
        have B8 : Below N wc W8 := by rw [hW8]; exact (((Below.refl N wc).setCell (p := ⟨A4 (.maps g), p * 3, none⟩) lm7.1 _).setCell (p := ⟨A4 (.maps g), p * 3 + 1, none⟩) lm7.1 _).setCell (p := ⟨A4 (.maps g), p * 3 + 2, none⟩) lm7.1 _
        have hM8 := hM7.put hK8 (by rw [setG_len]; exact hln7) B8 (x0 := .maps g) hg (by omega) (fun j _ h2 => e8 j h2)
        have HR8 := hidE (R7.same (e8 _ (Ne.symm nM2)))
        obtain ⟨p0, p1, p3, f0, f1, f2⟩ := P7
        obtain ⟨y0, y1, y2, d0, d1, d2⟩ := R7
        have HM8 := hidE hM8
        have lR7 : w.heap.size + 1 < wc.heap.size := by have := hM7.hi; omega
        have hi7 := hM7.hi
        have lP7 : w.heap.size < wc.heap.size := by omega
        have lm : A4 (.maps g) < wc.heap.size := lm7.2
        have lgs : A .gs < wc.heap.size := lg7.2
        clear hM8 hK8 kS7 hM7 HM7 hwx e7 e8 HPc HRc lt0 nw1 nw2 lm7 lg7 hRm
        have nM1' := Ne.symm nM1
        have nM2' := Ne.symm nM2
        go_wp2
        rw [← hW8]
        clear hW8 y0 y1 y2 d0 d1 d2 p0 p1 p3 f0 f1 f2
        obtain ⟨y0, y1, y2, d0, d1, d2⟩ := HR8.out
        refine bodyPost_ret (v := .agg #[.slice (some ⟨A .fr, 0, none⟩) 8 cf, .slice (some ⟨A .gs, 0, none⟩) n cg, .int .i64 h3.hand]) (by simp [results, Try.results66, go_sem, *]) rfl ?_
        obtain ⟨hR, _⟩ := Hfin.out
        rw [HHd.out, hR]
        exact ⟨rfl, A4, (HM8.out.off3 hAl (b := w.heap.size + 1) (by omega) (by omega) hN _ _ _).weak (Nat.le_refl _) (by omega)⟩
end Go.Proofs.Ytjegndgdpmlbaaa

/-
  What the given l13Own does.
-/
set_option linter.unusedSimpArgs false
namespace Go.Proofs.Ytjegndgdpmlbaaa
open Go.RowKit
attribute [local go_sem ↓] Go.wp_at_zero Go.wp_at_succ exec_app
attribute [local go_sem] bigNext_ok

/-- Whether a page may be written is written alone. -/
theorem SepH.mapW {w : World} {N : Nat} {A : Pl → Nat} {h : Hst} (k : SepH w N A h) {g : Nat} (hg : g < h.guests.length) {i : Nat} (hi : i < 6) (b : Bool) :
    SepH (w.setCell ⟨A (.maps g), i * 3 + 2, none⟩ (.bool b)) N A (setM h g i ((mAt h g i).1, (mAt h g i).2.1, b)) := by
  obtain ⟨s1, s2, s3, s4⟩ := k.sz g hg
  have hh := k.held (.maps g) hg
  refine k.put (.maps g) hg (setG_len _ _ _) k.f8 k.f4 (fun j hj => ?_) (by simp) (fun j hj => ?_) (fun x hx hne hx2 => ?_) ⟨fun j hj => ?_, ?_⟩
  · unfold setM
    by_cases e : j = g
    · subst e
      rw [gOf_set_same hg]
      exact ⟨by show ((gOf h j).maps.set i _).length = 6; rw [List.length_set]; exact s1, s2, s3, s4⟩
    · rw [gOf_set_ne e]; exact k.sz j hj
  · rw [Below.heap_setCell _ _ _ _ (by simpa using hj)]
  · exact held_setG hg x hx2 (fun e => (hne e).elim) (fun _ => rfl) (fun p _ => rfl)
  · unfold setM at hj ⊢
    rw [gOf_set_same hg] at hj ⊢
    have hj6 : j < 6 := by
      have : j < ((gOf h g).maps.set i ((mAt h g i).1, (mAt h g i).2.1, b)).length := hj
      rw [List.length_set, s1] at this
      exact this
    obtain ⟨q0, q1, q2⟩ := hh.1 j (by omega)
    rw [Nat.zero_add, show ((false, 0, false) : E3) = noM from rfl] at q0 q1 q2
    have e : (withMs (gOf h g) ((gOf h g).maps.set i ((mAt h g i).1, (mAt h g i).2.1, b))).maps.getD j noM = if j = i then ((mAt h g i).1, (mAt h g i).2.1, b) else (gOf h g).maps.getD j noM := getD_set _ _ _ _ _ (by omega)
    rw [show ((false, 0, false) : E3) = noM from rfl, e, Nat.zero_add]
    refine ⟨(cell_put q0).trans ?_, (cell_put q1).trans ?_, (cell_put q2).trans ?_⟩
    · rw [if_neg (by omega)]
      by_cases hji : j = i
      · rw [if_pos hji, hji]; rfl
      · rw [if_neg hji]
    · rw [if_neg (by omega)]
      by_cases hji : j = i
      · rw [if_pos hji, hji]; rfl
      · rw [if_neg hji]
    · by_cases hji : j = i
      · rw [if_pos (by omega), if_pos hji]
      · rw [if_neg (by omega), if_neg hji]
  · exact hh.2.put _

set_option maxRecDepth 100000 in
set_option maxHeartbeats 2000000 in
theorem specOwn13 (N : Nat) (A : Pl → Nat) (h : Hst) (g p : Nat) (n cf cg : Nat) (w : World) (k : SepH w N A h) (ho : okHost h = true) (hn : h.guests.length = n) (hg : g < n) (hp : p < 6) (hN : N ≤ w.heap.size) :
    Calls Try.prog 72 #[.agg #[.slice (some ⟨A .fr, 0, none⟩) 8 cf, .slice (some ⟨A .gs, 0, none⟩) n cg, .int .i64 h.hand], .int .i64 g, .int .i64 p] w fun e w' => e = .returned (.agg #[.slice (some ⟨A .fr, 0, none⟩) 8 cf, .slice (some ⟨A .gs, 0, none⟩) n cg, .int .i64 (ownP h g p).hand]) ∧ ∃ A', Mv w w' w.heap.size N n A A' (ownP h g p) := by
  obtain ⟨W2, hW2⟩ : ∃ W2, W2 = (w.alloc (.cells #[.slice (some ⟨A .fr, 0, none⟩) 8 cf, .slice (some ⟨A .gs, 0, none⟩) n cg, .int .i64 h.hand] 26)).alloc (.cells #[.slice none 0 0, .slice none 0 0, .int .i64 0] 26) := ⟨_, rfl⟩
  have B2 : Below w.heap.size w W2 := by rw [hW2]; exact ((Below.refl _ _).alloc (Nat.le_refl _) _).alloc (by simp) _
  have s2 : W2.heap.size ≤ w.heap.size + 2 ∧ w.heap.size + 2 ≤ W2.heap.size := by rw [hW2]; simp
  have p2 : Var3 W2 w.heap.size (.slice (some ⟨A .fr, 0, none⟩) 8 cf) (.slice (some ⟨A .gs, 0, none⟩) n cg) (.int .i64 h.hand) := by rw [hW2]; exact (var3_new w _ _ _ _).allocK _
  have r2 : Var3 W2 (w.heap.size + 1) (.slice none 0 0) (.slice none 0 0) (.int .i64 0) := by rw [hW2]; exact var3_newK (by simp)
  have hAl : ∀ x, x.ok n → A x < w.heap.size := fun x hx => (k.low x (by rw [hn]; exact hx)).2
  have m2 : Mv w W2 (w.heap.size + 2) N n A A h := Mv.start k hn B2 hN (Nat.le_add_right _ _) s2.2
  have kk := okHost_of ho
  have hin1 := specIn13 N A h g p n cf cg W2 m2.sep ho hn hg hp (by omega)
  obtain ⟨k1, _, hm1⟩ := inP_ok kk (show g < h.guests.length by omega) hp
  have l1 : (inP h g p).guests.length = n := by rw [inP_len kk, hn]
  have hown : ownP h g p = bif (mAt (inP h g p) g p).2.2 then inP h g p else bif usersH (inP h g p) (mAt (inP h g p) g p).2.1 == 1 then setM (inP h g p) g p (true, (mAt (inP h g p) g p).2.1, true) else inP (outP (inP h g p) g p) g p := rfl
  have Hown := hidE hown
  clear hown
  generalize ownP h g p = ho' at *
  generalize inP h g p = h1 at *
  go_enter Try.func72, Try.ntmps72
  go_wp2_with (fail)
  rw [← hW2]
  clear hW2
  refine hin1.mono ?_
  rintro e w3 ⟨rfl, A1, M3⟩
  have s3 := M3.size
  have M03 := m2.call hAl M3
  have P3 := p2.same (m2.own hAl M3 (Nat.le_refl _) (by omega))
  have R3 := r2.same (m2.own hAl M3 (Nat.le_succ _) (by omega))
  obtain ⟨W4, hW4⟩ : ∃ W4, W4 = ((w3.setCell ⟨w.heap.size, 0, none⟩ (.slice (some ⟨A .fr, 0, none⟩) 8 cf)).setCell ⟨w.heap.size, 1, none⟩ (.slice (some ⟨A .gs, 0, none⟩) n cg)).setCell ⟨w.heap.size, 2, none⟩ (.int .i64 h1.hand) := ⟨_, rfl⟩
  have M4 := M03.off3 hAl (b := w.heap.size) (Nat.le_refl _) (by omega) hN (.slice (some ⟨A .fr, 0, none⟩) 8 cf) (.slice (some ⟨A .gs, 0, none⟩) n cg) (.int .i64 h1.hand)
  have P4 := P3.putAll (.slice (some ⟨A .fr, 0, none⟩) 8 cf) (.slice (some ⟨A .gs, 0, none⟩) n cg) (.int .i64 h1.hand)
  have R4 := R3.same (w' := W4) (by rw [hW4, Below.heap_setCell _ _ _ _ (by simp), Below.heap_setCell _ _ _ _ (by simp), Below.heap_setCell _ _ _ _ (by simp)])
  rw [← hW4] at M4 P4
  have s4 : W4.heap.size = w3.heap.size := by rw [hW4]; simp
  have hg1 : g < h1.guests.length := by omega
  obtain ⟨⟨c1, q1⟩, _, _⟩ := (M03.sep.held .gs trivial).1 g hg1
  obtain ⟨e0, e1, e2⟩ := (M03.sep.held (.maps g) hg1).1 p (by rw [(M03.sep.sz g hg1).1]; exact hp)
  rw [Nat.zero_add, show ((false, 0, false) : E3) = noM from rfl, show (gOf h1 g).maps.getD p noM = mAt h1 g p from rfl] at e0 e1 e2
  rw [M03.gs] at q1
  have lG := (M03.sep.low .gs trivial).2
  rw [M03.gs] at lG
  have lM := (M03.sep.low (.maps g) hg1).2
  have lG0 := hAl .gs trivial
  have nG : A .gs ≠ w.heap.size := by omega
  have nM : A1 (.maps g) ≠ w.heap.size := M03.ne (by omega) (fun x hx => by have := hAl x hx; omega) (.maps g) hg
  have nG' := Ne.symm nG
  have nM' := Ne.symm nM
  obtain ⟨pp0, pp1, pp2, ff0, ff1, ff2⟩ := P3
  have hgi : (g : Int) < (n : Int) := by omega
  have hpi : (p : Int) < 6 := by omega
  have l3 : w.heap.size < w3.heap.size := by omega
  have l4 : w.heap.size < W4.heap.size := by omega
  have HM4 := hidE M4
  have HP4 := hidE P4
  have HR4 := hidE R4
  have hU := fun (W : World) (B : Below W4.heap.size W4 W) => specUsers N W.heap.size _ _ h1 (mAt h1 g p).2.1 W (by have := (M4.sep.belowK B).hostIn cf cg; rw [M4.fr, M4.gs, l1] at this; exact this) (Nat.le_refl _) (by have := k1.n2; omega) (fun i hi => by rw [show (h1.guests.getD i noG).maps.length = 6 from (k1.six i hi).1]; omega)
  have Hown' := hidE (And.intro (fun (e : (mAt h1 g p).2.2 = true) => (show ho' = h1 by rw [Hown.out, e]; rfl)) (fun (e : (mAt h1 g p).2.2 = false) => (show ho' = bif usersH h1 (mAt h1 g p).2.1 == 1 then setM h1 g p (true, (mAt h1 g p).2.1, true) else inP (outP h1 g p) g p by rw [Hown.out, e]; rfl)))
  have hmW := hidE (fun (W : World) (kS : SepH W N A1 h1) => kS.mapW (g := g) hg1 hp true)
  rw [hm1] at e0 hmW
  obtain ⟨mf, hmf⟩ : ∃ mf, mf = (mAt h1 g p).2.1 := ⟨_, rfl⟩
  rw [← hmf] at e1 hU Hown' hmW
  obtain ⟨uu, huu⟩ : ∃ uu, uu = usersH h1 mf := ⟨_, rfl⟩
  rw [← huu] at hU Hown'
  have hM40 := HM4.out
  have HR3 := hidE R3
  clear hin1 m2 M3 M03 R3 R4 M4 p2 r2 B2 k ho P4 hmf huu Hown
  have s4' : W4.heap.size ≤ w3.heap.size ∧ w3.heap.size ≤ W4.heap.size := ⟨by omega, by omega⟩
  have HW4 := hidE hW4
  have L1 := hidE l1
  have Hm1 := hidE hm1
  clear s4 hW4 l1 hm1
  cases hmw : (mAt h1 g p).2.2
  rotate_left
  · rw [hmw] at e2
    have he := hidE (Hown'.out.1 hmw)
    obtain ⟨y0, y1, y2, d0, d1, d2⟩ := HR3.out
    have lR4 : w.heap.size + 1 < W4.heap.size := by omega
    have lR3 : w.heap.size + 1 < w3.heap.size := by omega
    clear hU Hown' hmW hM40 hmw
    go_wp2
    rw [← HW4.out]
    clear y0 y1 y2 d0 d1 d2
    obtain ⟨y0, y1, y2, d0, d1, d2⟩ := HR4.out
    refine bodyPost_ret (v := .agg #[.slice (some ⟨A .fr, 0, none⟩) 8 cf, .slice (some ⟨A .gs, 0, none⟩) n cg, .int .i64 h1.hand]) (by simp [results, Try.results72, go_sem, *]) rfl ?_
    rw [he.out]
    exact ⟨rfl, A1, ((HM4.out.off3 hAl (b := w.heap.size + 1) (by omega) (by omega) hN _ _ _).below hN ((Below.refl _ _).alloc (Nat.le_refl _) _)).weak (Nat.le_refl _) (by omega)⟩
  · rw [hmw] at e2
    have he := hidE (Hown'.out.2 hmw)
    have hout := fun (W : World) (A2 : Pl → Nat) (kS : SepH W N A2 h1) (hN2 : N ≤ W.heap.size) => outMv N A2 h1 g p n cf cg W kS (okHost_mk k1) L1.out hg hp hN2
    have k2 : OkH (outP h1 g p) := okHost_of (okHost_out (okHost_mk k1) (by rw [L1.out]; exact hg) hp)
    have hin2 := fun (W : World) (A2 : Pl → Nat) (kS : SepH W N A2 (outP h1 g p)) (hN2 : N ≤ W.heap.size) => specIn13 N A2 (outP h1 g p) g p n cf cg W kS (okHost_mk k2) (by rw [outP_len]; exact L1.out) hg hp hN2
    rw [outP_hand] at hin2
    have hB5 : Below W4.heap.size W4 (W4.alloc (.cells #[.bool true, .int .i64 mf, .bool false] 35)) := (Below.refl _ _).alloc (Nat.le_refl _) _
    have hu5 := hU _ hB5
    have HM5 := hidE (HM4.out.below hN hB5)
    have HP5 := hidE (HP4.out.same (hB5.block w.heap.size (by omega)))
    have HR5 := hidE (HR4.out.same (hB5.block (w.heap.size + 1) (by omega)))
    have hs5 : w.heap.size + 2 ≤ (W4.alloc (.cells #[.bool true, .int .i64 mf, .bool false] 35)).heap.size := by have := HM5.out.hi; exact this
    have Hout := hidE hout
    have Hin2 := hidE hin2
    have HmW := hidE hmW
    clear Hown' hmw hU hout hin2 hmW hM40 k2
    go_wp2_with (fail)
    rw [← HW4.out]
    clear HW4 HM4 HP4 HR4 HR3 pp0 pp1 pp2 ff0 ff1 ff2 q1 e0 e1 e2 lG lM nG nM nG' nM'
    generalize W4.alloc (.cells #[.bool true, .int .i64 mf, .bool false] 35) = W5 at *
    refine hu5.mono ?_
    rintro e w6 ⟨rfl, B6⟩
    have HM6 := hidE (HM5.out.below hN B6)
    have P6 := HP5.out.same (B6.block w.heap.size (by omega))
    have R6 := HR5.out.same (B6.block (w.heap.size + 1) (by omega))
    have HR6 := hidE R6
    have hs6 := HM6.out.hi
    have lH : w.heap.size < w6.heap.size := by omega
    have lR : w.heap.size + 1 < w6.heap.size := by omega
    obtain ⟨p0, p1, p3, f0, f1, f2⟩ := P6
    obtain ⟨y0, y1, y2, d0, d1, d2⟩ := R6
    clear hu5 B6 hB5 HM5 HP5 HR5
    by_cases hu1 : uu = 1
    · subst hu1
      have he' := hidE (show ho' = setM h1 g p (true, mf, true) by rw [he.out]; rfl)
      obtain ⟨⟨c1', q1⟩, _, _⟩ := (HM6.out.sep.held .gs trivial).1 g (by rw [L1.out]; exact hg)
      obtain ⟨_, hRm⟩ := HM6.out.sep.held (.maps g) (by rw [L1.out]; exact hg)
      obtain ⟨⟨v2, r2⟩, z2⟩ := hRm (p * 3 + 2) (by omega)
      rw [HM6.out.gs] at q1
      have lG := (HM6.out.sep.low .gs trivial).2
      rw [HM6.out.gs] at lG
      have lM := HM6.out.sep.low (.maps g) (by rw [L1.out]; exact hg)
      have lM2 := lM.2
      have nM := HM6.out.ne (j := w.heap.size) (by omega) (fun x hx => by have := hAl x hx; omega) (.maps g) hg
      have nR := HM6.out.ne (j := w.heap.size + 1) (by omega) (fun x hx => by have := hAl x hx; omega) (.maps g) hg
      have nM' := Ne.symm nM
      have nR' := Ne.symm nR
      have hK7 := HmW.out w6 HM6.out.sep
      have hM7 := hidE (HM6.out.put hK7 (by rw [setM_len]; exact L1.out) ((Below.refl N w6).setCell (p := ⟨A1 (.maps g), p * 3 + 2, none⟩) lM.1 _) (x0 := .maps g) hg (by simp) (fun j _ h2 => Below.heap_setCell _ _ _ _ (by simpa using h2)))
      have R7 := hidE (HR6.out.same (w' := w6.setCell ⟨A1 (.maps g), p * 3 + 2, none⟩ (.bool true)) (Below.heap_setCell _ _ _ _ (by simpa using nR')))
      clear hRm lM hK7 he
      go_wp2
      obtain ⟨W7, hW7⟩ : ∃ W7, W7 = w6.setCell ⟨A1 (.maps g), p * 3 + 2, none⟩ (.bool true) := ⟨_, rfl⟩
      rw [← hW7] at hM7 R7 ⊢
      clear hW7 y0 y1 y2 d0 d1 d2 p0 p1 p3 f0 f1 f2 q1 r2 z2
      obtain ⟨y0, y1, y2, d0, d1, d2⟩ := R7.out
      refine bodyPost_ret (v := .agg #[.slice (some ⟨A .fr, 0, none⟩) 8 cf, .slice (some ⟨A .gs, 0, none⟩) n cg, .int .i64 h1.hand]) (by simp [results, Try.results72, go_sem, *]) rfl ?_
      rw [he'.out]
      exact ⟨rfl, A1, (hM7.out.off3 hAl (b := w.heap.size + 1) (by omega) (by omega) hN _ _ _).weak (Nat.le_refl _) (by omega)⟩
    · have hne : ((uu : Int) == 1) = false := by simp; omega
      have he' := hidE (show ho' = inP (outP h1 g p) g p by rw [he.out, show (uu == 1) = false by simpa using hu1]; rfl)
      have ho6 := Hout.out w6 A1 HM6.out.sep (by have := HM6.out.size; omega)
      rw [HM6.out.fr, HM6.out.gs] at ho6
      clear he
      go_wp2_with (fail)
      refine ho6.mono ?_
      rintro e w7 ⟨rfl, A2, M7⟩
      have M07 := HM6.out.call hAl M7
      have R7 := HR6.out.same (HM6.out.own hAl M7 (Nat.le_succ _) (by omega))
      have hi7 := Hin2.out w7 A2 M7.sep (by have := M07.size; omega)
      rw [M07.fr, M07.gs] at hi7
      have HM07 := hidE M07
      have HR7 := hidE R7
      clear ho6 M7 M07 p0 p1 p3 f0 f1 f2 y0 y1 y2 d0 d1 d2 R7
      go_wp2_with (fail)
      refine hi7.mono ?_
      rintro e w8 ⟨rfl, A3, M8⟩
      have HM08 := hidE (HM07.out.call hAl M8)
      have R8 := HR7.out.same (HM07.out.own hAl M8 (Nat.le_succ _) (by omega))
      have HR8 := hidE R8
      have hs8 := HM08.out.hi
      have lR8 : w.heap.size + 1 < w8.heap.size := by omega
      obtain ⟨y0, y1, y2, d0, d1, d2⟩ := R8
      clear hi7 M8
      go_wp2
      refine bodyPost_ret (v := .agg #[.slice (some ⟨A .fr, 0, none⟩) 8 cf, .slice (some ⟨A .gs, 0, none⟩) n cg, .int .i64 (inP (outP h1 g p) g p).hand]) (by simp [results, Try.results72, go_sem, *]) rfl ?_
      rw [he'.out]
      exact ⟨rfl, A3, (HM08.out.off3 hAl (b := w.heap.size + 1) (by omega) (by omega) hN _ _ _).weak (Nat.le_refl _) (by omega)⟩
end Go.Proofs.Ytjegndgdpmlbaaa
