/-
  Pages of a host looked at in order, each of those that are asked for given another map.
-/
import Derived.Test.YtjegndgdpmlbaaaKOPC
import Derived.Test.YtjegndgdpmlbaaaKOAC
set_option linter.unusedSimpArgs false
namespace Go.Proofs.Ytjegndgdpmlbaaa
open Go.RowKit

def runG (T : E3 → Bool) (M : E3 → E3) (h : Hst) (g : Nat) : Nat → Hst
  | 0 => h
  | k + 1 => bif T (mAt (runG T M h g k) g k) then settleP (runG T M h g k) g k (M (mAt (runG T M h g k) g k)) else runG T M h g k
def runH (T : E3 → Bool) (M : E3 → E3) (h : Hst) : Nat → Hst
  | 0 => h
  | k + 1 => runG T M (runH T M h k) k 6
theorem runG_len {T : E3 → Bool} {M : E3 → E3} (h : Hst) (g : Nat) : ∀ k, (runG T M h g k).guests.length = h.guests.length ∧ (runG T M h g k).hand = h.hand ∧ (runG T M h g k).frames = h.frames
  | 0 => ⟨rfl, rfl, rfl⟩
  | k + 1 => by
    have := runG_len (T := T) (M := M) h g k
    rw [runG]
    cases T (mAt (runG T M h g k) g k)
    · exact this
    · rw [cond_true]
      exact ⟨by rw [settleP_len]; exact this.1, this.2.1, this.2.2⟩
theorem runH_len {T : E3 → Bool} {M : E3 → E3} (h : Hst) : ∀ k, (runH T M h k).guests.length = h.guests.length ∧ (runH T M h k).hand = h.hand ∧ (runH T M h k).frames = h.frames
  | 0 => ⟨rfl, rfl, rfl⟩
  | k + 1 => by
    have := runH_len (T := T) (M := M) h k
    have r := runG_len (T := T) (M := M) (runH T M h k) k 6
    exact ⟨r.1.trans this.1, r.2.1.trans this.2.1, r.2.2.trans this.2.2⟩
/-- The pages that are asked for, in order. -/
def visG (T : E3 → Bool) (h : Hst) (g k : Nat) : List (Nat × Nat) := ((List.range k).filter fun p => T (mAt h g p)).map fun p => (g, p)
def visH (T : E3 → Bool) (h : Hst) (k : Nat) : List (Nat × Nat) := (List.range k).flatMap fun g => visG T h g 6
theorem mem_visG {T : E3 → Bool} {h : Hst} {g k a b : Nat} : (a, b) ∈ visG T h g k ↔ a = g ∧ b < k ∧ T (mAt h g b) = true := by
  simp only [visG, List.mem_map, List.mem_filter, List.mem_range, Prod.mk.injEq]
  constructor
  · rintro ⟨p, ⟨h1, h2⟩, h3, h4⟩
    subst h3 h4
    exact ⟨rfl, h1, h2⟩
  · rintro ⟨rfl, h1, h2⟩
    exact ⟨b, ⟨h1, h2⟩, rfl, rfl⟩
theorem mem_visH {T : E3 → Bool} {h : Hst} {k a b : Nat} : (a, b) ∈ visH T h k ↔ a < k ∧ b < 6 ∧ T (mAt h a b) = true := by
  simp only [visH, List.mem_flatMap, List.mem_range]
  constructor
  · rintro ⟨g, h1, h2⟩
    obtain ⟨rfl, h3, h4⟩ := mem_visG.1 h2
    exact ⟨h1, h3, h4⟩
  · rintro ⟨h1, h2, h3⟩
    exact ⟨a, h1, mem_visG.2 ⟨rfl, h2, h3⟩⟩
theorem visG_succ (T : E3 → Bool) (h : Hst) (g k : Nat) : visG T h g (k + 1) = visG T h g k ++ (bif T (mAt h g k) then [(g, k)] else []) := by
  rw [visG, List.range_succ, List.filter_append, List.map_append, visG]
  congr 1
  cases hT : T (mAt h g k) <;> simp [hT]
theorem visH_succ (T : E3 → Bool) (h : Hst) (k : Nat) : visH T h (k + 1) = visH T h k ++ visG T h k 6 := by
  rw [visH, List.range_succ, List.flatMap_append, visH, List.flatMap_cons, List.flatMap_nil, List.append_nil]
theorem settleAll_append (M : Nat → Nat → E3) (h : Hst) (l m : List (Nat × Nat)) : settleAll M h (l ++ m) = settleAll M (settleAll M h l) m := List.foldl_append
theorem runG_all {T : E3 → Bool} {M : E3 → E3} {h0 h : Hst} {l : List (Nat × Nat)} (hs : Six h0) (hl : Plc h0.guests.length l) (e : h = settleAll (fun g p => M (mAt h0 g p)) h0 l) {g : Nat} (hg : g < h0.guests.length) (hno : ∀ p, (g, p) ∉ l) : ∀ k, k ≤ 6 → runG T M h g k = settleAll (fun g p => M (mAt h0 g p)) h0 (l ++ visG T h0 g k)
  | 0, _ => by rw [runG, e]; simp [visG]
  | k + 1, hk => by
    have ih := runG_all (T := T) hs hl e hg hno k (by omega)
    have hl2 : Plc h0.guests.length (l ++ visG T h0 g k) := fun x hx => by
      rcases List.mem_append.1 hx with hx | hx
      · exact hl x hx
      · obtain ⟨a, b⟩ := x
        obtain ⟨rfl, h1, _⟩ := mem_visG.1 hx
        exact ⟨hg, by omega⟩
    obtain ⟨_, _, _, _, a5, _⟩ := settleAll_at (fun g p => M (mAt h0 g p)) (l ++ visG T h0 g k) hs hl2
    have hm : mAt (runG T M h g k) g k = mAt h0 g k := by
      rw [ih, a5, if_neg]
      intro hc
      rcases List.mem_append.1 hc with hc | hc
      · exact hno k hc
      · have := (mem_visG.1 hc).2.1
        omega
    rw [runG, hm, ih, visG_succ, ← List.append_assoc, settleAll_append _ _ (l ++ visG T h0 g k)]
    cases T (mAt h0 g k)
    · rfl
    · rfl
theorem runH_all {T : E3 → Bool} {M : E3 → E3} {h : Hst} (hs : Six h) : ∀ k, k ≤ h.guests.length → runH T M h k = settleAll (fun g p => M (mAt h g p)) h (visH T h k)
  | 0, _ => rfl
  | k + 1, hk => by
    have ih := runH_all (T := T) (M := M) hs k (by omega)
    have hl : Plc h.guests.length (visH T h k) := fun x hx => by
      obtain ⟨a, b⟩ := x
      obtain ⟨h1, h2, _⟩ := mem_visH.1 hx
      exact ⟨by show a < _; omega, h2⟩
    rw [runH, visH_succ]
    exact runG_all hs hl ih (by omega) (fun p hp => by have := (mem_visH.1 hp).1; omega) 6 (Nat.le_refl _)
theorem runH_share {h : Hst} (hs : Six h) (f t : Nat) : runH (inFT f t) (fun _ => (true, (t : Int), false)) h h.guests.length = shareP h f t := by
  rw [runH_all hs _ (Nat.le_refl _)]
  refine settleAll_same hs (fun x hx => ?_) (plc_share h f t) (fun x => ?_)
  · obtain ⟨a, b⟩ := x
    obtain ⟨h1, h2, _⟩ := mem_visH.1 hx
    exact ⟨h1, h2⟩
  · obtain ⟨a, b⟩ := x
    rw [mem_visH, mem_shareL]
theorem runH_move {h : Hst} (hs : Six h) (f t : Nat) : runH (inF f) (fun m => (true, (t : Int), m.2.2)) (setF h t (fAt h f)) h.guests.length = moveP h f t := by
  have e : ∀ g p, mAt (setF h t (fAt h f)) g p = mAt h g p := fun _ _ => rfl
  have hs2 : Six (setF h t (fAt h f)) := hs
  have hr := runH_all (T := inF f) (M := fun m => (true, (t : Int), m.2.2)) hs2 h.guests.length (Nat.le_refl _)
  rw [hr]
  refine settleAll_same hs2 (fun x hx => ?_) (plc_ten h f) (fun x => ?_)
  · obtain ⟨a, b⟩ := x
    obtain ⟨h1, h2, _⟩ := mem_visH.1 hx
    exact ⟨h1, h2⟩
  · obtain ⟨a, b⟩ := x
    rw [mem_visH, mem_ten]
    rfl
/-- What the given forgetting makes of a page that was given another map. -/
theorem settle_forget {h : Hst} {g : Nat} (hg : g < h.guests.length) (p : Nat) (m : E3) : setG (setG h g (withMs (gOf h g) ((gOf h g).maps.set p m))) g (withS (gOf (setG h g (withMs (gOf h g) ((gOf h g).maps.set p m))) g) (fU (gOf (setG h g (withMs (gOf h g) ((gOf h g).maps.set p m))) g).shades (p : Int) 6)) = settleP h g p m := by
  rw [setG_setG, gOf_set_same hg]
  rfl
end Go.Proofs.Ytjegndgdpmlbaaa

/-
  What the given l13Share does.
-/
set_option linter.unusedSimpArgs false
namespace Go.Proofs.Ytjegndgdpmlbaaa
open Go.RowKit
attribute [local go_sem ↓] Go.wp_at_zero Go.wp_at_succ exec_app
attribute [local go_sem] bigNext_ok

set_option maxRecDepth 100000 in
set_option maxHeartbeats 8000000 in
theorem specShare (N : Nat) (A : Pl → Nat) (h : Hst) (f t : Nat) (n cf cg : Nat) (z : Int) (w : World) (k : SepH w N A h) (hn : h.guests.length = n) (hN : N ≤ w.heap.size) :
    Calls Try.prog 96 #[.agg #[.slice (some ⟨A .fr, 0, none⟩) 8 cf, .slice (some ⟨A .gs, 0, none⟩) n cg, .int .i64 z], .int .i64 f, .int .i64 t] w fun e w' => e = .returned (.agg #[.slice (some ⟨A .fr, 0, none⟩) 8 cf, .slice (some ⟨A .gs, 0, none⟩) n cg, .int .i64 z]) ∧ Mv w w' w.heap.size N n A A (shareP h f t) := by
  have hsix : Six h := fun g hg => ⟨(k.sz g hg).1, (k.sz g hg).2.1, (k.sz g hg).2.2.2⟩
  have Hend := hidE (runH_share hsix f t)
  obtain ⟨T, hT⟩ : ∃ T, T = inFT (f : Nat) (t : Nat) := ⟨_, rfl⟩
  obtain ⟨M, hM⟩ : ∃ M : E3 → E3, M = fun _ => (true, (t : Int), false) := ⟨_, rfl⟩
  rw [← hT, ← hM, hn] at Hend
  have HTM := hidE (And.intro hT hM)
  clear hT hM
  obtain ⟨W2, hW2⟩ : ∃ W2, W2 = (w.alloc (.cells #[.slice (some ⟨A .fr, 0, none⟩) 8 cf, .slice (some ⟨A .gs, 0, none⟩) n cg, .int .i64 z] 26)).alloc (.cells #[.slice none 0 0, .slice none 0 0, .int .i64 0] 26) := ⟨_, rfl⟩
  have B2 : Below w.heap.size w W2 := by rw [hW2]; exact ((Below.refl _ _).alloc (Nat.le_refl _) _).alloc (by simp) _
  have s2 : W2.heap.size ≤ w.heap.size + 2 ∧ w.heap.size + 2 ≤ W2.heap.size := by rw [hW2]; simp
  have p2 := hidE (show Var3 W2 w.heap.size (.slice (some ⟨A .fr, 0, none⟩) 8 cf) (.slice (some ⟨A .gs, 0, none⟩) n cg) (.int .i64 z) by rw [hW2]; exact (var3_new w _ _ _ _).allocK _)
  have r2 := hidE (show Var3 W2 (w.heap.size + 1) (.slice none 0 0) (.slice none 0 0) (.int .i64 0) by rw [hW2]; exact var3_newK (by simp))
  have hAl : ∀ x, x.ok n → A x < w.heap.size := fun x hx => (k.low x (by rw [hn]; exact hx)).2
  have M2 := hidE (show Mv w W2 (w.heap.size + 2) N n A A (runH T M h 0) from Mv.start k hn B2 hN (Nat.le_add_right _ _) s2.2)
  have hlen := hidE (fun m => (runH_len (T := T) (M := M) h m).1.trans hn)
  have lG0 := hAl .gs trivial
  have hn2 : n ≤ 2 := by rw [← hn]; exact k.n2
  clear k hsix
  go_enter Try.func96, Try.ntmps96
  go_wp2_with (fail)
  rw [← hW2]
  clear hW2 B2
  go_loopw [7, 8, 9] (fun i _ _ wr => ∃ m : Nat, m ≤ n ∧ i = .int .i64 m ∧ Hid (Mv w wr (w.heap.size + 2) N n A A (runH T M h m)) ∧ Hid (Var3 wr w.heap.size (.slice (some ⟨A .fr, 0, none⟩) 8 cf) (.slice (some ⟨A .gs, 0, none⟩) n cg) (.int .i64 z)) ∧ Hid (Var3 wr (w.heap.size + 1) (.slice none 0 0) (.slice none 0 0) (.int .i64 0))) (fun i _ _ _ => n - (intOf i).toNat)
  case atStart => exact ⟨0, Nat.zero_le _, rfl, M2.out, p2.out, r2.out⟩
  case round =>
    clear M2 p2 r2
    obtain ⟨m, hm, rfl, HM, HP, HR⟩ := hrel
    obtain ⟨p0, p1, p3, f0, f1, f2⟩ := HP.out
    have sM := HM.out.hi
    have lP : w.heap.size < wr.heap.size := by omega
    by_cases hml : m < n
    · have hmi : (m : Int) < (n : Int) := by omega
      have o2' := hlen.out m
      have hlG := hidE (fun q => (runG_len (T := T) (M := M) (runH T M h m) m q).1.trans o2')
      have Hnext := hidE (show runH T M h (m + 1) = runG T M (runH T M h m) m 6 from rfl)
      have HM0 : Hid (Mv w wr (w.heap.size + 2) N n A A (runG T M (runH T M h m) m 0)) := HM.out
      clear HM
      generalize runH T M h m = h1 at *
      go_wp2_with (fail)
      go_loopw [8, 9] (fun i _ wq => ∃ q : Nat, q ≤ 6 ∧ i = .int .i64 q ∧ Hid (Mv w wq (w.heap.size + 2) N n A A (runG T M h1 m q)) ∧ Hid (Var3 wq w.heap.size (.slice (some ⟨A .fr, 0, none⟩) 8 cf) (.slice (some ⟨A .gs, 0, none⟩) n cg) (.int .i64 z)) ∧ Hid (Var3 wq (w.heap.size + 1) (.slice none 0 0) (.slice none 0 0) (.int .i64 0))) (fun i _ _ => 6 - (intOf i).toNat)
      case atStart => exact ⟨0, Nat.zero_le _, rfl, HM0.out, HP.out, HR.out⟩
      case round =>
        clear HM0 HP HR p0 p1 p3 f0 f1 f2
        obtain ⟨q, hq, rfl, HM, HP, HR⟩ := hrel
        obtain ⟨p0, p1, p3, f0, f1, f2⟩ := HP.out
        have sMq := HM.out.hi
        have lPq : w.heap.size < wr.heap.size := by omega
        by_cases hql : q < 6
        · have hqi : (q : Int) < 6 := by omega
          have g2n := hlG.out q
          have Hnq := hidE (show runG T M h1 m (q + 1) = bif T (mAt (runG T M h1 m q) m q) then settleP (runG T M h1 m q) m q (M (mAt (runG T M h1 m q) m q)) else runG T M h1 m q from rfl)
          generalize runG T M h1 m q = h2 at *
          have hm2 : m < h2.guests.length := by rw [g2n]; exact hml
          obtain ⟨⟨c1, u1⟩, _, _⟩ := (HM.out.sep.held .gs trivial).1 m hm2
          obtain ⟨v0, v1, v2⟩ := (HM.out.sep.held (.maps m) hm2).1 q (by rw [(HM.out.sep.sz m hm2).1]; exact hql)
          rw [Nat.zero_add, show ((false, 0, false) : E3) = noM from rfl, show (gOf h2 m).maps.getD q noM = mAt h2 m q from rfl] at v0 v1 v2
          have lM : A (.maps m) < wr.heap.size := (HM.out.sep.low (.maps m) hm2).2
          have lGq : A .gs < wr.heap.size := by omega
          obtain ⟨mi, hmi2⟩ : ∃ mi, mi = (mAt h2 m q).1 := ⟨_, rfl⟩
          obtain ⟨mf, hmf2⟩ : ∃ mf, mf = (mAt h2 m q).2.1 := ⟨_, rfl⟩
          obtain ⟨mw, hmw2⟩ : ∃ mw, mw = (mAt h2 m q).2.2 := ⟨_, rfl⟩
          rw [← hmi2] at v0
          rw [← hmf2] at v1
          rw [← hmw2] at v2
          have hTv : T (mAt h2 m q) = (mi && (mf == (f : Int) || mf == (t : Int))) := by
            rw [HTM.out.1, inFT, inF, inF, ← hmi2, ← hmf2]
            cases mi <;> rfl
          rw [hTv] at Hnq
          have BA : Below wr.heap.size wr (wr.alloc (.cells #[.bool mi, .int .i64 mf, .bool mw] 35)) := (Below.refl _ _).alloc (Nat.le_refl _) _
          have HMA := hidE (HM.out.below hN BA)
          have HPA := hidE (HP.out.same (BA.block _ (by omega)))
          have HRA := hidE (HR.out.same (BA.block _ (by omega)))
          clear hmi2 hmf2 hmw2 hTv BA
          cases mi
          · have Hnq' := hidE (show runG T M h1 m (q + 1) = h2 by rw [Hnq.out]; rfl)
            clear Hnq
            go_wp2
            go_roundw
            case rel => exact ⟨q + 1, by omega, by go_num, by rw [Hnq'.out]; exact HMA.out, HPA.out, HRA.out⟩
            case measure => simp [intOf]; omega
          · by_cases hmf : mf = (f : Int)
            · have hY : (true && (mf == (f : Int) || mf == (t : Int))) = true := by simp [hmf]
              have hc1 : (mf == (f : Int)) = true := by simpa using hmf
              clear hmf
              have Hnq' := hidE (show runG T M h1 m (q + 1) = settleP h2 m q (true, (t : Int), false) by rw [Hnq.out, hY, HTM.out.2]; rfl)
              clear Hnq
              have kM := HM.out.sep.map (g := m) hm2 hql (true, (t : Int), false)
              have lMm := HM.out.sep.low (.maps m) hm2
              obtain ⟨_, hRm⟩ := HM.out.sep.held (.maps m) hm2
              have z0 := (hRm (q * 3) (by omega)).2
              have z1 := (hRm (q * 3 + 1) (by omega)).2
              have z2 := (hRm (q * 3 + 2) (by omega)).2
              have nMw : A (.maps m) ≠ wr.heap.size := by omega
              have nMw' := Ne.symm nMw
              have lW : w.heap.size ≠ A (.maps m) := by have := hAl (.maps m) hml; omega
              have lW1 : w.heap.size + 1 ≠ A (.maps m) := by have := hAl (.maps m) hml; omega
              obtain ⟨WB, hWB⟩ : ∃ WB, WB = ((wr.setCell ⟨A (.maps m), q * 3, none⟩ (.bool true)).setCell ⟨A (.maps m), q * 3 + 1, none⟩ (.int .i64 t)).setCell ⟨A (.maps m), q * 3 + 2, none⟩ (.bool false) := ⟨_, rfl⟩
              rw [← hWB] at kM
              have e3 : ∀ j, j ≠ A (.maps m) → WB.heap[j]? = wr.heap[j]? := fun j h2 => by rw [hWB, Below.heap_setCell _ _ _ _ (by simpa using h2), Below.heap_setCell _ _ _ _ (by simpa using h2), Below.heap_setCell _ _ _ _ (by simpa using h2)]
              have sB : WB.heap.size = wr.heap.size := by rw [hWB]; simp
              have B3 : Below N wr WB := by rw [hWB]; exact (((Below.refl N wr).setCell (p := ⟨A (.maps m), q * 3, none⟩) lMm.1 _).setCell (p := ⟨A (.maps m), q * 3 + 1, none⟩) lMm.1 _).setCell (p := ⟨A (.maps m), q * 3 + 2, none⟩) lMm.1 _
              obtain ⟨W3, hW3⟩ : ∃ W3, W3 = WB.alloc (.cells #[.bool true, .int .i64 mf, .bool mw] 35) := ⟨_, rfl⟩
              have BA : Below WB.heap.size WB W3 := by rw [hW3]; exact (Below.refl _ _).alloc (Nat.le_refl _) _
              have s3 : W3.heap.size = wr.heap.size + 1 := by rw [hW3, World.size_alloc, sB]
              have M3 := (HM.out.put kM (by rw [setG_len]; exact g2n) B3 (x0 := .maps m) hml (by omega) (fun j _ h2 => e3 j h2)).below hN BA
              have P3 := (HP.out.same (e3 _ lW)).same (BA.block _ (by omega))
              have R3 := hidE ((HR.out.same (e3 _ lW1)).same (BA.block _ (by omega)))
              have hfo := forgetMv N A _ m (q : Int) n cf cg z W3 M3.sep (by rw [setG_len]; exact g2n) hml (by omega)
              rw [settle_forget hm2] at hfo
              have HP3 := hidE P3
              have HM3 := hidE M3
              have hW3h := hidE hW3
              have hWBh := hidE hWB
              obtain ⟨x0, x1, x2, x3, x4, x5⟩ := P3
              have l3 : w.heap.size < W3.heap.size := by omega
              clear kM M3 e3 HMA HPA HRA hRm hWB hW3 s3 BA B3 sB HM HP HR
              go_wp2_with (fail)
              rw [← hWBh.out, ← hW3h.out]
              clear hWBh hW3h z0 z1 z2 u1 v0 v1 v2
              refine hfo.mono ?_
              rintro e w5 ⟨rfl, M5⟩
              have z5 := M5.hi
              have M05 := hidE (HM3.out.call hAl M5)
              have P5 := HP3.out.same (HM3.out.own hAl M5 (Nat.le_refl _) (by omega))
              have R5 := hidE (R3.out.same (HM3.out.own hAl M5 (Nat.le_succ _) (by omega)))
              have HP5 := hidE P5
              clear x0 x1 x2 x3 x4 x5 p0 p1 p3 f0 f1 f2
              obtain ⟨d0, d1, d2, i0, i1, i2⟩ := P5
              have l5 : w.heap.size < w5.heap.size := by omega
              clear hfo M5 HM3 R3 HP3
              go_wp2
              go_roundw
              case rel =>
                refine ⟨q + 1, by omega, by go_num, ?_, HP5.out.putAll _ _ _, R5.out.same (by rw [Below.heap_setCell _ _ _ _ (by simp), Below.heap_setCell _ _ _ _ (by simp), Below.heap_setCell _ _ _ _ (by simp)])⟩
                rw [Hnq'.out]
                exact M05.out.off3 hAl (b := w.heap.size) (Nat.le_refl _) (by omega) hN _ _ _
              case measure => simp [intOf]; omega
            · have hc1 : (mf == (f : Int)) = false := by simpa using hmf
              by_cases hmt : mf = (t : Int)
              · have hY : (true && (mf == (f : Int) || mf == (t : Int))) = true := by simp [hmt]
                have hc2 : (mf == (t : Int)) = true := by simpa using hmt
                clear hmf hmt
                have Hnq' := hidE (show runG T M h1 m (q + 1) = settleP h2 m q (true, (t : Int), false) by rw [Hnq.out, hY, HTM.out.2]; rfl)
                clear Hnq
                have kM := HM.out.sep.map (g := m) hm2 hql (true, (t : Int), false)
                have lMm := HM.out.sep.low (.maps m) hm2
                obtain ⟨_, hRm⟩ := HM.out.sep.held (.maps m) hm2
                have z0 := (hRm (q * 3) (by omega)).2
                have z1 := (hRm (q * 3 + 1) (by omega)).2
                have z2 := (hRm (q * 3 + 2) (by omega)).2
                have nMw : A (.maps m) ≠ wr.heap.size := by omega
                have nMw' := Ne.symm nMw
                have lW : w.heap.size ≠ A (.maps m) := by have := hAl (.maps m) hml; omega
                have lW1 : w.heap.size + 1 ≠ A (.maps m) := by have := hAl (.maps m) hml; omega
                obtain ⟨WB, hWB⟩ : ∃ WB, WB = ((wr.setCell ⟨A (.maps m), q * 3, none⟩ (.bool true)).setCell ⟨A (.maps m), q * 3 + 1, none⟩ (.int .i64 t)).setCell ⟨A (.maps m), q * 3 + 2, none⟩ (.bool false) := ⟨_, rfl⟩
                rw [← hWB] at kM
                have e3 : ∀ j, j ≠ A (.maps m) → WB.heap[j]? = wr.heap[j]? := fun j h2 => by rw [hWB, Below.heap_setCell _ _ _ _ (by simpa using h2), Below.heap_setCell _ _ _ _ (by simpa using h2), Below.heap_setCell _ _ _ _ (by simpa using h2)]
                have sB : WB.heap.size = wr.heap.size := by rw [hWB]; simp
                have B3 : Below N wr WB := by rw [hWB]; exact (((Below.refl N wr).setCell (p := ⟨A (.maps m), q * 3, none⟩) lMm.1 _).setCell (p := ⟨A (.maps m), q * 3 + 1, none⟩) lMm.1 _).setCell (p := ⟨A (.maps m), q * 3 + 2, none⟩) lMm.1 _
                obtain ⟨W3, hW3⟩ : ∃ W3, W3 = WB.alloc (.cells #[.bool true, .int .i64 mf, .bool mw] 35) := ⟨_, rfl⟩
                have BA : Below WB.heap.size WB W3 := by rw [hW3]; exact (Below.refl _ _).alloc (Nat.le_refl _) _
                have s3 : W3.heap.size = wr.heap.size + 1 := by rw [hW3, World.size_alloc, sB]
                have M3 := (HM.out.put kM (by rw [setG_len]; exact g2n) B3 (x0 := .maps m) hml (by omega) (fun j _ h2 => e3 j h2)).below hN BA
                have P3 := (HP.out.same (e3 _ lW)).same (BA.block _ (by omega))
                have R3 := hidE ((HR.out.same (e3 _ lW1)).same (BA.block _ (by omega)))
                have hfo := forgetMv N A _ m (q : Int) n cf cg z W3 M3.sep (by rw [setG_len]; exact g2n) hml (by omega)
                rw [settle_forget hm2] at hfo
                have HP3 := hidE P3
                have HM3 := hidE M3
                have hW3h := hidE hW3
                have hWBh := hidE hWB
                obtain ⟨x0, x1, x2, x3, x4, x5⟩ := P3
                have l3 : w.heap.size < W3.heap.size := by omega
                clear kM M3 e3 HMA HPA HRA hRm hWB hW3 s3 BA B3 sB HM HP HR
                go_wp2_with (fail)
                rw [← hWBh.out, ← hW3h.out]
                clear hWBh hW3h z0 z1 z2 u1 v0 v1 v2
                refine hfo.mono ?_
                rintro e w5 ⟨rfl, M5⟩
                have z5 := M5.hi
                have M05 := hidE (HM3.out.call hAl M5)
                have P5 := HP3.out.same (HM3.out.own hAl M5 (Nat.le_refl _) (by omega))
                have R5 := hidE (R3.out.same (HM3.out.own hAl M5 (Nat.le_succ _) (by omega)))
                have HP5 := hidE P5
                clear x0 x1 x2 x3 x4 x5 p0 p1 p3 f0 f1 f2
                obtain ⟨d0, d1, d2, i0, i1, i2⟩ := P5
                have l5 : w.heap.size < w5.heap.size := by omega
                clear hfo M5 HM3 R3 HP3
                go_wp2
                go_roundw
                case rel =>
                  refine ⟨q + 1, by omega, by go_num, ?_, HP5.out.putAll _ _ _, R5.out.same (by rw [Below.heap_setCell _ _ _ _ (by simp), Below.heap_setCell _ _ _ _ (by simp), Below.heap_setCell _ _ _ _ (by simp)])⟩
                  rw [Hnq'.out]
                  exact M05.out.off3 hAl (b := w.heap.size) (Nat.le_refl _) (by omega) hN _ _ _
                case measure => simp [intOf]; omega
              · have hc2 : (mf == (t : Int)) = false := by simpa using hmt
                have Hnq' := hidE (show runG T M h1 m (q + 1) = h2 by rw [Hnq.out, hc1, hc2]; rfl)
                clear Hnq hmf hmt
                go_wp2
                go_roundw
                case rel => exact ⟨q + 1, by omega, by go_num, by rw [Hnq'.out]; exact HMA.out, HPA.out, HRA.out⟩
                case measure => simp [intOf]; omega
        · obtain rfl : q = 6 := by omega
          go_wp2
          go_roundw
          case rel => exact ⟨m + 1, by omega, by go_num, by rw [Hnext.out]; exact HM.out, HP.out, HR.out⟩
          case measure => simp [intOf]; omega
    · obtain rfl : m = n := by omega
      obtain ⟨y0, y1, y2, e0, e1, e2⟩ := HR.out
      have lR : w.heap.size + 1 < wr.heap.size := by omega
      go_wp2
      refine bodyPost_ret (v := .agg #[.slice (some ⟨A .fr, 0, none⟩) 8 cf, .slice (some ⟨A .gs, 0, none⟩) m cg, .int .i64 z]) (by simp [results, Try.results96, go_sem, *]) rfl ?_
      rw [← Hend.out]
      exact ⟨rfl, (HM.out.off3 hAl (b := w.heap.size + 1) (by omega) (by omega) hN _ _ _).weak (Nat.le_refl _) (by omega)⟩
end Go.Proofs.Ytjegndgdpmlbaaa

/-
  A frame that gets a row of its own, new; the frame of a map written alone.
-/
set_option linter.unusedSimpArgs false
namespace Go.Proofs.Ytjegndgdpmlbaaa
open Go.RowKit

theorem SepH.newPage {w : World} {N : Nat} {A : Pl → Nat} {h : Hst} (k : SepH w N A h) {F : Nat} (hF : F < 8) {b c : Nat} {zs : List Int} (hz : zs.length = 4) (hb : N ≤ b ∧ b < w.heap.size) (hfree : ∀ x, x.ok h.guests.length → A x ≠ b) (hI : Ints w b 0 zs) (hR : Room w b 4) :
    SepH (w.setCell ⟨A .fr, F, none⟩ (.slice (some ⟨b, 0, none⟩) 4 c)) N (upd A (.page F) b) (setF h F zs) := by
  have hr := k.held .fr trivial
  have hbr : A .fr ≠ b := hfree .fr trivial
  have far : ∀ j, j ≠ A .fr → (w.setCell ⟨A .fr, F, none⟩ (.slice (some ⟨b, 0, none⟩) 4 c)).heap[j]? = w.heap[j]? := fun j hj => Below.heap_setCell _ _ _ _ (by simpa using hj)
  refine ⟨k.n2, by show (h.frames.set F zs).length = 8; rw [List.length_set]; exact k.f8, fun j hj => ?_, fun j hj => k.sz j hj, fun x y hx hy e => ?_, fun x hx => ?_, fun x hx => ?_⟩
  · show ((h.frames.set F zs).getD j []).length = 4
    rw [getD_set _ _ _ _ _ (by rw [k.f8]; exact hF)]
    by_cases e : j = F
    · rw [if_pos e]; exact hz
    · rw [if_neg e]; exact k.f4 j hj
  · by_cases ex : x = .page F
    · by_cases ey : y = .page F
      · rw [ex, ey]
      · rw [ex, upd_same, upd_ne _ _ ey] at e
        exact (hfree y hy e.symm).elim
    · by_cases ey : y = .page F
      · rw [ey, upd_same, upd_ne _ _ ex] at e
        exact (hfree x hx e).elim
      · rw [upd_ne _ _ ex, upd_ne _ _ ey] at e
        exact k.inj x y hx hy e
  · rw [World.size_setCell]
    by_cases ex : x = .page F
    · rw [ex, upd_same]; exact hb
    · rw [upd_ne _ _ ex]; exact k.low x hx
  · by_cases ex : x = .page F
    · subst ex
      show Ints _ (upd A (.page F) b (.page F)) 0 ((h.frames.set F zs).getD F []) ∧ Room _ (upd A (.page F) b (.page F)) 4
      rw [upd_same, getD_set_same _ _ _ _ (by rw [k.f8]; exact hF)]
      have s := same_block (far b (Ne.symm hbr))
      exact ⟨hI.same s (Nat.le_refl _) (Nat.lt_succ_self _), hR.same s (Nat.le_refl _) (Nat.lt_succ_self _)⟩
    · by_cases er : x = .fr
      · subst er
        intro i hi
        rw [upd_ne _ _ (by intro e; cases e)]
        obtain ⟨⟨c', q⟩, f⟩ := hr i hi
        refine ⟨?_, by rw [frozen_put]; exact f⟩
        have q' := cell_put (j := F) (u := .slice (some ⟨b, 0, none⟩) 4 c) q
        by_cases hip : i = F
        · subst hip
          rw [if_pos rfl] at q'
          rw [upd_same]
          exact ⟨c, q'⟩
        · rw [if_neg hip] at q'
          rw [upd_ne _ _ (fun e => hip (by cases e; rfl))]
          exact ⟨c', q'⟩
      · have h0 := (k.held x hx).same (far (A x) (fun e => er (k.inj x .fr hx trivial e)))
        cases x using Pl.seven with
        | fr => exact (er rfl).elim
        | gs => exact ⟨fun g' hg' => by rw [upd_ne _ _ (by intro e; cases e), upd_ne _ _ (by intro e; cases e), upd_ne _ _ (by intro e; cases e), upd_ne _ _ (by intro e; cases e)]; exact h0.1 g' hg', by rw [upd_ne _ _ (by intro e; cases e), upd_ne _ _ (by intro e; cases e)]; exact h0.2⟩
        | page i =>
          have hi' : i ≠ F := fun e => ex (by rw [e])
          show Ints _ (upd A (.page F) b (.page i)) 0 ((h.frames.set F zs).getD i []) ∧ Room _ (upd A (.page F) b (.page i)) 4
          rw [upd_ne _ _ ex, getD_set_ne _ _ _ hi']
          exact h0
        | maps g' => show Ents _ (upd A (.page F) b (.maps g')) 0 _ ∧ Room _ (upd A (.page F) b (.maps g')) 18; rw [upd_ne _ _ ex]; exact h0
        | row g' => exact fun i hi => by rw [upd_ne _ _ ex, upd_ne _ _ (by intro e; cases e)]; exact h0 i hi
        | shd g' => show Quads _ (upd A (.page F) b (.shd g')) 0 _ ∧ Room _ (upd A (.page F) b (.shd g')) 24; rw [upd_ne _ _ ex]; exact h0
        | dsk g' p' => show Ints _ (upd A (.page F) b (.dsk g' p')) 0 _ ∧ Room _ (upd A (.page F) b (.dsk g' p')) 4; rw [upd_ne _ _ ex]; exact h0

theorem page_app {W : World} {zs : List Int} {b' o' c : Nat} (hI : Ints W b' o' zs) (hb' : b' < W.heap.size) (hl : zs.length = 4) :
    ∃ p c' w1, appRun Try.prog 41 41 (.slice (some ⟨W.heap.size, 0, none⟩) 0 0) (.slice (some ⟨b', o', none⟩) 4 c) (W.alloc (.cells #[] 3)) = .ok (.slice (some ⟨p, 0, none⟩) 4 c') w1 ∧ Hid (w1.ownsRow W.heap.size 3 1 (.slice (some ⟨p, 0, none⟩) 4 c') 4 (zv zs) ∧ Below W.heap.size W w1) := by
  obtain ⟨i0, hi0, hz0, hz1, hz2⟩ := info_parts infoZ
  have own0 : (W.alloc (.cells #[] 3)).ownsRow W.heap.size 3 1 (.slice (some ⟨W.heap.size, 0, none⟩) 0 0) 0 [] := World.ownsRow_made W #[] 0 (Nat.le_refl _) (by simp [maxLen]) rfl
  have HN := ints_zv (hI.below ((Below.refl W.heap.size W).alloc (Nat.le_refl _) (.cells #[] 3)) hb')
  obtain ⟨p, c', w1, hrun, hown, hgrow, hat, hlt⟩ := run_append_lies (P := Try.prog) (W.alloc (.cells #[] 3)) 41 41 W.heap.size 3 i0 (.int .i64 0) 1 8 Try.underlying41 hi0 hz0 hz1 hz2 rfl (by decide) _ 0 [] own0 ⟨b', o', none⟩ 4 c (zv zs) (by rw [zv, List.length_map]; omega) HN (zv_one _) (by decide) (by simp [maxLen]) (by omega) (by simp) _ rfl
  rw [Nat.zero_add, List.nil_append] at hown
  rw [Nat.zero_add] at hrun
  refine ⟨p, c', w1, hrun, hown, ?_⟩
  exact Below.grown ((Below.refl W.heap.size W).alloc (Nat.le_refl _) _) hgrow (by simp) (fun j hj => by have := (own0.lt _ hj).1; omega)
theorem Mv.newPage {w w' w2 : World} {M N n : Nat} {A : Pl → Nat} {h' : Hst} (a : Mv w w' M N n A A h') {F : Nat} (hF : F < 8) {b c : Nat} {zs : List Int} (hz : zs.length = 4) (hB : Below w'.heap.size w' w2) (hN : N ≤ w.heap.size) (hb : w'.heap.size ≤ b ∧ b < w2.heap.size) (hI : Ints w2 b 0 zs) (hR : Room w2 b 4) :
    Mv w (w2.setCell ⟨A .fr, F, none⟩ (.slice (some ⟨b, 0, none⟩) 4 c)) M N n A (upd A (.page F) b) (setF h' F zs) := by
  have a2 := a.below hN hB
  have hlo := a.lo
  have hhi := a.hi
  have kS := a2.sep.newPage (c := c) hF hz (b := b) ⟨by omega, hb.2⟩ (fun x hx => by have := (a.sep.low x hx).2; omega) hI hR
  have lF := a2.sep.low .fr trivial
  refine ⟨upd_ne _ _ (by intro e; cases e), upd_ne _ _ (by intro e; cases e), upd_ne _ _ (by intro e; cases e), fun x hx => ?_, kS, a.len, a2.bel.setCell (p := ⟨A .fr, F, none⟩) lF.1 _, fun j hj hx => ?_, hlo, by rw [World.size_setCell]; exact a2.hi⟩
  · by_cases e : x = .page F
    · right; rw [e, upd_same]; omega
    · left; exact ⟨x, hx, upd_ne _ _ e⟩
  · rw [Below.heap_setCell _ _ _ _ (by simpa using (hx .fr trivial).symm)]
    exact a2.keep j hj hx

/-- The frame of a map is written alone. -/
theorem SepH.mapF {w : World} {N : Nat} {A : Pl → Nat} {h : Hst} (k : SepH w N A h) {g : Nat} (hg : g < h.guests.length) {i : Nat} (hi : i < 6) (b : Int) :
    SepH (w.setCell ⟨A (.maps g), i * 3 + 1, none⟩ (.int .i64 b)) N A (setM h g i ((mAt h g i).1, b, (mAt h g i).2.2)) := by
  obtain ⟨s1, s2, s3, s4⟩ := k.sz g hg
  have hh := k.held (.maps g) hg
  refine k.put (.maps g) hg (setG_len _ _ _) k.f8 k.f4 (fun j hj => ?_) (by simp) (fun j hj => ?_) (fun x hx hne hx2 => ?_) ⟨fun j hj => ?_, ?_⟩
  · unfold setM
    by_cases e : j = g
    · subst e
      rw [gOf_set_same hg]
      exact ⟨by show ((gOf h j).maps.set i _).length = 6; rw [List.length_set]; exact s1, s2, s3, s4⟩
    · rw [gOf_set_ne e]; exact k.sz j hj
  · rw [Below.heap_setCell _ _ _ _ (by simpa using hj)]
  · exact held_setG hg x hx2 (fun e => (hne e).elim) (fun _ => rfl) (fun p _ => rfl)
  · unfold setM at hj ⊢
    rw [gOf_set_same hg] at hj ⊢
    have hj6 : j < 6 := by
      have : j < ((gOf h g).maps.set i ((mAt h g i).1, b, (mAt h g i).2.2)).length := hj
      rw [List.length_set, s1] at this
      exact this
    obtain ⟨q0, q1, q2⟩ := hh.1 j (by omega)
    rw [Nat.zero_add, show ((false, 0, false) : E3) = noM from rfl] at q0 q1 q2
    have e : (withMs (gOf h g) ((gOf h g).maps.set i ((mAt h g i).1, b, (mAt h g i).2.2))).maps.getD j noM = if j = i then ((mAt h g i).1, b, (mAt h g i).2.2) else (gOf h g).maps.getD j noM := getD_set _ _ _ _ _ (by omega)
    rw [show ((false, 0, false) : E3) = noM from rfl, e, Nat.zero_add]
    refine ⟨(cell_put q0).trans ?_, (cell_put q1).trans ?_, (cell_put q2).trans ?_⟩
    · rw [if_neg (by omega)]
      by_cases hji : j = i
      · rw [if_pos hji, hji]; rfl
      · rw [if_neg hji]
    · by_cases hji : j = i
      · rw [if_pos (by omega), if_pos hji]
      · rw [if_neg (by omega), if_neg hji]
    · rw [if_neg (by omega)]
      by_cases hji : j = i
      · rw [if_pos hji, hji]; rfl
      · rw [if_neg hji]
  · exact hh.2.put _
end Go.Proofs.Ytjegndgdpmlbaaa

/-
  What the given l13Move does.
-/
set_option linter.unusedSimpArgs false
namespace Go.Proofs.Ytjegndgdpmlbaaa
open Go.RowKit
attribute [local go_sem ↓] Go.wp_at_zero Go.wp_at_succ exec_app
attribute [local go_sem] bigNext_ok

set_option maxRecDepth 100000 in
set_option maxHeartbeats 8000000 in
theorem specMove (N : Nat) (A : Pl → Nat) (h : Hst) (F : Nat) (n cf cg : Nat) (w : World) (k : SepH w N A h) (kk : OkH h) (hn : h.guests.length = n) (hF : F < 8) (hN : N ≤ w.heap.size) :
    Calls Try.prog 110 #[.agg #[.slice (some ⟨A .fr, 0, none⟩) 8 cf, .slice (some ⟨A .gs, 0, none⟩) n cg, .int .i64 h.hand], .int .i64 F] w fun e w' => e = .returned (.tuple #[.agg #[.slice (some ⟨A .fr, 0, none⟩) 8 cf, .slice (some ⟨A .gs, 0, none⟩) n cg, .int .i64 h.hand], .bool (moveB h F)]) ∧ ∃ A', Mv w w' w.heap.size N n A A' (moveH h F) := by
  obtain ⟨W2, hW2⟩ : ∃ W2, W2 = (w.alloc (.cells #[.slice (some ⟨A .fr, 0, none⟩) 8 cf, .slice (some ⟨A .gs, 0, none⟩) n cg, .int .i64 h.hand] 26)).alloc (.cells #[.slice none 0 0, .slice none 0 0, .int .i64 0] 26) := ⟨_, rfl⟩
  have B2 : Below w.heap.size w W2 := by rw [hW2]; exact ((Below.refl _ _).alloc (Nat.le_refl _) _).alloc (by simp) _
  have s2 : W2.heap.size ≤ w.heap.size + 2 ∧ w.heap.size + 2 ≤ W2.heap.size := by rw [hW2]; simp
  have p2 : Var3 W2 w.heap.size (.slice (some ⟨A .fr, 0, none⟩) 8 cf) (.slice (some ⟨A .gs, 0, none⟩) n cg) (.int .i64 h.hand) := by rw [hW2]; exact (var3_new w _ _ _ _).allocK _
  have r2 : Var3 W2 (w.heap.size + 1) (.slice none 0 0) (.slice none 0 0) (.int .i64 0) := by rw [hW2]; exact var3_newK (by simp)
  have hAl : ∀ x, x.ok n → A x < w.heap.size := fun x hx => (k.low x (by rw [hn]; exact hx)).2
  have m2 : Mv w W2 (w.heap.size + 2) N n A A h := Mv.start k hn B2 hN (Nat.le_add_right _ _) s2.2
  have hH2 := fun (W : World) (M : Mv w W (w.heap.size + 2) N n A A h) => (show HostIn W N W.heap.size (.slice (some ⟨A .fr, 0, none⟩) 8 cf) (.slice (some ⟨A .gs, 0, none⟩) n cg) h by have := M.sep.hostIn cf cg; rw [hn] at this; exact this)
  have hfi := specFirst N W2.heap.size _ _ cf n cg h W2 (hH2 W2 m2) (Nat.le_refl _) kk.n2 (fun i hi => (kk.six i hi).1)
  have hus := fun (W : World) (M : Mv w W (w.heap.size + 2) N n A A h) => specUsers N W.heap.size _ _ h (F : Int) W (hH2 W M) (Nat.le_refl _) (by have := kk.n2; omega) (fun i hi => by rw [show (h.guests.getD i noG).maps.length = 6 from (kk.six i hi).1]; omega)
  have hmB : moveB h F = (decide (0 ≤ firstH h) && decide (0 < usersH h F)) := rfl
  have hmH : moveH h F = bif moveB h F then moveP h F (firstH h).toNat else h := rfl
  have hfc := firstH_cases h
  have HmB := hidE hmB
  have HmH := hidE hmH
  obtain ⟨mb, hmb⟩ : ∃ mb, mb = moveB h F := ⟨_, rfl⟩
  obtain ⟨mh, hmh⟩ : ∃ mh, mh = moveH h F := ⟨_, rfl⟩
  rw [← hmb, ← hmh]
  rw [← hmb] at HmB HmH
  rw [← hmh] at HmH
  obtain ⟨fh, hfh⟩ : ∃ fh, fh = firstH h := ⟨_, rfl⟩
  rw [← hfh] at hfi HmB HmH hfc
  obtain ⟨uu, huu⟩ : ∃ uu, uu = usersH h F := ⟨_, rfl⟩
  rw [← huu] at hus HmB
  have Hfc := hidE hfc
  have Huu := hidE huu.symm
  clear hmB hmH hmb hmh hfh huu hfc
  go_enter Try.func110, Try.ntmps110
  go_wp2_with (fail)
  rw [← hW2]
  clear hW2
  refine hfi.mono ?_
  rintro e w3 ⟨rfl, B3⟩
  have m3 := m2.below hN B3
  have s3 := m3.hi
  have P3 := hidE (p2.same (B3.block _ (by omega)))
  have R3 := hidE (r2.same (B3.block _ (by omega)))
  have hus3 := hus w3 m3
  clear hfi m2 p2 r2 B3 hus B2
  obtain ⟨p0, p1, p3, f0, f1, f2⟩ := P3.out
  obtain ⟨y0, y1, y2, d0, d1, d2⟩ := R3.out
  have lP : w.heap.size < w3.heap.size := by omega
  have lR : w.heap.size + 1 < w3.heap.size := by omega
  have M3 := hidE m3
  clear m3
  rcases Hfc.out with ⟨rfl, _⟩ | ⟨T, rfl, hT8, hTu, _⟩
  · have hb : mb = false := by rw [HmB.out]; rfl
    have hh : mh = h := by rw [HmH.out, hb]; rfl
    have Hbh := hidE (And.intro hb hh)
    clear hus3 hb hh
    go_wp2
    refine bodyPost_ret (v := .tuple #[.agg #[.slice (some ⟨A .fr, 0, none⟩) 8 cf, .slice (some ⟨A .gs, 0, none⟩) n cg, .int .i64 h.hand], .bool false]) (by simp [results, Try.results110, go_sem, *]) rfl ?_
    rw [Hbh.out.1, Hbh.out.2]
    exact ⟨rfl, A, (M3.out.off3 hAl (b := w.heap.size + 1) (by omega) (by omega) hN _ _ _).weak (Nat.le_refl _) (by omega)⟩
  · have hTi : ¬ (T : Int) < 0 := by omega
    go_wp2_with (fail)
    refine hus3.mono ?_
    rintro e w4 ⟨rfl, B4⟩
    have M4 := hidE (M3.out.below hN B4)
    have s4 := M4.out.hi
    have P4 := hidE (P3.out.same (B4.block _ (by omega)))
    have R4 := hidE (R3.out.same (B4.block _ (by omega)))
    clear hus3 B4 p0 p1 p3 f0 f1 f2 y0 y1 y2 d0 d1 d2 P3 R3 M3
    obtain ⟨p0, p1, p3, f0, f1, f2⟩ := P4.out
    obtain ⟨y0, y1, y2, d0, d1, d2⟩ := R4.out
    have lP4 : w.heap.size < w4.heap.size := by omega
    have lR4 : w.heap.size + 1 < w4.heap.size := by omega
    by_cases hu0 : uu = 0
    · have hb : mb = false := by rw [HmB.out, hu0]; simp
      have hh : mh = h := by rw [HmH.out, hb]; rfl
      have Hbh := hidE (And.intro hb hh)
      have hui : ((uu : Int) == 0) = true := by simp [hu0]
      clear hb hh
      go_wp2
      refine bodyPost_ret (v := .tuple #[.agg #[.slice (some ⟨A .fr, 0, none⟩) 8 cf, .slice (some ⟨A .gs, 0, none⟩) n cg, .int .i64 h.hand], .bool false]) (by simp [results, Try.results110, go_sem, *]) rfl ?_
      rw [Hbh.out.1, Hbh.out.2]
      exact ⟨rfl, A, (M4.out.off3 hAl (b := w.heap.size + 1) (by omega) (by omega) hN _ _ _).weak (Nat.le_refl _) (by omega)⟩
    · have hui : ((uu : Int) == 0) = false := by simp; omega
      have hb : mb = true := by rw [HmB.out]; simp; omega
      have hh : mh = moveP h F T := by rw [HmH.out, hb, Int.toNat_natCast]; rfl
      have Hbh := hidE (And.intro hb hh)
      clear hb hh
      have hne : T ≠ F := fun e => by subst e; exact hu0 (by rw [← Huu.out]; exact hTu)
      obtain ⟨⟨c2, x1⟩, z1⟩ := M4.out.sep.held .fr trivial F hF
      obtain ⟨⟨c3, x3⟩, z3⟩ := M4.out.sep.held .fr trivial T hT8
      have hIF := (M4.out.sep.held (.page F) hF).1
      have hF4 := M4.out.sep.f4 F hF
      have lPF := (M4.out.sep.low (.page F) hF).2
      have lFr := (M4.out.sep.low .fr trivial).2
      have lFr0 := hAl .fr trivial
      have hFi : (F : Int) < 8 := by omega
      have hT8i : (T : Int) < 8 := by omega
      obtain ⟨pg, cp, w6, happ, HR6⟩ := page_app (W := w4.drew) (c := c2) (hIF.below ((Below.refl w4.heap.size w4).drew) lPF) (by simpa using lPF) hF4
      simp only [World.size_drew, World.alloc_drew] at happ HR6
      obtain ⟨Sx, hSE⟩ : ∃ Sx : World → Prop, Sx = fun W' => (W'.cell? ⟨w.heap.size, 0, none⟩ = some (.slice (some ⟨A .fr, 0, none⟩) 8 cf) ∧ W'.cell? ⟨A .fr, F, none⟩ = some (.slice (some ⟨A (.page F), 0, none⟩) 4 c2)) := ⟨_, rfl⟩
      have hcells : ∀ W', Sx W' → (W'.cell? ⟨w.heap.size, 0, none⟩ = some (.slice (some ⟨A .fr, 0, none⟩) 8 cf) ∧ W'.cell? ⟨A .fr, F, none⟩ = some (.slice (some ⟨A (.page F), 0, none⟩) 4 c2)) := fun W' h => by rw [hSE] at h; exact h
      have hB6 : Below w4.heap.size w4 w6 := (Below.refl w4.heap.size w4).drew.trans HR6.out.2
      have s6 := hB6.size
      have hSB : ∀ W', Below w4.heap.size w4 W' → Sx W' := fun W' B => by
        rw [hSE]
        exact ⟨(B.cell (p := ⟨w.heap.size, 0, none⟩) lP4).trans p0, (B.cell (p := ⟨A .fr, F, none⟩) lFr).trans x1⟩
      have nFr : A .fr ≠ w.heap.size := by omega
      have nFr' := Ne.symm nFr
      have x36 := (hB6.cell (p := ⟨A .fr, T, none⟩) lFr).trans x3
      have z36 := (hB6.frozen (p := ⟨A .fr, T, none⟩) lFr).trans z3
      have lFr6 : A .fr < w6.heap.size := by omega
      have hown := HR6.out.1
      have hpg : w4.heap.size ≤ pg ∧ pg < w6.heap.size := hown.lt pg rfl
      have hMn := M4.out.newPage (F := T) (b := pg) (c := cp) hT8 hF4 hB6 hN hpg (own_intsS hown) (by have := own_room hown; simpa using this)
      obtain ⟨W7, hW7⟩ : ∃ W7, W7 = w6.setCell ⟨A .fr, T, none⟩ (.slice (some ⟨pg, 0, none⟩) 4 cp) := ⟨_, rfl⟩
      rw [← hW7] at hMn
      have hS7 : Sx W7 := by
        rw [hSE, hW7]
        exact ⟨(cell_off nFr').trans ((hB6.cell (p := ⟨w.heap.size, 0, none⟩) lP4).trans p0), cellk_else ((hB6.cell (p := ⟨A .fr, F, none⟩) lFr).trans x1) (Ne.symm hne)⟩
      have HMn := hidE hMn
      have P7 := hidE ((P4.out.same (hB6.block _ (by omega))).same (w' := W7) (by rw [hW7, Below.heap_setCell _ _ _ _ (by simpa using nFr')]))
      have R7 := hidE ((R4.out.same (hB6.block _ (by omega))).same (w' := W7) (by rw [hW7, Below.heap_setCell _ _ _ _ (by simp; omega)]))
      have s7 : W7.heap.size = w6.heap.size := by rw [hW7]; simp
      clear hMn hIF hF4 hown HR6 hSE
      go_wp2_with (fail)
      refine wp_region_held_drew (S := Sx) (by kernel_rfl) (hSB _ (Below.refl _ _).drew) (fun hHeld => ?_)
      refine wpAnyH_take (i := 0) (v := ?_) (by simp only [List.getElem?_toArray, List.getElem?_cons_succ, List.getElem?_cons_zero]; rfl) (by kernel_rfl) (by kernel_rfl) (by kernel_rfl) (by exact fun _ _ _ h => h) (Or.inl ⟨by rfl, ?_⟩) hHeld ?_
      rotate_left
      · intro W' hW'; go_simp <;> with_reducible rfl
      simp only [Act.put, List.setIfInBounds_toArray, List.set_cons_zero, List.set_cons_succ]
      refine wpAnyH_take (i := 1) (v := ?_) (by simp only [List.getElem?_toArray, List.getElem?_cons_succ, List.getElem?_cons_zero]; rfl) (by kernel_rfl) (by kernel_rfl) (by kernel_rfl) (by exact fun _ _ _ h => h) (Or.inl ⟨by rfl, ?_⟩) hHeld ?_
      rotate_left
      · intro W' hW'; obtain ⟨y0,y1⟩ := hcells W' hW'; go_simp <;> with_reducible rfl
      simp only [Act.put, List.setIfInBounds_toArray, List.set_cons_zero, List.set_cons_succ]
      refine wpAnyH_take (i := 2) (v := ?_) (by simp only [List.getElem?_toArray, List.getElem?_cons_succ, List.getElem?_cons_zero]; rfl) (by kernel_rfl) (by kernel_rfl) (by kernel_rfl) (by exact fun _ _ _ h => h) (Or.inl ⟨by rfl, ?_⟩) hHeld ?_
      rotate_left
      · intro W' hW'; go_simp <;> with_reducible rfl
      simp only [Act.put, List.setIfInBounds_toArray, List.set_cons_zero, List.set_cons_succ]
      refine wpAnyH_take (i := 4) (v := ?_) (by simp only [List.getElem?_toArray, List.getElem?_cons_succ, List.getElem?_cons_zero]; rfl) (by kernel_rfl) (by kernel_rfl) (by kernel_rfl) (by exact fun _ _ _ h => h) (Or.inl ⟨by rfl, ?_⟩) hHeld ?_
      rotate_left
      · intro W' hW'; go_simp <;> with_reducible rfl
      simp only [Act.put, List.setIfInBounds_toArray, List.set_cons_zero, List.set_cons_succ]
      refine wpAnyH_take (i := 5) (v := ?_) (by simp only [List.getElem?_toArray, List.getElem?_cons_succ, List.getElem?_cons_zero]; rfl) (by kernel_rfl) (by kernel_rfl) (by kernel_rfl) (by exact fun _ _ _ h => h) (Or.inl ⟨by rfl, ?_⟩) hHeld ?_
      rotate_left
      · intro W' hW'; obtain ⟨y0,y1⟩ := hcells W' hW'; go_simp <;> with_reducible rfl
      simp only [Act.put, List.setIfInBounds_toArray, List.set_cons_zero, List.set_cons_succ]
      refine wpAnyH_take (i := 6) (v := ?_) (by simp only [List.getElem?_toArray, List.getElem?_cons_succ, List.getElem?_cons_zero]; rfl) (by kernel_rfl) (by kernel_rfl) (by kernel_rfl) (by exact fun _ _ _ h => h) (Or.inl ⟨by rfl, ?_⟩) hHeld ?_
      rotate_left
      · intro W' hW'; go_simp <;> with_reducible rfl
      simp only [Act.put, List.setIfInBounds_toArray, List.set_cons_zero, List.set_cons_succ]
      refine wpAnyH_take (i := 7) (v := ?_) (by simp only [List.getElem?_toArray, List.getElem?_cons_succ, List.getElem?_cons_zero]; rfl) (by kernel_rfl) (by kernel_rfl) (by kernel_rfl) (by exact fun _ _ _ h => h) (Or.inl ⟨by rfl, ?_⟩) hHeld ?_
      rotate_left
      · intro W' hW'; go_simp <;> with_reducible rfl
      simp only [Act.put, List.setIfInBounds_toArray, List.set_cons_zero, List.set_cons_succ]
      refine wpAnyH_take (i := 8) (v := ?_) (by simp only [List.getElem?_toArray, List.getElem?_cons_succ, List.getElem?_cons_zero]; rfl) (by kernel_rfl) (by kernel_rfl) (by kernel_rfl) (by exact fun _ _ _ h => h) (Or.inl ⟨by rfl, ?_⟩) hHeld ?_
      rotate_left
      · intro W' hW'; obtain ⟨y0,y1⟩ := hcells W' hW'; go_simp <;> with_reducible rfl
      simp only [Act.put, List.setIfInBounds_toArray, List.set_cons_zero, List.set_cons_succ]
      refine wpAnyH_ready (rs := [3]) (by kernel_rfl) (by simp) ?_
      refine AllReadyH.cons (by simp only [List.getElem?_toArray, List.getElem?_cons_succ, List.getElem?_cons_zero]; rfl) (fun K hK => ?_) AllReadyH.nil
      rw [if_pos (by rfl)]
      go_simp
      refine hK.out _ _ (hSB _ (((Below.refl w4.heap.size w4).alloc (Nat.le_refl _) _).drew)) (fun hHeld => ?_)
      clear hK K
      try simp only [Act.put, List.setIfInBounds_toArray, List.set_cons_zero, List.set_cons_succ]
      refine wpAnyH_ready (rs := [9]) (by kernel_rfl) (by simp) ?_
      refine AllReadyH.cons (by simp only [List.getElem?_toArray, List.getElem?_cons_succ, List.getElem?_cons_zero]; rfl) (fun K hK => ?_) AllReadyH.nil
      rw [if_pos (by rfl)]
      go_simp
      refine hK.out _ _ (hSB _ hB6) (fun hHeld => ?_)
      clear hK K
      try simp only [Act.put, List.setIfInBounds_toArray, List.set_cons_zero, List.set_cons_succ]
      refine wpAnyH_take (i := 10) (v := ?_) (by simp only [List.getElem?_toArray, List.getElem?_cons_succ, List.getElem?_cons_zero]; rfl) (by kernel_rfl) (by kernel_rfl) (by kernel_rfl) (by exact fun _ _ _ h => h) (Or.inl ⟨by rfl, ?_⟩) hHeld ?_
      rotate_left
      · intro W' hW'; go_simp <;> with_reducible rfl
      simp only [Act.put, List.setIfInBounds_toArray, List.set_cons_zero, List.set_cons_succ]
      refine wpAnyH_ready (rs := [11]) (by kernel_rfl) (by simp) ?_
      refine AllReadyH.cons (by simp only [List.getElem?_toArray, List.getElem?_cons_succ, List.getElem?_cons_zero]; rfl) (fun K hK => ?_) AllReadyH.nil
      rw [if_pos (by rfl)]
      go_simp
      rw [← hW7]
      refine hK.out _ _ hS7 (fun hHeld => ?_)
      clear hK K
      refine wpAnyH_done (by kernel_rfl) ?_ _
      obtain ⟨h1, hh1⟩ : ∃ h1, h1 = setF h T (h.frames.getD F []) := ⟨_, rfl⟩
      have hend := runH_move kk.six F T
      rw [show setF h T (fAt h F) = h1 from hh1.symm, hn] at hend
      have Hend := hidE hend
      have hlen1 : h1.guests.length = n := by rw [hh1]; exact hn
      rw [← hh1] at HMn
      have hT0 : T ≠ F := hne
      have hsz7 : w.heap.size + 2 ≤ w4.heap.size := s4
      obtain ⟨A1, hA1⟩ : ∃ A1, A1 = upd A (.page T) pg := ⟨_, rfl⟩
      rw [← hA1] at HMn
      clear hA1
      clear hHeld hS7 hcells hSB happ x1 z1 x3 z3 x36 z36 hB6 hpg p0 p1 p3 f0 f1 f2 y0 y1 y2 d0 d1 d2 M4 P4 R4 hh1 hW7 hend hui hu0
      obtain ⟨TT, hTT⟩ : ∃ TT, TT = inF (F : Int) := ⟨_, rfl⟩
      obtain ⟨MM, hMM⟩ : ∃ MM : E3 → E3, MM = fun m => (true, (T : Int), m.2.2) := ⟨_, rfl⟩
      rw [← hTT, ← hMM] at Hend
      have HTM := hidE (And.intro hTT hMM)
      clear hTT hMM
      have hgs := HMn.out.gs
      have hfr := HMn.out.fr
      have hlen := hidE (fun m => (runH_len (T := TT) (M := MM) h1 m).1.trans hlen1)
      have M2 : Hid (Mv w W7 (w.heap.size + 2) N n A A1 (runH TT MM h1 0)) := HMn.out
      have lG0 := hAl .gs trivial
      have hn2 : n ≤ 2 := by rw [← hn]; exact kk.n2
      have Hgf := hidE (And.intro hgs hfr)
      clear hgs hfr HMn
      try go_wp2_with (fail)
      go_loopw [7, 8] (fun i _ wr => ∃ m : Nat, m ≤ n ∧ i = .int .i64 m ∧ Hid (Mv w wr (w.heap.size + 2) N n A A1 (runH TT MM h1 m)) ∧ Hid (Var3 wr w.heap.size (.slice (some ⟨A .fr, 0, none⟩) 8 cf) (.slice (some ⟨A .gs, 0, none⟩) n cg) (.int .i64 h.hand)) ∧ Hid (Var3 wr (w.heap.size + 1) (.slice none 0 0) (.slice none 0 0) (.int .i64 0))) (fun i _ _ => n - (intOf i).toNat)
      case atStart => exact ⟨0, Nat.zero_le _, rfl, M2.out, P7.out, R7.out⟩
      case round =>
        clear M2 P7 R7
        obtain ⟨m, hm, rfl, HM, HP, HR⟩ := hrel
        obtain ⟨p0, p1, p3, f0, f1, f2⟩ := HP.out
        have sM := HM.out.hi
        have lP : w.heap.size < wr.heap.size := by omega
        by_cases hml : m < n
        · have hmi : (m : Int) < (n : Int) := by omega
          have o2' := hlen.out m
          have hlG := hidE (fun q => (runG_len (T := TT) (M := MM) (runH TT MM h1 m) m q).1.trans o2')
          have Hnext := hidE (show runH TT MM h1 (m + 1) = runG TT MM (runH TT MM h1 m) m 6 from rfl)
          have HM0 : Hid (Mv w wr (w.heap.size + 2) N n A A1 (runG TT MM (runH TT MM h1 m) m 0)) := HM.out
          clear HM
          generalize runH TT MM h1 m = h3 at *
          go_wp2_with (fail)
          go_loopw [8] (fun i wq => ∃ q : Nat, q ≤ 6 ∧ i = .int .i64 q ∧ Hid (Mv w wq (w.heap.size + 2) N n A A1 (runG TT MM h3 m q)) ∧ Hid (Var3 wq w.heap.size (.slice (some ⟨A .fr, 0, none⟩) 8 cf) (.slice (some ⟨A .gs, 0, none⟩) n cg) (.int .i64 h.hand)) ∧ Hid (Var3 wq (w.heap.size + 1) (.slice none 0 0) (.slice none 0 0) (.int .i64 0))) (fun i _ => 6 - (intOf i).toNat)
          case atStart => exact ⟨0, Nat.zero_le _, rfl, HM0.out, HP.out, HR.out⟩
          case round =>
            clear HM0 HP HR p0 p1 p3 f0 f1 f2
            obtain ⟨q, hq, rfl, HM, HP, HR⟩ := hrel
            obtain ⟨p0, p1, p3, f0, f1, f2⟩ := HP.out
            have sMq := HM.out.hi
            have lPq : w.heap.size < wr.heap.size := by omega
            by_cases hql : q < 6
            · have hqi : (q : Int) < 6 := by omega
              have g2n := hlG.out q
              have Hnq := hidE (show runG TT MM h3 m (q + 1) = bif TT (mAt (runG TT MM h3 m q) m q) then settleP (runG TT MM h3 m q) m q (MM (mAt (runG TT MM h3 m q) m q)) else runG TT MM h3 m q from rfl)
              generalize runG TT MM h3 m q = h2 at *
              have hm2 : m < h2.guests.length := by rw [g2n]; exact hml
              obtain ⟨⟨c1, u1⟩, _, _⟩ := (HM.out.sep.held .gs trivial).1 m hm2
              rw [Hgf.out.1] at u1
              obtain ⟨v0, v1, v2⟩ := (HM.out.sep.held (.maps m) hm2).1 q (by rw [(HM.out.sep.sz m hm2).1]; exact hql)
              rw [Nat.zero_add, show ((false, 0, false) : E3) = noM from rfl, show (gOf h2 m).maps.getD q noM = mAt h2 m q from rfl] at v0 v1 v2
              have lM : A1 (.maps m) < wr.heap.size := (HM.out.sep.low (.maps m) hm2).2
              have lGq : A .gs < wr.heap.size := by omega
              have kF := HM.out.sep.mapF (g := m) hm2 hql (T : Int)
              obtain ⟨mi, hmi2⟩ : ∃ mi, mi = (mAt h2 m q).1 := ⟨_, rfl⟩
              obtain ⟨mf, hmf2⟩ : ∃ mf, mf = (mAt h2 m q).2.1 := ⟨_, rfl⟩
              obtain ⟨mw, hmw2⟩ : ∃ mw, mw = (mAt h2 m q).2.2 := ⟨_, rfl⟩
              rw [← hmi2] at v0
              rw [← hmf2] at v1
              rw [← hmw2] at v2
              rw [← hmi2, ← hmw2] at kF
              have hTv : TT (mAt h2 m q) = (mi && (mf == (F : Int))) := by rw [HTM.out.1, inF, ← hmi2, ← hmf2]
              have hMv : MM (mAt h2 m q) = (true, (T : Int), mw) := by rw [HTM.out.2, hmw2]
              rw [hTv, hMv] at Hnq
              clear hmi2 hmf2 hmw2 hTv hMv
              cases mi
              · have Hnq' := hidE (show runG TT MM h3 m (q + 1) = h2 by rw [Hnq.out]; rfl)
                clear Hnq kF
                go_wp2
                go_roundw
                case rel => exact ⟨q + 1, by omega, by go_num, by rw [Hnq'.out]; exact HM.out, HP.out, HR.out⟩
                case measure => simp [intOf]; omega
              · by_cases hmf : mf = (F : Int)
                · have Hnq' := hidE (show runG TT MM h3 m (q + 1) = settleP h2 m q (true, (T : Int), mw) by rw [Hnq.out, hmf]; simp)
                  have hc1 : (mf == (F : Int)) = true := by simpa using hmf
                  clear Hnq hmf
                  have lMm := HM.out.sep.low (.maps m) hm2
                  obtain ⟨_, hRm⟩ := HM.out.sep.held (.maps m) hm2
                  have z1 := (hRm (q * 3 + 1) (by omega)).2
                  have lW : w.heap.size ≠ A1 (.maps m) := Ne.symm (HM.out.ne (by omega) (fun x hx => by have := hAl x hx; omega) (.maps m) hml)
                  have lW1 : w.heap.size + 1 ≠ A1 (.maps m) := Ne.symm (HM.out.ne (by omega) (fun x hx => by have := hAl x hx; omega) (.maps m) hml)
                  obtain ⟨W3, hW3⟩ : ∃ W3, W3 = wr.setCell ⟨A1 (.maps m), q * 3 + 1, none⟩ (.int .i64 T) := ⟨_, rfl⟩
                  rw [← hW3] at kF
                  have e3 : ∀ j, j ≠ A1 (.maps m) → W3.heap[j]? = wr.heap[j]? := fun j h2 => by rw [hW3, Below.heap_setCell _ _ _ _ (by simpa using h2)]
                  have s3 : W3.heap.size = wr.heap.size := by rw [hW3]; simp
                  have B3 : Below N wr W3 := by rw [hW3]; exact (Below.refl N wr).setCell (p := ⟨A1 (.maps m), q * 3 + 1, none⟩) lMm.1 _
                  have M3 := HM.out.put kF (by rw [setM_len]; exact g2n) B3 (x0 := .maps m) hml (by omega) (fun j _ h2 => e3 j h2)
                  have P3 := HP.out.same (e3 _ lW)
                  have R3 := hidE (HR.out.same (e3 _ lW1))
                  have hfo := forgetMv N A1 _ m (q : Int) n cf cg h.hand W3 M3.sep (by rw [setM_len]; exact g2n) hml (by omega)
                  rw [show ∀ x, setM h2 m q x = setG h2 m (withMs (gOf h2 m) ((gOf h2 m).maps.set q x)) from fun _ => rfl, settle_forget hm2, Hgf.out.1, Hgf.out.2] at hfo
                  have HP3 := hidE P3
                  have HM3 := hidE M3
                  have hW3h := hidE hW3
                  obtain ⟨x0, x1, x2, x3, x4, x5⟩ := P3
                  have l3 : w.heap.size < W3.heap.size := by omega
                  clear kF M3 e3 hRm hW3 s3 B3 HM HP HR
                  go_wp2_with (fail)
                  rw [← hW3h.out]
                  clear hW3h z1 u1 v0 v1 v2
                  refine hfo.mono ?_
                  rintro e w5 ⟨rfl, M5⟩
                  have z5 := M5.hi
                  have M05 := hidE (HM3.out.call hAl M5)
                  have P5 := HP3.out.same (HM3.out.own hAl M5 (Nat.le_refl _) (by omega))
                  have R5 := hidE (R3.out.same (HM3.out.own hAl M5 (Nat.le_succ _) (by omega)))
                  have HP5 := hidE P5
                  clear x0 x1 x2 x3 x4 x5 p0 p1 p3 f0 f1 f2
                  obtain ⟨d0, d1, d2, i0, i1, i2⟩ := P5
                  have l5 : w.heap.size < w5.heap.size := by omega
                  clear hfo M5 HM3 R3 HP3
                  go_wp2
                  go_roundw
                  case rel =>
                    refine ⟨q + 1, by omega, by go_num, ?_, HP5.out.putAll _ _ _, R5.out.same (by rw [Below.heap_setCell _ _ _ _ (by simp), Below.heap_setCell _ _ _ _ (by simp), Below.heap_setCell _ _ _ _ (by simp)])⟩
                    rw [Hnq'.out]
                    exact M05.out.off3 hAl (b := w.heap.size) (Nat.le_refl _) (by omega) hN _ _ _
                  case measure => simp [intOf]; omega
                · have hc1 : (mf == (F : Int)) = false := by simpa using hmf
                  have Hnq' := hidE (show runG TT MM h3 m (q + 1) = h2 by rw [Hnq.out, hc1]; rfl)
                  clear Hnq hmf kF
                  go_wp2
                  go_roundw
                  case rel => exact ⟨q + 1, by omega, by go_num, by rw [Hnq'.out]; exact HM.out, HP.out, HR.out⟩
                  case measure => simp [intOf]; omega
            · obtain rfl : q = 6 := by omega
              go_wp2
              go_roundw
              case rel => exact ⟨m + 1, by omega, by go_num, by rw [Hnext.out]; exact HM.out, HP.out, HR.out⟩
              case measure => simp [intOf]; omega
        · obtain rfl : m = n := by omega
          obtain ⟨y0, y1, y2, e0, e1, e2⟩ := HR.out
          have lR : w.heap.size + 1 < wr.heap.size := by omega
          go_wp2
          refine bodyPost_ret (v := .tuple #[.agg #[.slice (some ⟨A .fr, 0, none⟩) 8 cf, .slice (some ⟨A .gs, 0, none⟩) m cg, .int .i64 h.hand], .bool true]) (by simp [results, Try.results110, go_sem, *]) rfl ?_
          rw [Hbh.out.1, Hbh.out.2, ← Hend.out]
          exact ⟨rfl, A1, (HM.out.off3 hAl (b := w.heap.size + 1) (by omega) (by omega) hN _ _ _).weak (Nat.le_refl _) (by omega)⟩
end Go.Proofs.Ytjegndgdpmlbaaa
