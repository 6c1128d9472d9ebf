/-
  Pages of a host looked at in order, each of those that are asked for given another map.
-/
import Derived.Test.YtdamdjhnhkmncaaKPC
import Derived.Test.YtdamdjhnhkmncaaKAC
set_option linter.unusedSimpArgs false
namespace Go.Proofs.Ytdamdjhnhkmncaa
open Go.RowKit

def runG (T : E3 → Bool) (M : E3 → E3) (h : Hst) (g : Nat) : Nat → Hst
  | 0 => h
  | k + 1 => bif T (mAt (runG T M h g k) g k) then settleP (runG T M h g k) g k (M (mAt (runG T M h g k) g k)) else runG T M h g k
def runH (T : E3 → Bool) (M : E3 → E3) (h : Hst) : Nat → Hst
  | 0 => h
  | k + 1 => runG T M (runH T M h k) k 6
theorem runG_len {T : E3 → Bool} {M : E3 → E3} (h : Hst) (g : Nat) : ∀ k, (runG T M h g k).guests.length = h.guests.length ∧ (runG T M h g k).hand = h.hand ∧ (runG T M h g k).frames = h.frames
  | 0 => ⟨rfl, rfl, rfl⟩
  | k + 1 => by
    have := runG_len (T := T) (M := M) h g k
    rw [runG]
    cases T (mAt (runG T M h g k) g k)
    · exact this
    · rw [cond_true]
      exact ⟨by rw [settleP_len]; exact this.1, this.2.1, this.2.2⟩
theorem runH_len {T : E3 → Bool} {M : E3 → E3} (h : Hst) : ∀ k, (runH T M h k).guests.length = h.guests.length ∧ (runH T M h k).hand = h.hand ∧ (runH T M h k).frames = h.frames
  | 0 => ⟨rfl, rfl, rfl⟩
  | k + 1 => by
    have := runH_len (T := T) (M := M) h k
    have r := runG_len (T := T) (M := M) (runH T M h k) k 6
    exact ⟨r.1.trans this.1, r.2.1.trans this.2.1, r.2.2.trans this.2.2⟩
/-- The pages that are asked for, in order. -/
def visG (T : E3 → Bool) (h : Hst) (g k : Nat) : List (Nat × Nat) := ((List.range k).filter fun p => T (mAt h g p)).map fun p => (g, p)
def visH (T : E3 → Bool) (h : Hst) (k : Nat) : List (Nat × Nat) := (List.range k).flatMap fun g => visG T h g 6
theorem mem_visG {T : E3 → Bool} {h : Hst} {g k a b : Nat} : (a, b) ∈ visG T h g k ↔ a = g ∧ b < k ∧ T (mAt h g b) = true := by
  simp only [visG, List.mem_map, List.mem_filter, List.mem_range, Prod.mk.injEq]
  constructor
  · rintro ⟨p, ⟨h1, h2⟩, h3, h4⟩
    subst h3 h4
    exact ⟨rfl, h1, h2⟩
  · rintro ⟨rfl, h1, h2⟩
    exact ⟨b, ⟨h1, h2⟩, rfl, rfl⟩
theorem mem_visH {T : E3 → Bool} {h : Hst} {k a b : Nat} : (a, b) ∈ visH T h k ↔ a < k ∧ b < 6 ∧ T (mAt h a b) = true := by
  simp only [visH, List.mem_flatMap, List.mem_range]
  constructor
  · rintro ⟨g, h1, h2⟩
    obtain ⟨rfl, h3, h4⟩ := mem_visG.1 h2
    exact ⟨h1, h3, h4⟩
  · rintro ⟨h1, h2, h3⟩
    exact ⟨a, h1, mem_visG.2 ⟨rfl, h2, h3⟩⟩
theorem visG_succ (T : E3 → Bool) (h : Hst) (g k : Nat) : visG T h g (k + 1) = visG T h g k ++ (bif T (mAt h g k) then [(g, k)] else []) := by
  rw [visG, List.range_succ, List.filter_append, List.map_append, visG]
  congr 1
  cases hT : T (mAt h g k) <;> simp [hT]
theorem visH_succ (T : E3 → Bool) (h : Hst) (k : Nat) : visH T h (k + 1) = visH T h k ++ visG T h k 6 := by
  rw [visH, List.range_succ, List.flatMap_append, visH, List.flatMap_cons, List.flatMap_nil, List.append_nil]
theorem settleAll_append (M : Nat → Nat → E3) (h : Hst) (l m : List (Nat × Nat)) : settleAll M h (l ++ m) = settleAll M (settleAll M h l) m := List.foldl_append
theorem runG_all {T : E3 → Bool} {M : E3 → E3} {h0 h : Hst} {l : List (Nat × Nat)} (hs : Six h0) (hl : Plc h0.guests.length l) (e : h = settleAll (fun g p => M (mAt h0 g p)) h0 l) {g : Nat} (hg : g < h0.guests.length) (hno : ∀ p, (g, p) ∉ l) : ∀ k, k ≤ 6 → runG T M h g k = settleAll (fun g p => M (mAt h0 g p)) h0 (l ++ visG T h0 g k)
  | 0, _ => by rw [runG, e]; simp [visG]
  | k + 1, hk => by
    have ih := runG_all (T := T) hs hl e hg hno k (by omega)
    have hl2 : Plc h0.guests.length (l ++ visG T h0 g k) := fun x hx => by
      rcases List.mem_append.1 hx with hx | hx
      · exact hl x hx
      · obtain ⟨a, b⟩ := x
        obtain ⟨rfl, h1, _⟩ := mem_visG.1 hx
        exact ⟨hg, by omega⟩
    obtain ⟨_, _, _, _, a5, _⟩ := settleAll_at (fun g p => M (mAt h0 g p)) (l ++ visG T h0 g k) hs hl2
    have hm : mAt (runG T M h g k) g k = mAt h0 g k := by
      rw [ih, a5, if_neg]
      intro hc
      rcases List.mem_append.1 hc with hc | hc
      · exact hno k hc
      · have := (mem_visG.1 hc).2.1
        omega
    rw [runG, hm, ih, visG_succ, ← List.append_assoc, settleAll_append _ _ (l ++ visG T h0 g k)]
    cases T (mAt h0 g k)
    · rfl
    · rfl
theorem runH_all {T : E3 → Bool} {M : E3 → E3} {h : Hst} (hs : Six h) : ∀ k, k ≤ h.guests.length → runH T M h k = settleAll (fun g p => M (mAt h g p)) h (visH T h k)
  | 0, _ => rfl
  | k + 1, hk => by
    have ih := runH_all (T := T) (M := M) hs k (by omega)
    have hl : Plc h.guests.length (visH T h k) := fun x hx => by
      obtain ⟨a, b⟩ := x
      obtain ⟨h1, h2, _⟩ := mem_visH.1 hx
      exact ⟨by show a < _; omega, h2⟩
    rw [runH, visH_succ]
    exact runG_all hs hl ih (by omega) (fun p hp => by have := (mem_visH.1 hp).1; omega) 6 (Nat.le_refl _)
theorem runH_share {h : Hst} (hs : Six h) (f t : Nat) : runH (inFT f t) (fun _ => (true, (t : Int), false)) h h.guests.length = shareP h f t := by
  rw [runH_all hs _ (Nat.le_refl _)]
  refine settleAll_same hs (fun x hx => ?_) (plc_share h f t) (fun x => ?_)
  · obtain ⟨a, b⟩ := x
    obtain ⟨h1, h2, _⟩ := mem_visH.1 hx
    exact ⟨h1, h2⟩
  · obtain ⟨a, b⟩ := x
    rw [mem_visH, mem_shareL]
/-- What the given forgetting makes of a page that was given another map. -/
theorem settle_forget {h : Hst} {g : Nat} (hg : g < h.guests.length) (p : Nat) (m : E3) : setG (setG h g (withMs (gOf h g) ((gOf h g).maps.set p m))) g (withS (gOf (setG h g (withMs (gOf h g) ((gOf h g).maps.set p m))) g) (fU (gOf (setG h g (withMs (gOf h g) ((gOf h g).maps.set p m))) g).shades (p : Int) 6)) = settleP h g p m := by
  rw [setG_setG, gOf_set_same hg]
  rfl
end Go.Proofs.Ytdamdjhnhkmncaa

/-
  What the given l13Share does.
-/
set_option linter.unusedSimpArgs false
namespace Go.Proofs.Ytdamdjhnhkmncaa
open Go.RowKit
attribute [local go_sem ↓] Go.wp_at_zero Go.wp_at_succ exec_app
attribute [local go_sem] bigNext_ok

set_option maxRecDepth 100000 in
set_option maxHeartbeats 8000000 in
theorem specShare (N : Nat) (A : Pl → Nat) (h : Hst) (f t : Nat) (n cf cg : Nat) (z : Int) (w : World) (k : SepH w N A h) (hn : h.guests.length = n) (hN : N ≤ w.heap.size) :
    Calls Try.prog 120 #[.agg #[.slice (some ⟨A .fr, 0, none⟩) 8 cf, .slice (some ⟨A .gs, 0, none⟩) n cg, .int .i64 z], .int .i64 f, .int .i64 t] w fun e w' => e = .returned (.agg #[.slice (some ⟨A .fr, 0, none⟩) 8 cf, .slice (some ⟨A .gs, 0, none⟩) n cg, .int .i64 z]) ∧ Mv w w' w.heap.size N n A A (shareP h f t) := by
  have hsix : Six h := fun g hg => ⟨(k.sz g hg).1, (k.sz g hg).2.1, (k.sz g hg).2.2.2⟩
  have Hend := hidE (runH_share hsix f t)
  obtain ⟨T, hT⟩ : ∃ T, T = inFT (f : Nat) (t : Nat) := ⟨_, rfl⟩
  obtain ⟨M, hM⟩ : ∃ M : E3 → E3, M = fun _ => (true, (t : Int), false) := ⟨_, rfl⟩
  rw [← hT, ← hM, hn] at Hend
  have HTM := hidE (And.intro hT hM)
  clear hT hM
  obtain ⟨W2, hW2⟩ : ∃ W2, W2 = (w.alloc (.cells #[.slice (some ⟨A .fr, 0, none⟩) 8 cf, .slice (some ⟨A .gs, 0, none⟩) n cg, .int .i64 z] 27)).alloc (.cells #[.slice none 0 0, .slice none 0 0, .int .i64 0] 27) := ⟨_, rfl⟩
  have B2 : Below w.heap.size w W2 := by rw [hW2]; exact ((Below.refl _ _).alloc (Nat.le_refl _) _).alloc (by simp) _
  have s2 : W2.heap.size ≤ w.heap.size + 2 ∧ w.heap.size + 2 ≤ W2.heap.size := by rw [hW2]; simp
  have p2 := hidE (show Var3 W2 w.heap.size (.slice (some ⟨A .fr, 0, none⟩) 8 cf) (.slice (some ⟨A .gs, 0, none⟩) n cg) (.int .i64 z) by rw [hW2]; exact (var3_new w _ _ _ _).allocK _)
  have r2 := hidE (show Var3 W2 (w.heap.size + 1) (.slice none 0 0) (.slice none 0 0) (.int .i64 0) by rw [hW2]; exact var3_newK (by simp))
  have hAl : ∀ x, x.ok n → A x < w.heap.size := fun x hx => (k.low x (by rw [hn]; exact hx)).2
  have M2 := hidE (show Mv w W2 (w.heap.size + 2) N n A A (runH T M h 0) from Mv.start k hn B2 hN (Nat.le_add_right _ _) s2.2)
  have hlen := hidE (fun m => (runH_len (T := T) (M := M) h m).1.trans hn)
  have lG0 := hAl .gs trivial
  have hn2 : n ≤ 2 := by rw [← hn]; exact k.n2
  clear k hsix
  go_enter Try.func120, Try.ntmps120
  go_wp2_with (fail)
  rw [← hW2]
  clear hW2 B2
  go_loopw [7, 8, 9] (fun i _ _ wr => ∃ m : Nat, m ≤ n ∧ i = .int .i64 m ∧ Hid (Mv w wr (w.heap.size + 2) N n A A (runH T M h m)) ∧ Hid (Var3 wr w.heap.size (.slice (some ⟨A .fr, 0, none⟩) 8 cf) (.slice (some ⟨A .gs, 0, none⟩) n cg) (.int .i64 z)) ∧ Hid (Var3 wr (w.heap.size + 1) (.slice none 0 0) (.slice none 0 0) (.int .i64 0))) (fun i _ _ _ => n - (intOf i).toNat)
  case atStart => exact ⟨0, Nat.zero_le _, rfl, M2.out, p2.out, r2.out⟩
  case round =>
    clear M2 p2 r2
    obtain ⟨m, hm, rfl, HM, HP, HR⟩ := hrel
    obtain ⟨p0, p1, p3, f0, f1, f2⟩ := HP.out
    have sM := HM.out.hi
    have lP : w.heap.size < wr.heap.size := by omega
    by_cases hml : m < n
    · have hmi : (m : Int) < (n : Int) := by omega
      have o2' := hlen.out m
      have hlG := hidE (fun q => (runG_len (T := T) (M := M) (runH T M h m) m q).1.trans o2')
      have Hnext := hidE (show runH T M h (m + 1) = runG T M (runH T M h m) m 6 from rfl)
      have HM0 : Hid (Mv w wr (w.heap.size + 2) N n A A (runG T M (runH T M h m) m 0)) := HM.out
      clear HM
      generalize runH T M h m = h1 at *
      go_wp2_with (fail)
      go_loopw [8, 9] (fun i _ wq => ∃ q : Nat, q ≤ 6 ∧ i = .int .i64 q ∧ Hid (Mv w wq (w.heap.size + 2) N n A A (runG T M h1 m q)) ∧ Hid (Var3 wq w.heap.size (.slice (some ⟨A .fr, 0, none⟩) 8 cf) (.slice (some ⟨A .gs, 0, none⟩) n cg) (.int .i64 z)) ∧ Hid (Var3 wq (w.heap.size + 1) (.slice none 0 0) (.slice none 0 0) (.int .i64 0))) (fun i _ _ => 6 - (intOf i).toNat)
      case atStart => exact ⟨0, Nat.zero_le _, rfl, HM0.out, HP.out, HR.out⟩
      case round =>
        clear HM0 HP HR p0 p1 p3 f0 f1 f2
        obtain ⟨q, hq, rfl, HM, HP, HR⟩ := hrel
        obtain ⟨p0, p1, p3, f0, f1, f2⟩ := HP.out
        have sMq := HM.out.hi
        have lPq : w.heap.size < wr.heap.size := by omega
        by_cases hql : q < 6
        · have hqi : (q : Int) < 6 := by omega
          have g2n := hlG.out q
          have Hnq := hidE (show runG T M h1 m (q + 1) = bif T (mAt (runG T M h1 m q) m q) then settleP (runG T M h1 m q) m q (M (mAt (runG T M h1 m q) m q)) else runG T M h1 m q from rfl)
          generalize runG T M h1 m q = h2 at *
          have hm2 : m < h2.guests.length := by rw [g2n]; exact hml
          obtain ⟨⟨c1, u1⟩, _, _⟩ := (HM.out.sep.held .gs trivial).1 m hm2
          obtain ⟨v0, v1, v2⟩ := (HM.out.sep.held (.maps m) hm2).1 q (by rw [(HM.out.sep.sz m hm2).1]; exact hql)
          rw [Nat.zero_add, show ((false, 0, false) : E3) = noM from rfl, show (gOf h2 m).maps.getD q noM = mAt h2 m q from rfl] at v0 v1 v2
          have lM : A (.maps m) < wr.heap.size := (HM.out.sep.low (.maps m) hm2).2
          have lGq : A .gs < wr.heap.size := by omega
          obtain ⟨mi, hmi2⟩ : ∃ mi, mi = (mAt h2 m q).1 := ⟨_, rfl⟩
          obtain ⟨mf, hmf2⟩ : ∃ mf, mf = (mAt h2 m q).2.1 := ⟨_, rfl⟩
          obtain ⟨mw, hmw2⟩ : ∃ mw, mw = (mAt h2 m q).2.2 := ⟨_, rfl⟩
          rw [← hmi2] at v0
          rw [← hmf2] at v1
          rw [← hmw2] at v2
          have hTv : T (mAt h2 m q) = (mi && (mf == (f : Int) || mf == (t : Int))) := by
            rw [HTM.out.1, inFT, inF, inF, ← hmi2, ← hmf2]
            cases mi <;> rfl
          rw [hTv] at Hnq
          have BA : Below wr.heap.size wr (wr.alloc (.cells #[.bool mi, .int .i64 mf, .bool mw] 76)) := (Below.refl _ _).alloc (Nat.le_refl _) _
          have HMA := hidE (HM.out.below hN BA)
          have HPA := hidE (HP.out.same (BA.block _ (by omega)))
          have HRA := hidE (HR.out.same (BA.block _ (by omega)))
          clear hmi2 hmf2 hmw2 hTv BA
          cases mi
          · have Hnq' := hidE (show runG T M h1 m (q + 1) = h2 by rw [Hnq.out]; rfl)
            clear Hnq
            go_wp2
            go_roundw
            case rel => exact ⟨q + 1, by omega, by go_num, by rw [Hnq'.out]; exact HMA.out, HPA.out, HRA.out⟩
            case measure => simp [intOf]; omega
          · by_cases hmf : mf = (f : Int)
            · have hY : (true && (mf == (f : Int) || mf == (t : Int))) = true := by simp [hmf]
              have hc1 : (mf == (f : Int)) = true := by simpa using hmf
              clear hmf
              have Hnq' := hidE (show runG T M h1 m (q + 1) = settleP h2 m q (true, (t : Int), false) by rw [Hnq.out, hY, HTM.out.2]; rfl)
              clear Hnq
              have kM := HM.out.sep.map (g := m) hm2 hql (true, (t : Int), false)
              have lMm := HM.out.sep.low (.maps m) hm2
              obtain ⟨_, hRm⟩ := HM.out.sep.held (.maps m) hm2
              have z0 := (hRm (q * 3) (by omega)).2
              have z1 := (hRm (q * 3 + 1) (by omega)).2
              have z2 := (hRm (q * 3 + 2) (by omega)).2
              have nMw : A (.maps m) ≠ wr.heap.size := by omega
              have nMw' := Ne.symm nMw
              have lW : w.heap.size ≠ A (.maps m) := by have := hAl (.maps m) hml; omega
              have lW1 : w.heap.size + 1 ≠ A (.maps m) := by have := hAl (.maps m) hml; omega
              obtain ⟨WB, hWB⟩ : ∃ WB, WB = ((wr.setCell ⟨A (.maps m), q * 3, none⟩ (.bool true)).setCell ⟨A (.maps m), q * 3 + 1, none⟩ (.int .i64 t)).setCell ⟨A (.maps m), q * 3 + 2, none⟩ (.bool false) := ⟨_, rfl⟩
              rw [← hWB] at kM
              have e3 : ∀ j, j ≠ A (.maps m) → WB.heap[j]? = wr.heap[j]? := fun j h2 => by rw [hWB, Below.heap_setCell _ _ _ _ (by simpa using h2), Below.heap_setCell _ _ _ _ (by simpa using h2), Below.heap_setCell _ _ _ _ (by simpa using h2)]
              have sB : WB.heap.size = wr.heap.size := by rw [hWB]; simp
              have B3 : Below N wr WB := by rw [hWB]; exact (((Below.refl N wr).setCell (p := ⟨A (.maps m), q * 3, none⟩) lMm.1 _).setCell (p := ⟨A (.maps m), q * 3 + 1, none⟩) lMm.1 _).setCell (p := ⟨A (.maps m), q * 3 + 2, none⟩) lMm.1 _
              obtain ⟨W3, hW3⟩ : ∃ W3, W3 = WB.alloc (.cells #[.bool true, .int .i64 mf, .bool mw] 76) := ⟨_, rfl⟩
              have BA : Below WB.heap.size WB W3 := by rw [hW3]; exact (Below.refl _ _).alloc (Nat.le_refl _) _
              have s3 : W3.heap.size = wr.heap.size + 1 := by rw [hW3, World.size_alloc, sB]
              have M3 := (HM.out.put kM (by rw [setG_len]; exact g2n) B3 (x0 := .maps m) hml (by omega) (fun j _ h2 => e3 j h2)).below hN BA
              have P3 := (HP.out.same (e3 _ lW)).same (BA.block _ (by omega))
              have R3 := hidE ((HR.out.same (e3 _ lW1)).same (BA.block _ (by omega)))
              have hfo := forgetMv N A _ m (q : Int) n cf cg z W3 M3.sep (by rw [setG_len]; exact g2n) hml (by omega)
              rw [settle_forget hm2] at hfo
              have HP3 := hidE P3
              have HM3 := hidE M3
              have hW3h := hidE hW3
              have hWBh := hidE hWB
              obtain ⟨x0, x1, x2, x3, x4, x5⟩ := P3
              have l3 : w.heap.size < W3.heap.size := by omega
              clear kM M3 e3 HMA HPA HRA hRm hWB hW3 s3 BA B3 sB HM HP HR
              go_wp2_with (fail)
              rw [← hWBh.out, ← hW3h.out]
              clear hWBh hW3h z0 z1 z2 u1 v0 v1 v2
              refine hfo.mono ?_
              rintro e w5 ⟨rfl, M5⟩
              have z5 := M5.hi
              have M05 := hidE (HM3.out.call hAl M5)
              have P5 := HP3.out.same (HM3.out.own hAl M5 (Nat.le_refl _) (by omega))
              have R5 := hidE (R3.out.same (HM3.out.own hAl M5 (Nat.le_succ _) (by omega)))
              have HP5 := hidE P5
              clear x0 x1 x2 x3 x4 x5 p0 p1 p3 f0 f1 f2
              obtain ⟨d0, d1, d2, i0, i1, i2⟩ := P5
              have l5 : w.heap.size < w5.heap.size := by omega
              clear hfo M5 HM3 R3 HP3
              go_wp2
              go_roundw
              case rel =>
                refine ⟨q + 1, by omega, by go_num, ?_, HP5.out.putAll _ _ _, R5.out.same (by rw [Below.heap_setCell _ _ _ _ (by simp), Below.heap_setCell _ _ _ _ (by simp), Below.heap_setCell _ _ _ _ (by simp)])⟩
                rw [Hnq'.out]
                exact M05.out.off3 hAl (b := w.heap.size) (Nat.le_refl _) (by omega) hN _ _ _
              case measure => simp [intOf]; omega
            · have hc1 : (mf == (f : Int)) = false := by simpa using hmf
              by_cases hmt : mf = (t : Int)
              · have hY : (true && (mf == (f : Int) || mf == (t : Int))) = true := by simp [hmt]
                have hc2 : (mf == (t : Int)) = true := by simpa using hmt
                clear hmf hmt
                have Hnq' := hidE (show runG T M h1 m (q + 1) = settleP h2 m q (true, (t : Int), false) by rw [Hnq.out, hY, HTM.out.2]; rfl)
                clear Hnq
                have kM := HM.out.sep.map (g := m) hm2 hql (true, (t : Int), false)
                have lMm := HM.out.sep.low (.maps m) hm2
                obtain ⟨_, hRm⟩ := HM.out.sep.held (.maps m) hm2
                have z0 := (hRm (q * 3) (by omega)).2
                have z1 := (hRm (q * 3 + 1) (by omega)).2
                have z2 := (hRm (q * 3 + 2) (by omega)).2
                have nMw : A (.maps m) ≠ wr.heap.size := by omega
                have nMw' := Ne.symm nMw
                have lW : w.heap.size ≠ A (.maps m) := by have := hAl (.maps m) hml; omega
                have lW1 : w.heap.size + 1 ≠ A (.maps m) := by have := hAl (.maps m) hml; omega
                obtain ⟨WB, hWB⟩ : ∃ WB, WB = ((wr.setCell ⟨A (.maps m), q * 3, none⟩ (.bool true)).setCell ⟨A (.maps m), q * 3 + 1, none⟩ (.int .i64 t)).setCell ⟨A (.maps m), q * 3 + 2, none⟩ (.bool false) := ⟨_, rfl⟩
                rw [← hWB] at kM
                have e3 : ∀ j, j ≠ A (.maps m) → WB.heap[j]? = wr.heap[j]? := fun j h2 => by rw [hWB, Below.heap_setCell _ _ _ _ (by simpa using h2), Below.heap_setCell _ _ _ _ (by simpa using h2), Below.heap_setCell _ _ _ _ (by simpa using h2)]
                have sB : WB.heap.size = wr.heap.size := by rw [hWB]; simp
                have B3 : Below N wr WB := by rw [hWB]; exact (((Below.refl N wr).setCell (p := ⟨A (.maps m), q * 3, none⟩) lMm.1 _).setCell (p := ⟨A (.maps m), q * 3 + 1, none⟩) lMm.1 _).setCell (p := ⟨A (.maps m), q * 3 + 2, none⟩) lMm.1 _
                obtain ⟨W3, hW3⟩ : ∃ W3, W3 = WB.alloc (.cells #[.bool true, .int .i64 mf, .bool mw] 76) := ⟨_, rfl⟩
                have BA : Below WB.heap.size WB W3 := by rw [hW3]; exact (Below.refl _ _).alloc (Nat.le_refl _) _
                have s3 : W3.heap.size = wr.heap.size + 1 := by rw [hW3, World.size_alloc, sB]
                have M3 := (HM.out.put kM (by rw [setG_len]; exact g2n) B3 (x0 := .maps m) hml (by omega) (fun j _ h2 => e3 j h2)).below hN BA
                have P3 := (HP.out.same (e3 _ lW)).same (BA.block _ (by omega))
                have R3 := hidE ((HR.out.same (e3 _ lW1)).same (BA.block _ (by omega)))
                have hfo := forgetMv N A _ m (q : Int) n cf cg z W3 M3.sep (by rw [setG_len]; exact g2n) hml (by omega)
                rw [settle_forget hm2] at hfo
                have HP3 := hidE P3
                have HM3 := hidE M3
                have hW3h := hidE hW3
                have hWBh := hidE hWB
                obtain ⟨x0, x1, x2, x3, x4, x5⟩ := P3
                have l3 : w.heap.size < W3.heap.size := by omega
                clear kM M3 e3 HMA HPA HRA hRm hWB hW3 s3 BA B3 sB HM HP HR
                go_wp2_with (fail)
                rw [← hWBh.out, ← hW3h.out]
                clear hWBh hW3h z0 z1 z2 u1 v0 v1 v2
                refine hfo.mono ?_
                rintro e w5 ⟨rfl, M5⟩
                have z5 := M5.hi
                have M05 := hidE (HM3.out.call hAl M5)
                have P5 := HP3.out.same (HM3.out.own hAl M5 (Nat.le_refl _) (by omega))
                have R5 := hidE (R3.out.same (HM3.out.own hAl M5 (Nat.le_succ _) (by omega)))
                have HP5 := hidE P5
                clear x0 x1 x2 x3 x4 x5 p0 p1 p3 f0 f1 f2
                obtain ⟨d0, d1, d2, i0, i1, i2⟩ := P5
                have l5 : w.heap.size < w5.heap.size := by omega
                clear hfo M5 HM3 R3 HP3
                go_wp2
                go_roundw
                case rel =>
                  refine ⟨q + 1, by omega, by go_num, ?_, HP5.out.putAll _ _ _, R5.out.same (by rw [Below.heap_setCell _ _ _ _ (by simp), Below.heap_setCell _ _ _ _ (by simp), Below.heap_setCell _ _ _ _ (by simp)])⟩
                  rw [Hnq'.out]
                  exact M05.out.off3 hAl (b := w.heap.size) (Nat.le_refl _) (by omega) hN _ _ _
                case measure => simp [intOf]; omega
              · have hc2 : (mf == (t : Int)) = false := by simpa using hmt
                have Hnq' := hidE (show runG T M h1 m (q + 1) = h2 by rw [Hnq.out, hc1, hc2]; rfl)
                clear Hnq hmf hmt
                go_wp2
                go_roundw
                case rel => exact ⟨q + 1, by omega, by go_num, by rw [Hnq'.out]; exact HMA.out, HPA.out, HRA.out⟩
                case measure => simp [intOf]; omega
        · obtain rfl : q = 6 := by omega
          go_wp2
          go_roundw
          case rel => exact ⟨m + 1, by omega, by go_num, by rw [Hnext.out]; exact HM.out, HP.out, HR.out⟩
          case measure => simp [intOf]; omega
    · obtain rfl : m = n := by omega
      obtain ⟨y0, y1, y2, e0, e1, e2⟩ := HR.out
      have lR : w.heap.size + 1 < wr.heap.size := by omega
      go_wp2
      refine bodyPost_ret (v := .agg #[.slice (some ⟨A .fr, 0, none⟩) 8 cf, .slice (some ⟨A .gs, 0, none⟩) m cg, .int .i64 z]) (by simp [results, Try.results120, go_sem, *]) rfl ?_
      rw [← Hend.out]
      exact ⟨rfl, (HM.out.off3 hAl (b := w.heap.size + 1) (by omega) (by omega) hN _ _ _).weak (Nat.le_refl _) (by omega)⟩
end Go.Proofs.Ytdamdjhnhkmncaa

/-
  A frame that gets a row of its own, new; the frame of a map written alone.
-/
set_option linter.unusedSimpArgs false
namespace Go.Proofs.Ytdamdjhnhkmncaa
open Go.RowKit

end Go.Proofs.Ytdamdjhnhkmncaa

/-
  What the given l13Move does.
-/
set_option linter.unusedSimpArgs false
namespace Go.Proofs.Ytdamdjhnhkmncaa
open Go.RowKit
attribute [local go_sem ↓] Go.wp_at_zero Go.wp_at_succ exec_app
attribute [local go_sem] bigNext_ok

end Go.Proofs.Ytdamdjhnhkmncaa
