/-
  The walk of the law FnHostNew.
-/
import Derived.Test.YtcaknccodndmiaaKHostDraw0
import Derived.Test.YtcaknccodndmiaaKLkHost1
import Derived.Test.YtcaknccodndmiaaKHostFree1
import Derived.Test.YtcaknccodndmiaaKWalkFnExactHostOk
import Derived.Test.YtcaknccodndmiaaKM
set_option linter.unusedSimpArgs false
namespace Go.Proofs.Ytcaknccodndmiaa
open Go.RowKit
attribute [local go_sem ↓] Go.wp_at_zero Go.wp_at_succ exec_app
attribute [local go_sem] bigNext_ok

/-- A row of pages of noughts, by the values that lead to them, none of them in the row's own block. -/
def PagesI (w : World) (row : Option Nat) (k : Nat) (vs : List Value) : Prop := vs.length = k ∧ ∀ i, i < k → ∃ b o c, vs[i]? = some (.slice (some ⟨b, o, none⟩) 4 c) ∧ Ints w b o [0, 0, 0, 0] ∧ b < w.heap.size ∧ row ≠ some b
theorem PagesI.same {w w' : World} {row : Option Nat} {k : Nat} {vs : List Value} (h : PagesI w row k vs) (hB : Below w.heap.size w w') : PagesI w' row k vs := by
  obtain ⟨hl, h⟩ := h
  refine ⟨hl, fun i hi => ?_⟩
  obtain ⟨b, o, c, e, hI, hb, hr⟩ := h i hi
  exact ⟨b, o, c, e, hI.below hB hb, Nat.lt_of_lt_of_le hb hB.size, hr⟩
theorem mem_vals {w : World} {lo hi b : Nat} : ∀ (len : Nat), (∀ i, i < len → ∃ a' l c, w.cell? ⟨b, i, none⟩ = some (.slice a' l c) ∧ IsInts w lo hi a' l [0, 0, 0, 0]) → ∃ nv : List Value, nv.length = len ∧ (∀ v ∈ nv, v.oneCell' = true) ∧ ∀ i, i < len → ∃ b' o c, nv[i]? = some (.slice (some ⟨b', o, none⟩) 4 c) ∧ w.cell? ⟨b, i, none⟩ = some (.slice (some ⟨b', o, none⟩) 4 c) ∧ Ints w b' o [0, 0, 0, 0] ∧ lo ≤ b' ∧ b' < hi
  | 0, _ => ⟨[], rfl, (fun v hv => by simp at hv), fun i hi => by omega⟩
  | len + 1, h => by
    obtain ⟨nv, hl, h1, hv⟩ := mem_vals len (fun i hi => h i (by omega))
    obtain ⟨a', l, c, q, hl4, hd⟩ := h len (by omega)
    obtain rfl : 4 = l := hl4
    rcases hd with h0 | ⟨b', o', rfl, g1, g2, g3⟩
    · omega
    refine ⟨nv ++ [.slice (some ⟨b', o', none⟩) 4 c], by simp [hl], fun v hv => ?_, fun i hi => ?_⟩
    · rcases List.mem_append.1 hv with hv | hv
      · exact h1 v hv
      · simp at hv; subst hv; rfl
    · by_cases hil : i < len
      · obtain ⟨b1, o1, c1, e, q1, r1⟩ := hv i hil
        exact ⟨b1, o1, c1, by rw [List.getElem?_append_left (by omega)]; exact e, q1, r1⟩
      · obtain rfl : i = len := by omega
        exact ⟨b', o', c, by rw [List.getElem?_append_right (by omega), hl]; simp, q, g3, g1, g2⟩
/-- Noughts appended to noughts. -/
theorem app_zero {w W : World} {N k : Nat} {v : Value} {vs : List Value} {b c lo hi : Nat} (hk : k ≤ 12) (hown : W.ownsRow N 36 1 v k vs) (hP : PagesI W v.ownBlock k vs) (hB : Below N w W) (hN : N ≤ W.heap.size) (hM : IsMem W lo hi (some ⟨b, 0, none⟩) 6 (zeroM 6)) (hh : hi ≤ W.heap.size) (hne : ∀ T, v.ownBlock = some T → T < lo) :
    ∃ g c' w1 vs', appRun Try.prog 24 24 v (.slice (some ⟨b, 0, none⟩) 6 c) W = .ok (.slice (some ⟨g, 0, none⟩) (k + 6) c') w1 ∧ Hid (w1.ownsRow N 36 1 (.slice (some ⟨g, 0, none⟩) (k + 6) c') (k + 6) vs' ∧ PagesI w1 (some g) (k + 6) vs' ∧ Below N w w1) := by
  obtain ⟨i1, hi1, hy0, hy1, hy2⟩ := info_parts infoS
  obtain ⟨nv, hnl, hn1, hnv⟩ := mem_vals (w := W) (lo := lo) (hi := hi) (b := b) 6 (fun i hi6 => by
    obtain ⟨b1, o1, a', l, c, e, _, _, q, hI⟩ := hM.get hi6
    cases e
    rw [zeroM_get hi6] at hI
    exact ⟨a', l, c, by simpa using q, hI⟩)
  obtain ⟨g, c', w1, hrun, hown1, hgrow, hat, hlt⟩ := run_append_lies (P := Try.prog) W 24 24 N 36 i1 (.slice none 0 0) 1 24 Try.underlying24 hi1 hy0 hy1 hy2 rfl (by decide) v k vs hown ⟨b, 0, none⟩ 6 c nv (by omega) (fun j u hj => by
    have hj6 : j < 6 := by rw [← hnl]; exact (List.getElem?_eq_some_iff.1 hj).1
    obtain ⟨b', o, c, e, q, _⟩ := hnv j hj6
    rw [ad0, q, ← e, hj]) hn1 (by decide) (by unfold maxLen; omega) (by omega) hN _ rfl
  have keep : ∀ b' o, b' < W.heap.size → v.ownBlock ≠ some b' → Ints W b' o [0, 0, 0, 0] → Ints w1 b' o [0, 0, 0, 0] := fun b' o h1 h2 hI => hI.same (lo := b') (hi := b' + 1) (fun j j1 j2 => hgrow.block j (by omega) (by rw [show j = b' by omega]; exact fun e => h2 e.symm)) (Nat.le_refl _) (Nat.lt_succ_self _)
  have hs := hgrow.size
  refine ⟨g, c', w1, vs ++ nv, hrun, hown1, ⟨by rw [List.length_append, hP.1, hnl], fun i hi' => ?_⟩, Below.grown hB hgrow hN (fun j hj => (hown.lt _ hj).1)⟩
  by_cases hik : i < k
  · obtain ⟨b', o, c, e, hI, hb, hr⟩ := hP.2 i hik
    refine ⟨b', o, c, by rw [List.getElem?_append_left (by rw [hP.1]; exact hik)]; exact e, keep b' o hb hr hI, by omega, ?_⟩
    rcases hat with e' | e'
    · rw [← e']; exact hr
    · intro e2
      have := Option.some.inj e2
      omega
  · obtain ⟨b', o, c, e, q, hI, g1, g2⟩ := hnv (i - k) (by omega)
    have hr : v.ownBlock ≠ some b' := fun e2 => by have := hne b' e2; omega
    refine ⟨b', o, c, by rw [List.getElem?_append_right (by rw [hP.1]; omega), hP.1]; exact e, keep b' o (by omega) hr hI, by omega, ?_⟩
    rcases hat with e' | e'
    · rw [← e']; exact hr
    · intro e2
      have := Option.some.inj e2
      omega
theorem pages_mem {w : World} {N k T c : Nat} {vs : List Value} (hown : w.ownsRow N 36 1 (.slice (some ⟨T, 0, none⟩) k c) k vs) (hP : PagesI w (some T) k vs) : IsMem w 0 w.heap.size (some ⟨T, 0, none⟩) k (zeroM k) := by
  have hlt := (hown.lt T rfl).2
  refine ⟨by simp [zeroM], Or.inr ⟨T, 0, rfl, Nat.zero_le _, hlt, fun i hi => ?_⟩⟩
  obtain ⟨b', o, c, e, hI, hb, _⟩ := hP.2 i hi
  have q := hown.cells rfl i _ e
  rw [ad0] at q
  rw [zeroM_get hi]
  exact ⟨some ⟨b', o, none⟩, 4, c, by simpa using q, rfl, Or.inr ⟨b', o, rfl, Nat.zero_le _, hb, hI⟩⟩

theorem new_ok (m : Nat) (h1 : 1 ≤ m) (h2 : m ≤ 2) : newB (m : Int) = true ∧ okHost (newH (m : Int)) = true ∧ (freeH (newH (m : Int))).length = 8 ∧ (∀ k, k < m → seeH (newH (m : Int)) (k : Int) = zeroM 6) ∧ loadB (zeroM (m * 6)) = true ∧ loadH (zeroM (m * 6)) = newH (m : Int) ∧ WfGs (newH (m : Int)).guests.length (newH (m : Int)).guests ∧ (newH (m : Int)).guests.length = m ∧ (newH (m : Int)).frames.length = 8 := by
  match m, h1, h2 with
  | 1, _, _ =>
    have hw : ∀ i, i < 1 → ∀ p, p < 6 → (Lit.int .i64 (((newH ((1 : Nat) : Int)).guests.getD i noG).maps.getD p noM).2.1).wf = true := by decide
    exact ⟨rfl, by decide, by decide, fun k hk => by obtain rfl : k = 0 := by omega
                                                     exact rfl, by decide, rfl, hw, rfl, rfl⟩
  | 2, _, _ =>
    have hw : ∀ i, i < 2 → ∀ p, p < 6 → (Lit.int .i64 (((newH ((2 : Nat) : Int)).guests.getD i noG).maps.getD p noM).2.1).wf = true := by decide
    exact ⟨rfl, by decide, by decide, fun k hk => by rcases (by omega : k = 0 ∨ k = 1) with rfl | rfl <;> exact rfl, by decide, rfl, hw, rfl, rfl⟩

set_option maxRecDepth 100000 in
set_option maxHeartbeats 4000000 in
theorem walk_FnHostNew (a0 : Option Addr) (len0 cap0 : Nat) (z0 : List Int) (w : World) (w0 : IsRow .u8 w a0 len0 cap0 z0) :
    Calls Try.prog 3 #[.slice a0 len0 cap0] w fun e w' => e = .returned (.bool true) ∧ Below w.heap.size w w' := by
  by_cases hbig : (1048576 : Int) < (len0 : Int)
  · go_enter Try.func3, Try.ntmps3
    go_wp2
    go_ret
    exact ⟨rfl, Below.refl _ _⟩
  go_enter Try.func3, Try.ntmps3
  go_wp2_with (fail)
  refine (drawHostNew a0 len0 cap0 z0 _ w0).mono ?_
  rintro e v1 ⟨n, rfl, hn0, hn1, B1⟩
  have hs := (shaped_new n).small
  have hnh := new_hand n
  have hSn := specNewG n v1
  have hIn := fun W => implNewG n W
  have hno : newB n = true → ∃ m : Nat, n = (m : Int) ∧ 1 ≤ m ∧ m ≤ 2 := fun e => by
    simp only [newB, Bool.and_eq_true, decide_eq_true_eq] at e
    obtain ⟨m, rfl⟩ := Int.eq_ofNat_of_zero_le (by omega : 0 ≤ n)
    exact ⟨m, rfl, by omega, by omega⟩
  have hall : ∀ m : Nat, n = (m : Int) → 1 ≤ m → m ≤ 2 → okHost (newH n) = true ∧ (freeH (newH n)).length = 8 ∧ (∀ k, k < m → seeH (newH n) (k : Int) = zeroM 6) ∧ loadB (zeroM (m * 6)) = true ∧ loadH (zeroM (m * 6)) = newH n ∧ WfGs (newH n).guests.length (newH n).guests ∧ (newH n).guests.length = m ∧ (newH n).frames.length = 8 := fun m e h1 h2 => by
    subst e
    exact (new_ok m h1 h2).2
  generalize hhx : newH n = hx at *
  generalize hob : newB n = ob at *
  clear hhx hob
  go_wp2_with (fail)
  refine hSn.mono ?_
  rintro e v2 ⟨aw, lw, cw, bw, mw, dw, rfl, Ow, B2⟩
  have s2 := B2.size
  have B02 := B1.trans (B2.mono B1.size)
  rw [hnh]
  obtain ⟨W2, hW2⟩ : ∃ W2, W2 = v2.alloc (.cells #[.slice aw lw cw, .slice bw mw dw, .int .i64 0] 27) := ⟨_, rfl⟩
  have C2 : Below v2.heap.size v2 W2 := by rw [hW2]; exact (Below.refl _ _).alloc (Nat.le_refl _) _
  have t2 : W2.heap.size ≤ v2.heap.size + 1 ∧ v2.heap.size + 1 ≤ W2.heap.size := by rw [hW2]; simp
  have hV2 := hidE (show W2.cell? ⟨v2.heap.size, 0, none⟩ = some (.slice aw lw cw) ∧ W2.cell? ⟨v2.heap.size, 1, none⟩ = some (.slice bw mw dw) ∧ W2.cell? ⟨v2.heap.size, 2, none⟩ = some (.int .i64 0) by rw [hW2]; simp)
  have BW2 := B02.trans (C2.mono B02.size)
  have Hw2 := hidE (Ow.host.belowK C2 (Nat.le_refl _))
  have hi2 := hIn W2
  clear B1 B2 C2 Ow hSn hIn
  go_wp2_with (fail)
  rw [← hW2]
  clear hW2
  refine hi2.mono ?_
  rintro e v3 ⟨ag, lg, cg, bg, mg, dg, rfl, Og, B3⟩
  have s3 := B3.size
  have B03 := BW2.trans (B3.mono BW2.size)
  rw [hnh]
  obtain ⟨W3, hW3⟩ : ∃ W3, W3 = v3.alloc (.cells #[.slice ag lg cg, .slice bg mg dg, .int .i64 0] 27) := ⟨_, rfl⟩
  have C3 : Below v3.heap.size v3 W3 := by rw [hW3]; exact (Below.refl _ _).alloc (Nat.le_refl _) _
  have t3 : W3.heap.size ≤ v3.heap.size + 1 ∧ v3.heap.size + 1 ≤ W3.heap.size := by rw [hW3]; simp
  have hU3 := hidE (show W3.cell? ⟨v3.heap.size, 0, none⟩ = some (.slice ag lg cg) ∧ W3.cell? ⟨v3.heap.size, 1, none⟩ = some (.slice bg mg dg) ∧ W3.cell? ⟨v3.heap.size, 2, none⟩ = some (.int .i64 0) by rw [hW3]; simp)
  have hV3 := hidE (cells3 C3 (show v2.heap.size < v3.heap.size by omega) (cells3 B3 (show v2.heap.size < W2.heap.size by omega) hV2.out))
  have BW3 := B03.trans (C3.mono B03.size)
  have Hg3 := hidE (Og.host.belowK C3 (Nat.le_refl _))
  have Hw3 := hidE ((Hw2.out.belowK B3 (by omega)).belowK C3 (by omega))
  have hlk := lkHost_same _ _ _ _ _ _ _ _ hx W3 Hg3.out Hw3.out (by omega) (by omega) hs 0
  obtain ⟨x0, x1, x2⟩ := cells3 B3 (show v2.heap.size < W2.heap.size by omega) hV2.out
  have l23 : v2.heap.size < v3.heap.size := by omega
  clear hi2 Og B3 C3 B03 BW2 hV2 Hw2 B02
  cases ob
  · go_wp2_with (fail)
    rw [← hW3]
    clear hW3
    refine hlk.mono ?_
    rintro e v4 ⟨rfl, B4⟩
    have s4 := B4.size
    have B04 := hidE (BW3.trans (B4.mono BW3.size))
    obtain ⟨u0, u1, u2⟩ := cells3 B4 (show v3.heap.size < W3.heap.size by omega) hU3.out
    clear x0 x1 x2
    obtain ⟨x0, x1, x2⟩ := cells3 B4 (show v2.heap.size < W3.heap.size by omega) hV3.out
    have hlk2 := lkHost_same _ _ _ _ _ _ _ _ hx v4 (Hg3.out.belowK B4 (by omega)) (Hw3.out.belowK B4 (by omega)) (by omega) (by omega) hs 0
    have l34 : v3.heap.size < v4.heap.size := by omega
    have l24 : v2.heap.size < v4.heap.size := by omega
    clear hlk B4 BW3 hU3 hV3 Hg3 Hw3 hall
    go_wp2_with (fail)
    refine hlk2.mono ?_
    rintro e v5 ⟨rfl, B5⟩
    have B05 := hidE (B04.out.trans (B5.mono B04.out.size))
    clear hlk2 B5
    go_wp2
    go_ret
    exact ⟨rfl, B05.out⟩
  · obtain ⟨m, rfl, hm1, hm2⟩ := hno rfl
    obtain ⟨ho, hfr, hsee, hlb, hlh, hwf, hgl, hfl⟩ := hall m rfl hm1 hm2
    clear hall hno
    go_wp2_with (fail)
    rw [← hW3]
    clear hW3
    refine hlk.mono ?_
    rintro e v4 ⟨rfl, B4⟩
    have s4 := B4.size
    have B04 := hidE (BW3.trans (B4.mono BW3.size))
    have hU4 := hidE (cells3 B4 (show v3.heap.size < W3.heap.size by omega) hU3.out)
    have Hg4 := hidE (Hg3.out.belowK B4 (by omega))
    clear hlk B4 BW3 hU3 hV3 Hg3 Hw3 x0 x1 x2
    have hown0 := hidE (World.ownsRow_made (e := 36) (size := 1) v4 #[] 0 (Nat.le_refl _) (by simp [maxLen]) rfl)
    have Bl0 := hidE ((Below.refl v4.heap.size v4).alloc (Nat.le_refl _) (.cells #[] 36))
    have hsh := shaped_load (ms := zeroM (m * 6))
    rw [hlh] at hsh
    have hsv := fun (W : World) (B : Below v4.heap.size v4 W) (k : Nat) (hk : k < m) => implHostSee _ _ _ _ lg cg mg dg hx (k : Int) W (Hg4.out.belowK B (by omega)) (Nat.le_trans (show v3.heap.size ≤ v4.heap.size by omega) B.size) hwf
    rw [hnh] at hsv
    have hsv : ∀ (W : World) (B : Below v4.heap.size v4 W) (k : Nat) (hk : k < m), Calls Try.prog 19 #[.agg #[.slice ag lg cg, .slice bg mg dg, .int .i64 0], .int .i64 (k : Int)] W fun e w' => ∃ a c, e = .returned (.slice a 6 c) ∧ OwnMem w' W.heap.size w'.heap.size a 6 (zeroM 6) ∧ Below W.heap.size W w' := fun W B k hk => by
      have := hsv W B k hk
      rw [hsee k hk] at this
      exact this
    have hmn : ∀ W, Calls Try.prog 20 #[.int .i64 6] W fun e w' => ∃ b c, e = .returned (.slice (some ⟨b, 0, none⟩) 6 c) ∧ OwnMem w' W.heap.size w'.heap.size (some ⟨b, 0, none⟩) 6 (zeroM 6) ∧ Below W.heap.size W w' := fun W => by
      refine (implMemNew 6 W).mono ?_
      rintro e w' ⟨a, c, rfl, hM, B⟩
      have e6 : newM 6 = zeroM 6 := rfl
      rw [e6] at hM ⊢
      have hM' : OwnMem w' W.heap.size w'.heap.size a 6 (zeroM 6) := hM
      have hM2 := hM'
      obtain ⟨_, hd⟩ := hM2
      rcases hd with h0 | ⟨T, rfl, _⟩
      · omega
      · exact ⟨T, c, rfl, hM', B⟩
    have Hsv := hidE hsv
    have Hmn := hidE hmn
    have Hfin := hidE (And.intro hlb (And.intro hlh (And.intro hwf (And.intro hfr ho))))
    clear hsv hmn hsee hsh hlb hlh hwf hfr ho hgl hfl
    go_wp2_with (fail)
    go_loopw [8, 9] (fun v i wr => ∃ k : Nat, ∃ vs, k ≤ m ∧ i = .int .i64 k ∧ Hid (wr.ownsRow v4.heap.size 36 1 v (k * 6) vs) ∧ Hid (PagesI wr v.ownBlock (k * 6) vs) ∧ Hid (Below v4.heap.size v4 wr)) (fun _ i _ => m - (intOf i).toNat)
    case atStart => exact ⟨0, [], Nat.zero_le _, rfl, hown0.out, ⟨rfl, fun i hi => by omega⟩, Bl0.out⟩
    case round =>
      clear hown0 Bl0
      obtain ⟨k, vs, hk, rfl, hown, hP, hB⟩ := hrel
      obtain ⟨u0, u1, u2⟩ := cells3 hB.out (show v3.heap.size < v4.heap.size by omega) hU4.out
      have sB := hB.out.size
      have lU : v3.heap.size < wr.heap.size := by omega
      by_cases hkl : k < m
      · have hki : (k : Int) < (m : Int) := by omega
        have h1 := Hsv.out wr hB.out k hkl
        go_wp2_with (fail)
        refine h1.mono ?_
        rintro e w1 ⟨a1, c1, rfl, M1, C1⟩
        have z1 := C1.size
        go_wp2_with (fail)
        refine (Hmn.out w1).mono ?_
        rintro e w2 ⟨b2, c2, rfl, M2, C2⟩
        have z2 := C2.size
        have h3 := lkMem_same _ _ _ _ _ _ 6 c1 c2 (zeroM 6) w2 (M1.mem.same (below_sameIn C2 (Nat.le_refl _))) M2.mem (by omega) (Nat.le_refl _) (by omega) (fun i hi => by rw [zeroM_get hi]; decide)
        go_wp2_with (fail)
        refine h3.mono ?_
        rintro e w3 ⟨rfl, C3⟩
        have z3 := C3.size
        have B3 := hidE (hB.out.trans ((C1.trans ((C2.trans (C3.mono z2)).mono z1)).mono sB))
        have Br := hidE (C1.trans ((C2.trans (C3.mono z2)).mono z1))
        clear h1 h3 M1 M2 C1 C2 C3
        go_wp2_with (fail)
        refine (Hmn.out w3).mono ?_
        rintro e w4 ⟨b4, c4, rfl, M4, C4⟩
        have z4 := C4.size
        have own4 := own_below (own_below hown.out Br.out) C4
        have P4 := (hP.out.same Br.out).same C4
        obtain ⟨g, cg', w5, vs', happ, HR⟩ := app_zero (c := c4) (by omega) own4 P4 (B3.out.trans (C4.mono (by omega))) (by omega) M4.mem (Nat.le_refl _) (fun T hT => by have := (hown.out.lt T hT).2; omega)
        clear own4 P4 M4 C4 hown hP hB B3 Br
        go_wp2
        go_roundw
        case rel => exact ⟨k + 1, vs', by omega, by go_num, by rw [Nat.add_mul]; exact HR.out.1, by rw [Nat.add_mul]; exact HR.out.2.1, HR.out.2.2⟩
        case measure => simp [intOf]; omega
      · obtain rfl : k = m := by omega
        obtain ⟨T, cT, e, hT1, hT2⟩ := hown.out.form (by omega)
        cases e
        have hMm := pages_mem hown.out hP.out
        have hld := implLoadG 0 wr.heap.size _ (k * 6) cT (zeroM (k * 6)) wr hMm (Nat.le_refl _) (by omega)
        obtain ⟨hlb, hlh, hwf, hfr, ho⟩ := Hfin.out
        rw [hlb, hlh] at hld
        clear hown hP hMm Hsv Hmn hlb hlh hwf hfr ho
        go_wp2_with (fail)
        refine hld.mono ?_
        rintro e w1 ⟨ax, lx, cx, bx, mx, dx, rfl, Ox, C1⟩
        have z1 := C1.size
        rw [hnh]
        obtain ⟨W1, hW1⟩ : ∃ W1, W1 = w1.alloc (.cells #[.slice ax lx cx, .slice bx mx dx, .int .i64 0] 27) := ⟨_, rfl⟩
        have D1 : Below w1.heap.size w1 W1 := by rw [hW1]; exact (Below.refl _ _).alloc (Nat.le_refl _) _
        have t1 : W1.heap.size ≤ w1.heap.size + 1 ∧ w1.heap.size + 1 ≤ W1.heap.size := by rw [hW1]; simp
        have hX1 := hidE (show W1.cell? ⟨w1.heap.size, 0, none⟩ = some (.slice ax lx cx) ∧ W1.cell? ⟨w1.heap.size, 1, none⟩ = some (.slice bx mx dx) ∧ W1.cell? ⟨w1.heap.size, 2, none⟩ = some (.int .i64 0) by rw [hW1]; simp)
        have B1 := hidE (hB.out.trans (C1.mono sB))
        have BW1 := hidE (B1.out.trans (D1.mono B1.out.size))
        have Hx1 := hidE (Ox.host.belowK D1 (Nat.le_refl _))
        have hok := fun (W : World) (B : Below v4.heap.size v4 W) => implHostOk _ _ _ _ lg cg mg dg hx W (Hg4.out.belowK B (by omega)) (Nat.le_trans (show v3.heap.size ≤ v4.heap.size by omega) B.size) Hfin.out.2.2.1
        have hfre := fun (W : World) (B : Below v4.heap.size v4 W) => implHostFree _ _ _ _ lg cg mg dg hx W (Hg4.out.belowK B (by omega)) (Nat.le_trans (show v3.heap.size ≤ v4.heap.size by omega) B.size) Hfin.out.2.2.1
        rw [hnh, Hfin.out.2.2.2.2] at hok
        rw [hnh] at hfre
        have hok1 := hok W1 BW1.out
        have Hfre := hidE hfre
        obtain ⟨p0, p1, p2⟩ := cells3 B1.out (show v3.heap.size < v4.heap.size by omega) hU4.out
        have l1 : v3.heap.size < w1.heap.size := by omega
        clear hok hfre hld Ox C1 D1 u0 u1 u2
        go_wp2_with (fail)
        rw [← hW1]
        clear hW1
        refine hok1.mono ?_
        rintro e w2 ⟨rfl, D2⟩
        have z2 := D2.size
        have BW2 := hidE (BW1.out.trans (D2.mono BW1.out.size))
        have hX2 := hidE (cells3 D2 (show w1.heap.size < W1.heap.size by omega) hX1.out)
        have Hx2 := hidE (Hx1.out.belowK D2 (by omega))
        have hf2 := Hfre.out w2 BW2.out
        clear p0 p1 p2
        obtain ⟨p0, p1, p2⟩ := cells3 BW2.out (show v3.heap.size < v4.heap.size by omega) hU4.out
        have l2 : v3.heap.size < w2.heap.size := by omega
        clear hok1 D2 hX1 Hx1
        go_wp2_with (fail)
        refine hf2.mono ?_
        rintro e w3 ⟨v, rfl, hOI, D3⟩
        obtain ⟨af3, cf3, rfl, _⟩ := hOI
        rw [Hfin.out.2.2.2.1]
        have z3 := D3.size
        have BW3 := hidE (BW2.out.trans (D3.mono BW2.out.size))
        obtain ⟨y0, y1, y2⟩ := cells3 D3 (show w1.heap.size < w2.heap.size by omega) hX2.out
        have hlk3 := lkHost_same _ _ _ _ _ _ _ _ hx w3 (Hx2.out.belowK D3 (by omega)) (Hg4.out.belowK BW3.out (by omega)) (by omega) (by omega) hs 0
        clear p0 p1 p2
        obtain ⟨p0, p1, p2⟩ := cells3 BW3.out (show v3.heap.size < v4.heap.size by omega) hU4.out
        have l3 : v3.heap.size < w3.heap.size := by omega
        have l4 : w1.heap.size < w3.heap.size := by omega
        have HB := hidE (B04.out.trans (BW3.out.mono B04.out.size))
        clear hf2 D3 hX2 Hx2
        go_wp2_with (fail)
        refine hlk3.mono ?_
        rintro e w4 ⟨rfl, D4⟩
        have HB4 := hidE (HB.out.trans (D4.mono HB.out.size))
        clear hlk3 D4
        go_wp2
        go_ret
        exact ⟨rfl, HB4.out⟩
end Go.Proofs.Ytcaknccodndmiaa
