/-
  What the program's own heap of frames does: less, swap, sink, pop, heapOf.
-/
import Derived.Test.YtdamdjhnhkmncaaKY
import Derived.Test.YtdamdjhnhkmncaaKE
import Derived.Test.YtdamdjhnhkmncaaKM
import Derived.Test.YtdamdjhnhkmncaaKSpecCopy0
import Derived.Test.YtdamdjhnhkmncaaKX
import Derived.Deep.Upon
set_option linter.unusedSimpArgs false
namespace Go.Proofs.Ytdamdjhnhkmncaa
open Go.RowKit

theorem Only.drewN {b : Nat} {w w' : World} (h : Only b w w') (n : Nat) : Only b w (w'.drewN n) := ⟨h.os, h.tape, h.output, h.size, h.block⟩
theorem Only.drew {b : Nat} {w w' : World} (h : Only b w w') : Only b w w'.drew := ⟨h.os, h.tape, h.output, h.size, h.block⟩
theorem Only.trans {b : Nat} {w w1 w2 : World} (h : Only b w w1) (k : Only b w1 w2) : Only b w w2 := ⟨k.os.trans h.os, k.tape.trans h.tape, k.output.trans h.output, k.size.trans h.size, fun j hj => (k.block j hj).trans (h.block j hj)⟩
/-- Numbers in a row of their own that is written. -/
def RowI (w : World) (b n : Nat) (zs : List Int) : Prop := zs.length = n ∧ Ints w b 0 zs ∧ Room w b n
theorem RowI.drewN {w : World} {b n : Nat} {zs : List Int} (h : RowI w b n zs) (m : Nat) : RowI (w.drewN m) b n zs := h
theorem RowI.drew {w : World} {b n : Nat} {zs : List Int} (h : RowI w b n zs) : RowI w.drew b n zs := h
theorem RowI.at {w : World} {b n : Nat} {zs : List Int} (h : RowI w b n zs) {i : Nat} (hi : i < n) : w.cell? ⟨b, i, none⟩ = some (.int .i64 (zs.getD i 0)) ∧ w.frozen? ⟨b, i, none⟩ = false := by
  have := h.2.1 i (by rw [h.1]; exact hi)
  rw [Nat.zero_add] at this
  exact ⟨this, (h.2.2 i hi).2⟩
theorem RowI.put {w : World} {b n : Nat} {zs : List Int} (h : RowI w b n zs) {i : Nat} (hi : i < n) (z : Int) : RowI (w.setCell ⟨b, i, none⟩ (.int .i64 z)) b n (zs.set i z) := by
  obtain ⟨h1, h2, h3⟩ := h
  refine ⟨by rw [List.length_set]; exact h1, fun j hj => ?_, h3.put _⟩
  rw [List.length_set] at hj
  have := h2 j hj
  rw [Nat.zero_add] at this ⊢
  refine (cell_put this).trans ?_
  rw [getD_set _ _ _ _ _ (by omega)]
  by_cases e : j = i
  · rw [if_pos e, if_pos e]
  · rw [if_neg e, if_neg e]
theorem RowI.only {w w' : World} {b b' n : Nat} {zs : List Int} (h : RowI w b n zs) (e : w'.heap[b]? = w.heap[b]?) (_hb : b ≠ b') : RowI w' b n zs := by
  have s : SameIn b (b + 1) w w' := fun j j1 j2 => by rw [show j = b by omega]; exact e
  exact ⟨h.1, h.2.1.same s (Nat.le_refl _) (Nat.lt_succ_self _), h.2.2.same s (Nat.le_refl _) (Nat.lt_succ_self _)⟩
def AscI (zs : List Int) : Prop := ∀ i j, i < j → j < zs.length → zs.getD i 0 ≤ zs.getD j 0

set_option maxHeartbeats 1000000 in
theorem implLess (b n cap : Nat) (zs : List Int) (i j : Nat) (w : World) (h : RowI w b n zs) (hi : i < n) (hj : j < n) :
    Calls Try.prog 153 #[.slice (some ⟨b, 0, none⟩) n cap, .int .i64 i, .int .i64 j] w fun e w' => e = .returned (.bool (decide (zs.getD i 0 < zs.getD j 0))) ∧ ∃ m, w' = w.drewN m := by
  have q1 := (h.at hi).1
  have q2 := (h.at hj).1
  have hi' : (i : Int) < (n : Int) := by omega
  have hj' : (j : Int) < (n : Int) := by omega
  generalize zs.getD i 0 = x at *
  generalize zs.getD j 0 = y at *
  clear h
  go_enter Try.func153, Try.ntmps153
  go_wp2_with (fail)
  go_quiet (fail)
  go_wp2
  go_ret
  exact ⟨rfl, _, rfl⟩

set_option maxHeartbeats 2000000 in
theorem implSwap (b n cap : Nat) (zs : List Int) (i j : Nat) (w : World) (h : RowI w b n zs) (hi : i < n) (hj : j < n) :
    Calls Try.prog 152 #[.slice (some ⟨b, 0, none⟩) n cap, .int .i64 i, .int .i64 j] w fun e w' => e = .returned (.tuple #[]) ∧ RowI w' b n ((zs.set i (zs.getD j 0)).set j (zs.getD i 0)) ∧ Only b w w' := by
  obtain ⟨q1, f1⟩ := h.at hi
  obtain ⟨q2, f2⟩ := h.at hj
  have hi' : (i : Int) < (n : Int) := by omega
  have hj' : (j : Int) < (n : Int) := by omega
  have HR := hidE ((h.put hi (zs.getD j 0)).put hj (zs.getD i 0))
  have hb : b < w.heap.size := World.block_lt_of_cell? _ _ q1
  by_cases e : j = i
  · subst e
    generalize zs.getD j 0 = x at *
    have HO := hidE (((Only.refl b w).put j (.int .i64 x)).put j (.int .i64 x))
    clear h
    go_enter Try.func152, Try.ntmps152
    go_region_with (fail)
    all_goals go_wp2_with fail
    all_goals
      refine bodyPost_end (v := .tuple #[]) (by simp [results, Try.results152, go_sem]) rfl ?_
      exact ⟨rfl, HR.out, HO.out.drew⟩
  · have e' : ¬ i = j := fun h => e h.symm
    generalize zs.getD i 0 = x at *
    generalize zs.getD j 0 = y at *
    have HO := hidE (((Only.refl b w).put i (.int .i64 y)).put j (.int .i64 x))
    clear h
    go_enter Try.func152, Try.ntmps152
    go_region_with (fail)
    all_goals go_wp2_with fail
    all_goals
      refine bodyPost_end (v := .tuple #[]) (by simp [results, Try.results152, go_sem]) rfl ?_
      exact ⟨rfl, HR.out, HO.out.drew⟩

set_option maxRecDepth 100000 in
set_option maxHeartbeats 4000000 in
theorem implSink (b n cap : Nat) (zs : List Int) (i : Nat) (w : World) (h : RowI w b n zs) (hi : i ≤ 1000) (hn : n ≤ 1000) :
    Calls Try.prog 151 #[.slice (some ⟨b, 0, none⟩) n cap, .int .i64 i] w fun e w' => e = .returned (.tuple #[]) ∧ (∃ zs', RowI w' b n zs' ∧ (AscI zs → zs' = zs)) ∧ Only b w w' := by
  have HH := hidE (show (∃ zs', RowI w b n zs' ∧ (AscI zs → zs' = zs)) ∧ Only b w w from ⟨⟨zs, h, fun _ => rfl⟩, Only.refl _ _⟩)
  clear h
  go_enter Try.func151, Try.ntmps151
  go_wp2_with (fail)
  go_loopw [1, 4, 5] (fun i _ _ wr => ∃ k : Nat, k ≤ 1000 ∧ i = .int .i64 k ∧ Hid ((∃ zs', RowI wr b n zs' ∧ (AscI zs → zs' = zs)) ∧ Only b w wr)) (fun i _ _ _ => 1001 - (intOf i).toNat)
  case atStart => exact ⟨i, hi, rfl, HH.out⟩
  case round =>
    clear HH
    obtain ⟨k, hk, rfl, HW⟩ := hrel
    obtain ⟨⟨z1, HR, hz⟩, HO⟩ := HW.out
    have HR := hidE HR
    have HO := hidE HO
    have HZ := hidE hz
    clear HW hz
    have hkI : (k : Int) ≤ 1000 := by omega
    go_wp2_with (fail)
    go_loopw [4, 5] (fun l c wq => ∃ lo be : Nat, l = .int .i64 lo ∧ c = .int .i64 be ∧ (lo = k ∨ (k < lo ∧ lo < n)) ∧ 2 * k + 1 ≤ be ∧ be ≤ 2 * k + 3 ∧ Hid (AscI zs → lo = k) ∧ Hid (RowI wq b n z1) ∧ Hid (Only b w wq)) (fun _ c _ => 2 * k + 3 - (intOf c).toNat)
    case atStart => exact ⟨k, 2 * k + 1, rfl, by go_num, Or.inl rfl, Nat.le_refl _, by omega, fun _ => rfl, HR.out, HO.out⟩
    case round =>
      clear HR HO
      obtain ⟨lo, be, rfl, rfl, hlo, hb1, hb2, HA, HR, HO⟩ := hrel
      have hlo9 : (lo : Int) ≤ 1000 := by omega
      have hbe9 : (be : Int) ≤ 2003 := by omega
      by_cases hbl : be ≤ 2 * k + 2 ∧ be < n
      · obtain ⟨hbl, hbn⟩ := hbl
        have hbl' : (be : Int) ≤ 2 * (k : Int) + 2 := by omega
        have hbn' : (be : Int) < (n : Int) := by omega
        have hls := implLess b n cap z1 be lo wr HR.out hbn (by omega)
        cases hlt : decide (z1.getD be 0 < z1.getD lo 0)
        · rw [hlt] at hls
          go_wp2_with (fail)
          refine hls.mono ?_
          rintro e wn ⟨rfl, m, hm⟩
          have HRn := hidE (show RowI wn b n z1 by rw [hm]; exact HR.out.drewN m)
          have HOn := hidE (show Only b w wn by rw [hm]; exact HO.out.drewN m)
          clear hm hls
          go_wp2
          go_roundw
          case rel => exact ⟨lo, be + 1, rfl, by go_num, hlo, by omega, by omega, HA.out, HRn.out, HOn.out⟩
          case measure => simp [intOf]; omega
        · rw [hlt] at hls
          have HAn := hidE (show AscI zs → be = k from fun ha => by
            exfalso
            have e := HZ.out ha
            have e2 := HA.out ha
            have h3 := of_decide_eq_true hlt
            rw [e, e2] at h3
            have := ha k be (by omega) (by rw [← e, HR.out.1]; exact hbn)
            omega)
          go_wp2_with (fail)
          refine hls.mono ?_
          rintro e wn ⟨rfl, m, hm⟩
          have HRn := hidE (show RowI wn b n z1 by rw [hm]; exact HR.out.drewN m)
          have HOn := hidE (show Only b w wn by rw [hm]; exact HO.out.drewN m)
          clear hm hls
          go_wp2
          go_roundw
          case rel => exact ⟨be, be + 1, rfl, by go_num, Or.inr ⟨by omega, hbn⟩, by omega, by omega, HAn.out, HRn.out, HOn.out⟩
          case measure => simp [intOf]; omega
      · have hend : (¬ (be : Int) ≤ 2 * (k : Int) + 2) ∨ ((be : Int) ≤ 2 * (k : Int) + 2 ∧ ¬ (be : Int) < (n : Int)) := by omega
        clear hbl
        rcases hlo with hlo | ⟨hl1, hl2⟩
        · subst hlo
          rcases hend with hend | ⟨hend, hend2⟩
          all_goals
            go_wp2
            refine bodyPost_ret (v := .tuple #[]) (by simp [results, Try.results151, go_sem]) rfl ?_
            exact ⟨rfl, ⟨z1, HR.out, HZ.out⟩, HO.out⟩
        · have hne : ((lo : Int) == (k : Int)) = false := by simp; omega
          have hsw := implSwap b n cap z1 k lo wr HR.out (by omega) hl2
          have HN := hidE (show ¬ AscI zs from fun ha => by have := HA.out ha; omega)
          rcases hend with hend | ⟨hend, hend2⟩
          all_goals
            go_wp2_with (fail)
            refine hsw.mono ?_
            rintro e wn ⟨rfl, HRn, HOn⟩
            have HRn := hidE HRn
            have HOn := hidE (HO.out.trans HOn)
            clear hsw
            go_wp2
            go_roundw
            case rel => exact ⟨lo, by omega, rfl, ⟨_, HRn.out, fun ha => (HN.out ha).elim⟩, HOn.out⟩
            case measure => simp [intOf]; omega
end Go.Proofs.Ytdamdjhnhkmncaa

/-
  What the program's own heap of frames does: a clone, heapOf, pop; the first free frame.
-/
set_option linter.unusedSimpArgs false
namespace Go.Proofs.Ytdamdjhnhkmncaa
open Go.RowKit
attribute [local go_sem ↓] Go.wp_at_zero Go.wp_at_succ exec_app exec_lod exec_house exec_mapsA exec_allocL exec_storeL exec_buildL exec_idxM exec_look exec_upd exec_allocH exec_buildH exec_storeH exec_bsL
attribute [local go_sem] bigNext_ok bigSkip_ok

/-- Numbers that are handed on: none, or a row. -/
def SomeI (w : World) (lo : Nat) (a : Option Addr) (n : Nat) (zs : List Int) : Prop := zs.length = n ∧ (n = 0 ∨ ∃ b, a = some ⟨b, 0, none⟩ ∧ lo ≤ b ∧ b < w.heap.size ∧ RowI w b n zs)
theorem appI0 {W : World} {b : Nat} {src : Addr} {c : Nat} : appRun Try.prog 87 87 (.slice (some ⟨b, 0, none⟩) 0 0) (.slice (some src) 0 c) W = .ok (.slice (some ⟨b, 0, none⟩) 0 0) W := by
  obtain ⟨i0, hi0, _⟩ := info_parts infoZ
  have hs : Go.Src Try.prog i0.size 87 (.slice (some src) 0 c) 0 [] W := ⟨Or.inl ⟨_, Try.underlying87⟩, fun w' => by simp [Builtin.lenOf], by simp [Builtin.firstCells, loadCells, loadCellsFrom], by simp [Builtin.firstCells, loadCells, loadCellsFrom], by simp, fun u hu => by cases hu⟩
  exact run_append_nothing W _ _ _ _ _ Try.underlying87 hi0 _ 0 0 (Nat.le_refl _) _ hs
theorem appI {W : World} {N b : Nat} {src : Addr} {n c : Nat} {zs : List Int} (hE : Emp W N 3 b) (hN : N ≤ W.heap.size) (hl : zs.length = n) (hs : ∀ j, j < n → W.cell? (src.add j) = some (.int .i64 (zs.getD j 0))) (hn : n ≤ 1000) (hp : 0 < n) :
    ∃ g c' w1, appRun Try.prog 87 87 (.slice (some ⟨b, 0, none⟩) 0 0) (.slice (some src) n c) W = .ok (.slice (some ⟨g, 0, none⟩) n c') w1 ∧ Hid (RowI w1 g n zs ∧ (g = b ∨ g = W.heap.size) ∧ g < w1.heap.size ∧ W.grownBy w1 (some b) ∧ n ≤ c') := by
  obtain ⟨i0, hi0, hz0, hz1, hz2⟩ := info_parts infoZ
  obtain ⟨g, c', w1, hrun, hown, hgrow, hat, hlt⟩ := run_append_lies (P := Try.prog) W 87 87 N 3 i0 _ 1 8 Try.underlying87 hi0 hz0 hz1 hz2 rfl (by decide) _ 0 [] (hE.own 1) src n c (zv zs) (by simp [zv, hl]) (fun j u hj => by
    have hj' : j < n := by
      rcases Nat.lt_or_ge j zs.length with h | h
      · omega
      · rw [List.getElem?_eq_none (by simp [zv]; omega)] at hj
        cases hj
    have : u = .int .i64 (zs.getD j 0) := by
      simp [zv, List.getD_eq_getElem?_getD, List.getElem?_eq_getElem (show j < zs.length by omega)] at hj ⊢
      exact hj.symm
    rw [this]
    exact hs j hj') (zv_one zs) hp (by simp [maxLen]; omega) (by omega) hN _ rfl
  rw [Nat.zero_add] at hrun
  rw [Nat.zero_add, List.nil_append] at hown
  have hnc : n ≤ c' := by
    obtain ⟨_, hd⟩ := hown
    rcases hd with ⟨h0, _⟩ | ⟨g', c'', cur, hv, _, hh, hnc, _⟩
    · cases h0
    · cases hv
      exact hnc
  refine ⟨g, c', w1, hrun, ⟨hl, ?_, ?_⟩, ?_, hlt, hgrow, hnc⟩
  · subst hl
    exact own_ints hown
  · have := own_room hown
    rwa [Nat.mul_one] at this
  · rcases hat with e | e
    · left; simpa [Value.ownBlock] using e.symm
    · exact Or.inr e

set_option maxRecDepth 100000 in
set_option maxHeartbeats 2000000 in
theorem implCloneI (lo : Nat) (a : Option Addr) (n c : Nat) (zs : List Int) (w : World) (h : SomeI w lo a n zs) (hn : n ≤ 1000) :
    Calls Try.prog 150 #[.slice a n c] w fun e w' => ∃ a' c', e = .returned (.slice a' n c') ∧ SomeI w' w.heap.size a' n zs ∧ Below w.heap.size w w' ∧ n ≤ c' := by
  obtain ⟨hl, hd⟩ := h
  cases a with
  | none =>
    have hn0 : n = 0 := by
      rcases hd with h | ⟨b, e, _⟩
      · exact h
      · cases e
    subst hn0
    have he : (binOp BinOp.eql 87 (.slice none 0 c) (.slice none 0 0)).run Try.prog w = .ok (.bool true) w := by kernel_rfl
    go_enter Try.func150, Try.ntmps150
    go_wp2
    go_ret
    exact ⟨none, ⟨0, rfl⟩, ⟨hl, Or.inl rfl⟩, Below.refl _ _⟩
  | some src =>
    have hs : ∀ j, j < n → w.cell? (src.add j) = some (.int .i64 (zs.getD j 0)) := fun j hj => by
      rcases hd with h | ⟨b, e, h1, h2, h3⟩
      · omega
      · cases e
        rw [ad0]
        exact (h3.at hj).1
    have hE : Emp (w.alloc (.cells #[] 3)) w.heap.size 3 w.heap.size := emp_new w _ (Nat.le_refl _)
    have hB := (Below.refl w.heap.size w).alloc (Nat.le_refl _) (.cells #[] 3)
    have hlt : n = 0 ∨ src.block < w.heap.size := by
      rcases Nat.eq_zero_or_pos n with h | h
      · exact Or.inl h
      · exact Or.inr (World.block_lt_of_cell? _ _ (hs 0 h))
    have happ : ∃ g c' w1, appRun Try.prog 87 87 (.slice (some ⟨w.heap.size, 0, none⟩) 0 0) (.slice (some src) n c) (w.alloc (.cells #[] 3)) = .ok (.slice (some ⟨g, 0, none⟩) n c') w1 ∧ Hid (SomeI w1 w.heap.size (some ⟨g, 0, none⟩) n zs ∧ Below w.heap.size w w1 ∧ n ≤ c') := by
      rcases Nat.eq_zero_or_pos n with h0 | hp
      · subst h0
        exact ⟨_, _, _, appI0, ⟨hl, Or.inl rfl⟩, hB, Nat.le_refl _⟩
      obtain ⟨g, c', w1, happ, HR⟩ := appI (c := c) hE (by simp) hl (fun j hj => by
        have h1 := hs j hj
        exact (hB.cell (p := src.add j) (by have := World.block_lt_of_cell? _ _ h1; exact this)).trans h1) hn hp
      obtain ⟨hr, hg, hl2, hgr, hnc⟩ := HR.out
      have B1 := grown_below hgr (Nat.le_refl _) (by simp)
      refine ⟨g, c', w1, happ, ⟨hl, Or.inr ⟨g, rfl, by rcases hg with e | e <;> rw [e] <;> simp, hl2, hr⟩⟩, hB.trans B1, hnc⟩
    obtain ⟨g, c', w1, happ, HR⟩ := happ
    clear hs hE hlt hB hd
    have he : (binOp BinOp.eql 87 (.slice (some src) n c) (.slice none 0 0)).run Try.prog w = .ok (.bool false) w := by kernel_rfl
    go_enter Try.func150, Try.ntmps150
    go_wp2
    go_ret
    exact ⟨_, _, rfl, HR.out.1, HR.out.2.1, HR.out.2.2⟩

theorem Only.belowN {b N : Nat} {w w' : World} (h : Only b w w') (hb : N ≤ b) : Below N w w' := h.below hb
set_option maxRecDepth 100000 in
set_option maxHeartbeats 2000000 in
theorem implHeapOf (lo : Nat) (a : Option Addr) (n c : Nat) (zs : List Int) (w : World) (h : SomeI w lo a n zs) (hn : n ≤ 8) (ha : AscI zs) :
    Calls Try.prog 139 #[.slice a n c] w fun e w' => ∃ a' c', e = .returned (.slice a' n c') ∧ SomeI w' w.heap.size a' n zs ∧ Below w.heap.size w w' ∧ n ≤ c' := by
  have hcl := implCloneI lo a n c zs w h (by omega)
  go_enter Try.func139, Try.ntmps139
  go_wp2_with (fail)
  refine hcl.mono ?_
  rintro e w1 ⟨a1, c1, rfl, hS, B1, hnc⟩
  have s1 := B1.size
  have HS := hidE hS
  have HB := hidE B1
  have hni : (n : Int) ≤ 8 := by omega
  have h0n : (0 : Int) ≤ (n : Int) := Int.natCast_nonneg _
  clear hcl hS B1
  go_wp2_with (fail)
  go_loopw [4] (fun i wr => ∃ z : Int, i = .int .i64 z ∧ -1 ≤ z ∧ z ≤ (n : Int) / 2 - 1 ∧ Hid (SomeI wr w.heap.size a1 n zs) ∧ Hid (Below w.heap.size w wr)) (fun i _ => (intOf i + 1).toNat)
  case atStart => exact ⟨_, rfl, by omega, by omega, HS.out, HB.out⟩
  case round =>
    clear HS HB
    obtain ⟨z, rfl, hz1, hz2, HS, HB⟩ := hrel
    by_cases hz0 : 0 ≤ z
    · obtain ⟨k, rfl⟩ := Int.eq_ofNat_of_zero_le hz0
      obtain ⟨hl, hd⟩ := HS.out
      rcases hd with h0 | ⟨b, rfl, hb1, hb2, hR⟩
      · omega
      have hsk := implSink b n c1 zs k wr hR (by omega) (by omega)
      have hk8 : (k : Int) ≤ 8 := by omega
      have Hsz := hidE (show w.heap.size ≤ wr.heap.size from HB.out.size)
      clear hR
      go_wp2_with (fail)
      refine hsk.mono ?_
      rintro e w2 ⟨rfl, ⟨zs', hR2, hE⟩, hO⟩
      have hzz := hE ha
      subst hzz
      have HS2 := hidE (show SomeI w2 w.heap.size (some ⟨b, 0, none⟩) n zs' from ⟨hl, Or.inr ⟨b, rfl, hb1, by rw [hO.size]; exact hb2, hR2⟩⟩)
      have HB2 := hidE (HB.out.trans (hO.below hb1))
      clear hsk hR2 hE hO HS HB
      go_wp2
      go_roundw
      case rel => exact ⟨(k : Int) - 1, rfl, by omega, by omega, HS2.out, HB2.out⟩
      case measure => simp [intOf]
    · have hz3 : ¬ z ≥ 0 := by omega
      go_wp2
      go_ret
      exact ⟨_, _, rfl, HS.out, HB.out, hnc⟩

set_option maxRecDepth 100000 in
set_option maxHeartbeats 2000000 in
theorem implPop (P N : Nat) (a : Option Addr) (n c : Nat) (zs : List Int) (w : World) (h : SomeI w N a n zs) (hn : n ≤ 8) (hcap : n ≤ c) (hP : N ≤ P) (hc : w.cell? ⟨P, 0, none⟩ = some (.slice a n c)) (hf : w.frozen? ⟨P, 0, none⟩ = false) (hne : 0 < n → ∀ b, a = some ⟨b, 0, none⟩ → b ≠ P) :
    Calls Try.prog 141 #[.pointer (some ⟨P, 0, none⟩)] w fun e w' => e = .returned (.tuple #[.int .i64 (zs.getD 0 0), .bool (decide (0 < n))]) ∧ Below N w w' := by
  obtain ⟨hl, hd⟩ := h
  have hni : (n : Int) ≤ 8 := by omega
  have h0n : (0 : Int) ≤ (n : Int) := Int.natCast_nonneg _
  rcases Nat.eq_zero_or_pos n with h0 | hp
  · subst h0
    have e0 : zs.getD 0 0 = 0 := by rw [List.getD_eq_getElem?_getD, List.getElem?_eq_none (by omega)]; rfl
    rw [e0]
    go_enter Try.func141, Try.ntmps141
    go_wp2
    go_ret2
    exact ⟨rfl, Below.refl _ _⟩
  · rcases hd with h0 | ⟨b, rfl, hb1, hb2, hR⟩
    · omega
    obtain ⟨m, rfl⟩ : ∃ m, n = m + 1 := ⟨n - 1, by omega⟩
    have hnb := hne (by omega) b rfl
    have hsw := implSwap b (m + 1) c zs 0 m w hR (by omega) (by omega)
    rw [show ((0 : Nat) : Int) = 0 from rfl] at hsw
    have hlen : ((zs.set 0 (zs.getD m 0)).set m (zs.getD 0 0)).length = m + 1 := by simp [hl]
    have hat : ((zs.set 0 (zs.getD m 0)).set m (zs.getD 0 0)).getD m 0 = zs.getD 0 0 := getD_set_same _ _ _ _ (by rw [List.length_set]; omega)
    have hm1 : ((m + 1 : Nat) : Int) - 1 = (m : Int) := by omega
    have hm1' : ((m : Int) + 1) - 1 = (m : Int) := by omega
    have hmi : (m : Int) < ((m + 1 : Nat) : Int) := by omega
    have hml : ¬ (m : Int) < 0 := by omega
    have hdp : decide (0 < m + 1) = true := by simp
    rw [hdp]
    obtain ⟨z0, hz0⟩ : ∃ z, z = zs.getD 0 0 := ⟨_, rfl⟩
    rw [← hz0] at hat hsw ⊢
    have Hz := hidE hz0
    clear hz0
    go_enter Try.func141, Try.ntmps141
    go_wp2_with (fail)
    refine hsw.mono ?_
    rintro e w1 ⟨rfl, hR1, hO1⟩
    have q := (hR1.at (i := m) (by omega)).1
    rw [hat] at q
    generalize ((zs.set 0 (zs.getD m 0)).set m z0) = z2 at *
    have hc1 := (World.cell?_of_block (a := ⟨P, 0, none⟩) (hO1.block P (Ne.symm hnb))).trans hc
    have hf1 := (World.frozen?_of_block (a := ⟨P, 0, none⟩) (hO1.block P (Ne.symm hnb))).trans hf
    have hmc : (m : Int) ≤ (c : Int) := by omega
    have hB1 := hidE (hO1.below hb1)
    have hlP : P < w1.heap.size := World.block_lt_of_cell? _ _ hc1
    have hRm : RowI (w1.setCell ⟨P, 0, none⟩ (.slice (some ⟨b, 0, none⟩) m c)) b m (z2.take m) := by
      have s : SameIn b (b + 1) w1 (w1.setCell ⟨P, 0, none⟩ (.slice (some ⟨b, 0, none⟩) m c)) := fun j j1 j2 => Below.heap_setCell _ _ _ _ (by simp; omega)
      refine ⟨by rw [List.length_take, hR1.1]; omega, fun i hi => ?_, fun j hj => ?_⟩
      · rw [List.length_take, hR1.1] at hi
        rw [show (z2.take m).getD i 0 = z2.getD i 0 by simp only [List.getD_eq_getElem?_getD]; rw [List.getElem?_take_of_lt (by omega)]]
        exact (hR1.2.1.same s (Nat.le_refl _) (Nat.lt_succ_self _)) i (by rw [hR1.1]; omega)
      · exact (hR1.2.2.same s (Nat.le_refl _) (Nat.lt_succ_self _)) j (by omega)
    have hsk := implSink b m c (z2.take m) 0 _ hRm (by omega) (by omega)
    rw [show ((0 : Nat) : Int) = 0 from rfl] at hsk
    have HB2 := hidE ((hB1.out.setCell (p := ⟨P, 0, none⟩) hP (.slice (some ⟨b, 0, none⟩) m c)))
    clear hR1 hO1 hRm hsw hR hc hne
    go_wp2_with (fail)
    refine hsk.mono ?_
    rintro e w2 ⟨rfl, _, hO2⟩
    have HB3 := hidE (HB2.out.trans (hO2.below hb1))
    clear hsk hO2 q
    go_wp2
    go_ret2
    exact ⟨rfl, HB3.out⟩

/-- The first of the free frames is the first that nobody is in. -/
def freeFrom (U : Int → Nat) (f n : Nat) : List Int := ((List.range' f n).filter fun i : Nat => U (i : Int) == 0).map fun i : Nat => (i : Int)
theorem freeFrom_first (U : Int → Nat) : ∀ n f, (firstI U f n < 0 ∧ freeFrom U f n = []) ∨ (∃ r : Nat, firstI U f n = (r : Int) ∧ ∃ l, freeFrom U f n = (r : Int) :: l)
  | 0, f => Or.inl ⟨(by show (-1 : Int) < 0; decide), rfl⟩
  | n + 1, f => by
    rw [firstI]
    have e : freeFrom U f (n + 1) = bif U (f : Int) == 0 then (f : Int) :: freeFrom U (f + 1) n else freeFrom U (f + 1) n := by
      unfold freeFrom
      rw [List.range'_succ, List.filter_cons]
      cases U (f : Int) == 0 <;> rfl
    rw [e]
    cases U (f : Int) == 0
    · exact freeFrom_first U n (f + 1)
    · exact Or.inr ⟨f, rfl, _, rfl⟩
theorem freeUp_from (U : Int → Nat) : freeUp U 8 = freeFrom U 0 8 := by
  unfold freeUp freeFrom
  rw [List.range_eq_range']
theorem freeUp_asc (U : Int → Nat) : AscI (freeUp U 8) := by
  have hp : (freeUp U 8).Pairwise (· ≤ ·) := by
    unfold freeUp
    rw [List.pairwise_map]
    refine List.Pairwise.imp (R := (· < ·)) (fun h => by omega) ?_
    exact List.Pairwise.filter _ List.pairwise_lt_range
  intro i j hij hj
  have := List.pairwise_iff_getElem.1 hp i j (by omega) hj hij
  rwa [getD_lt (by omega), getD_lt hj]
theorem freeUp_first (U : Int → Nat) : (firstI U 0 8 < 0 ∧ (freeUp U 8).length = 0) ∨ (∃ r : Nat, firstI U 0 8 = (r : Int) ∧ 0 < (freeUp U 8).length ∧ (freeUp U 8).getD 0 0 = (r : Int)) := by
  rw [freeUp_from]
  rcases freeFrom_first U 8 0 with ⟨h1, h2⟩ | ⟨r, h1, l, h2⟩
  · exact Or.inl ⟨h1, by rw [h2]; rfl⟩
  · exact Or.inr ⟨r, h1, by rw [h2]; simp, by rw [h2]; rfl⟩

set_option maxRecDepth 100000 in
set_option maxHeartbeats 2000000 in
theorem implFirstFree (B L c : Nat) (h : Hst) (w : World) (hW : HouseW w B L c h) (hwf : WfGs h.guests.length h.guests) (h6 : ∀ i, i < h.guests.length → (h.guests.getD i noG).maps.length = 6) :
    Calls Try.prog 125 #[.pointer (some ⟨B, 0, none⟩)] w fun e w' => ∃ x : Int, e = .returned (.tuple #[.int .i64 x, .bool (decide (0 ≤ firstH h))]) ∧ (0 ≤ firstH h → x = firstH h) ∧ Below w.heap.size w w' := by
  have hgv := hW.give
  have hf := implFree L h.guests.length c h.frames h.hand h.guests w hW.2.2.2.2.2.1 hW.2.2.2.2.2.2.2.1 hW.2.2.1 hwf
  have hU : (fun f => (ten h.guests f).length) = usersH h := by
    funext f
    exact ten_users h f h6
  rw [hU] at hf
  have hfst := freeUp_first (usersH h)
  have hasc := freeUp_asc (usersH h)
  have hlen := freeUp_len (usersH h) 8
  have hE : firstH h = firstI (usersH h) 0 8 := rfl
  rw [← hE] at hfst
  clear hU hE hW
  generalize freeUp (usersH h) 8 = zs at *
  generalize (houseC h.frames (.slice (some ⟨L, 0, none⟩) h.guests.length c) h.hand).toArray = hs at *
  obtain ⟨fb, hfb⟩ : ∃ fb, fb = decide (0 ≤ firstH h) := ⟨_, rfl⟩
  rw [← hfb]
  have HFB := hidE hfb
  clear hfb
  go_enter Try.func125, Try.ntmps125
  go_wp2_with (fail)
  refine hf.mono ?_
  rintro e w1 ⟨v, rfl, hO, B1⟩
  obtain ⟨a, c1, rfl, hd⟩ := hO
  have hS : SomeI w1 w.heap.size a zs.length zs := ⟨rfl, hd.imp id (fun ⟨b, e, h1, h2, h3, h4⟩ => ⟨b, e, h1, h2, rfl, h3, h4⟩)⟩
  have hhp := implHeapOf w.heap.size a zs.length c1 zs w1 hS hlen hasc
  have HB1 := hidE B1
  have s1 := B1.size
  clear hf hd hS B1
  go_wp2_with (fail)
  refine hhp.mono ?_
  rintro e w2 ⟨a2, c2, rfl, hS2, B2, hnc⟩
  have s2 := B2.size
  have HB2 := hidE (HB1.out.trans (B2.mono s1))
  obtain ⟨W3, hW3⟩ : ∃ W3, W3 = w2.alloc (.cells #[.slice a2 zs.length c2] 158) := ⟨_, rfl⟩
  have BA : Below w2.heap.size w2 W3 := by rw [hW3]; exact (Below.refl _ _).alloc (Nat.le_refl _) _
  have hcell : W3.cell? ⟨w2.heap.size, 0, none⟩ = some (.slice a2 zs.length c2) ∧ W3.frozen? ⟨w2.heap.size, 0, none⟩ = false := by rw [hW3]; simp
  have hS3 : SomeI W3 w.heap.size a2 zs.length zs := ⟨hS2.1, hS2.2.imp id (fun ⟨b, e, h1, h2, h3⟩ => ⟨b, e, by omega, Nat.lt_of_lt_of_le h2 BA.size, h3.only (b' := b + 1) (BA.block b h2) (by omega)⟩)⟩
  have hpop := implPop w2.heap.size w.heap.size a2 zs.length c2 zs W3 hS3 hlen hnc (by omega) hcell.1 hcell.2 (fun hp b e => by
    rcases hS2.2 with h0 | ⟨b', e', h1, h2, _⟩
    · omega
    · rw [e] at e'; cases e'; omega)
  have HB3 := hidE (HB2.out.trans (BA.mono (by omega)))
  clear hhp hS2 hS3 BA hcell
  go_wp2_with (fail)
  rw [← hW3]
  clear hW3
  refine hpop.mono ?_
  rintro e w4 ⟨rfl, B4⟩
  have HB4 := hidE (HB3.out.trans B4)
  clear hpop B4
  have hb : decide (0 < zs.length) = decide (0 ≤ firstH h) := by
    rcases hfst with ⟨h1, h2⟩ | ⟨r, h1, h2, _⟩
    · rw [h2, decide_eq_false (by omega), decide_eq_false (by omega)]
    · rw [decide_eq_true h2, decide_eq_true (by omega)]
  have hx : 0 ≤ firstH h → zs.getD 0 0 = firstH h := fun h0 => by
    rcases hfst with ⟨h1, _⟩ | ⟨r, h1, _, h3⟩
    · omega
    · rw [h3, h1]
  rw [hb, ← HFB.out]
  have HX := hidE hx
  clear hb hx hfst hasc
  generalize zs.getD 0 0 = x at *
  go_wp2
  go_ret2
  exact ⟨x, rfl, HX.out, HB4.out⟩
end Go.Proofs.Ytdamdjhnhkmncaa
