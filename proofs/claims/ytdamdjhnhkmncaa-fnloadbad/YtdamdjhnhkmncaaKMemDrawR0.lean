/-
  What the drawing of memory gives, with the room that its row has.
-/
import Derived.Test.YtdamdjhnhkmncaaKMemDraw1
import Derived.Test.YtdamdjhnhkmncaaKM
set_option linter.unusedSimpArgs false
namespace Go.Proofs.Ytdamdjhnhkmncaa
open Go.RowKit

theorem hidA {p : Prop} (h : p) : Hid p := h
theorem own_roomR {w : World} {base : Nat} {t : TypeId} {n cap T : Nat} {vs : List Value} (h : w.ownsRow base t 1 (.slice (some ⟨T, 0, none⟩) n cap) n vs) : Room w T cap := by
  obtain ⟨hlen, hd⟩ := h
  rcases hd with ⟨h0, _⟩ | ⟨g, c, cur, hv, _, hh, hnc, _, hsz, htk⟩
  · simp at h0
  · simp at hv
    obtain ⟨rfl, rfl⟩ := hv
    intro j hj
    have hlt : j < cur.size := by omega
    refine ⟨⟨cur[j], ?_⟩, ?_⟩
    · rw [cell_of_row w T j cur t (0, 0) hh]
      simp [hlt]
    · simp [World.frozen?, hh]
structure MemShapeR (w : World) (lo hi m T o n c : Nat) : Prop where
  sh : MemShape w lo hi m T o n
  rm : Room w T (o + c)
theorem MemShapeR.same {w w' : World} {lo hi m T o n c : Nat} (h : MemShapeR w lo hi m T o n c) (s : SameIn lo hi w w') : MemShapeR w' lo hi m T o n c :=
  ⟨h.sh.same s, fun j hj => ⟨(h.rm j hj).1.imp fun _ e => (s.cell h.sh.1 h.sh.2.1).trans e, (s.frozen h.sh.1 h.sh.2.1).trans (h.rm j hj).2⟩⟩
theorem MemShapeR.wide {w : World} {lo hi lo' hi' m T o n c : Nat} (h : MemShapeR w lo hi m T o n c) (h1 : lo' ≤ lo) (h2 : hi ≤ hi') : MemShapeR w lo' hi' m T o n c := ⟨h.sh.wide h1 h2, h.rm⟩
theorem MemShapeR.drop {w : World} {lo hi m T o n c : Nat} (h : MemShapeR w lo hi m T o (n + 1) c) (hc : 1 ≤ c) : MemShapeR w lo hi m T (o + 1) n (c - 1) := ⟨h.sh.drop, by rw [show o + 1 + (c - 1) = o + c by omega]; exact h.rm⟩
theorem room_set {w : World} {T n b j : Nat} {u : Value} (h : Room w T n) : Room (w.setCell ⟨b, j, none⟩ u) T n := fun i hi => by
  obtain ⟨⟨v, hv⟩, hf⟩ := h i hi
  refine ⟨?_, by rw [frozen_put]; exact hf⟩
  by_cases e : T = b
  · subst e
    exact ⟨_, cell_put hv⟩
  · exact ⟨v, by rw [cell_off e]; exact hv⟩
theorem MemShapeR.word {w : World} {lo hi m T o n c : Nat} (h : MemShapeR w lo hi m T o n c) {p : Nat} (hp : p ≠ T) (j : Nat) (z : Int) : MemShapeR (w.setCell ⟨p, j, none⟩ (.int .i64 z)) lo hi m T o n c := ⟨h.sh.word hp j z, room_set h.rm⟩
theorem MemShapeR.page {w : World} {lo hi m T o n i c : Nat} (h : MemShapeR w lo hi m T o n c) (hi' : i < n) {p l c' : Nat} (h1 : m ≤ l) (h4 : l ≤ 4) (hp1 : lo ≤ p) (hp2 : p < hi) (hpT : p ≠ T)
    (hc : ∀ j, j < l → (∃ z, w.cell? ⟨p, j, none⟩ = some (.int .i64 z)) ∧ w.frozen? ⟨p, j, none⟩ = false) : MemShapeR (w.setCell ⟨T, o + i, none⟩ (.slice (some ⟨p, 0, none⟩) l c')) lo hi m T o n c := ⟨h.sh.page hi' h1 h4 hp1 hp2 hpT hc, room_set h.rm⟩
theorem MemShapeR.drew {w : World} {lo hi m T o n c : Nat} (h : MemShapeR w lo hi m T o n c) : MemShapeR w.drew lo hi m T o n c := h.same (fun _ _ _ => rfl)
theorem MemShapeR.weak {w : World} {lo hi m m' T o n c : Nat} (h : MemShapeR w lo hi m T o n c) (hm : m' ≤ m) : MemShapeR w lo hi m' T o n c := ⟨h.sh.weak hm, h.rm⟩

set_option maxHeartbeats 2000000 in
theorem specMemNew_yesR (n : Nat) (w : World) (h : n ≤ 6) :
    Calls Try.prog 87 #[.int .i64 n] w fun e w' => ∃ a c, e = .returned (.slice a n c) ∧ OwnMem w' w.heap.size w'.heap.size a n (zeroM n) ∧ n ≤ c ∧ (∀ T, a = some ⟨T, 0, none⟩ → Room w' T c) ∧ Below w.heap.size w w' := by
  obtain ⟨i1, hi1, hy0, hy1, hy2⟩ := info_parts infoS
  have hI := specIn n 0 6
  rw [show (decide (0 ≤ (n : Int)) && decide ((n : Int) ≤ 6)) = true by simp; omega] at hI
  go_enter Try.func87, Try.ntmps87
  go_wp2_with (fail)
  refine (hI _).mono ?_
  rintro e w2 ⟨rfl, rfl⟩
  go_wp2
  go_loopw [3, 4] (fun v i wr => ∃ k : Nat, ∃ vs, k ≤ n ∧ i = .int .i64 k ∧ Hid (wr.ownsRow w.heap.size 87 1 v k vs) ∧ Hid (PagesUp wr w.heap.size k (zeroM n) vs) ∧ Below w.heap.size w wr) (fun _ i _ => n - (intOf i).toNat)
  case atStart => exact ⟨0, [], Nat.zero_le _, rfl, World.ownsRow_made w #[] 0 (Nat.le_refl _) (by simp [maxLen]) rfl, ⟨rfl, fun _ => 0, fun _ => 0, fun i j h1 h2 => by omega, fun i hi => by omega⟩, (Below.refl _ _).alloc (Nat.le_refl _) _⟩
  case round =>
    obtain ⟨k, vs, hk, rfl, hownH, hPH, hB⟩ := hrel
    have hown := hownH.out
    have hP := hPH.out
    have sW := hB.size
    by_cases hkl : k < n
    · have hki : (k : Int) < (n : Int) := by omega
      have hg := zeroM_get hkl
      have B2 : Below wr.heap.size wr (wr.alloc (.cells (madeCells #[.int .i64 0] 4) 3)) := (Below.refl _ _).alloc (Nat.le_refl _) _
      have own2 : (wr.alloc (.cells (madeCells #[.int .i64 0] 4) 3)).ownsRow w.heap.size 3 1 (.slice (some ⟨wr.heap.size, 0, none⟩) 4 4) 4 (zv ((zeroM n).getD k [])) := by
        rw [hg]
        exact own_down (own_made wr _) sW
      have hown2 := (own_below hown B2).alloc (.cells #[.slice (some ⟨wr.heap.size, 0, none⟩) 4 4] 87)
      have HC := one_new (wr.alloc (.cells (madeCells #[.int .i64 0] 4) 3)) (.slice (some ⟨wr.heap.size, 0, none⟩) 4 4) 87
      rw [show (wr.alloc (.cells (madeCells #[.int .i64 0] 4) 3)).heap.size = wr.heap.size + 1 by simp] at HC
      go_wp2_with (first | (go_at_call 89; refine (specPage _).mono ?_; rintro e w' ⟨rfl, rfl⟩) | (at_builtin; refine wpList_append_own _ rfl (.tmp 15) (.tmp 17) 23 rfl w.heap.size 87 i1 (.slice none 0 0) 1 24 Try.underlying23 hi1 hy0 hy1 hy2 rfl (by decide) _ _ _ rfl hown2 ⟨wr.heap.size + 1, 0, none⟩ 1 1 [.slice (some ⟨wr.heap.size, 0, none⟩) 4 4] rfl rfl HC (by simp [Value.oneCell']) (by unfold maxLen; omega) (by omega) (by simp; omega) ?_; intro v3 w3 own3 grow3 nil3))
      have hB2 : Below w.heap.size w (wr.alloc (.cells (madeCells #[.int .i64 0] 4) 3)) := hB.trans (B2.mono sW)
      have hB3 : Below w.heap.size w w3 := Below.grown (hB2.alloc (by simp; omega) _) grow3 (by simp; omega) (fun j hj => (hown2.lt _ hj).1)
      have HO3 : Hid (w3.ownsRow w.heap.size 87 1 v3 (k + 1) (vs ++ [.slice (some ⟨wr.heap.size, 0, none⟩) 4 4])) := own3
      have HP3 : Hid (PagesUp w3 w.heap.size (k + 1) (zeroM n) (vs ++ [.slice (some ⟨wr.heap.size, 0, none⟩) 4 4])) := by
        have k1 : PagesUp ((wr.alloc (.cells (madeCells #[.int .i64 0] 4) 3)).alloc (.cells #[.slice (some ⟨wr.heap.size, 0, none⟩) 4 4] 87)) w.heap.size (k + 1) (zeroM n) (vs ++ [.slice (some ⟨wr.heap.size, 0, none⟩) 4 4]) :=
          PagesUp.snoc hP ((hP.kept (below_grown B2) (fun T e => by cases e)).kept (below_grown ((Below.refl _ _).alloc (Nat.le_refl _) _)) (fun T e => by cases e)) (Nat.le_refl _) (by rw [hg]; rfl) (own2.alloc _)
        exact k1.kept grow3 (own_row hown2)
      clear own3 grow3 nil3 hown2 HC own2 hown hP
      go_wp2
      go_roundw
      case rel => exact ⟨k + 1, _, by omega, by go_num, HO3, HP3, hB3⟩
      case measure => simp [intOf]; omega
    · have hkk : k = n := by omega
      subst hkk
      obtain ⟨a3, c3, hv3, hM, hc3⟩ := own_mem hP (by simp [zeroM]) hown
      subst hv3
      have HRm := hidA (fun T (e : a3 = some ⟨T, 0, none⟩) => own_roomR (e ▸ hown))
      clear hown hP hownH hPH
      go_wp2
      go_ret
      exact ⟨a3, c3, rfl, hM, hc3, HRm.out, hB⟩
set_option maxHeartbeats 6000000 in
theorem drawMemR (rb k0 : Nat) (w : World) (hr0 : Rd w rb k0) (hk0 : k0 ≤ 700000) :
    Calls Try.prog 42 #[.pointer (some ⟨rb, 0, none⟩)] w fun e w' => ∃ T c : Nat, e = .returned (.slice (some ⟨T, 0, none⟩) 6 c) ∧ 6 ≤ c ∧ MemShapeR w' w.heap.size w'.heap.size 4 T 0 6 c ∧ RdTo w' rb (k0 + 200) ∧ Adv rb w w' := by
  have hlt := hr0.lt
  go_enter Try.func42, Try.ntmps42
  go_wp2_with (fail)
  refine (specMemNew_yesR 6 _ (by omega)).mono ?_
  rintro e w1 ⟨a, c, rfl, hM, hc, hRm, B1⟩
  obtain ⟨T, rfl, hS0⟩ := hM.shape (by omega) (fun i hi => by rw [zeroM_get hi]; rfl)
  have hS : MemShapeR w1 w.heap.size w1.heap.size 4 T 0 6 c := ⟨hS0, by rw [Nat.zero_add]; exact hRm T rfl⟩
  clear hS0 hRm
  have hr1 := hr0.below B1 hlt
  have hA1 : Adv rb w w1 := Adv.of_below B1 (Nat.le_refl _)
  clear hM B1
  go_wp2_with (fail)
  refine (pickA rb k0 26 _ hr1 (by omega) (by omega) (by omega)).mono ?_
  rintro e w2 ⟨n0, rfl, hn0, hr2, ha2⟩
  have hS2 := hS.same (adv_same ha2 (by omega) (Nat.le_refl _))
  have hA2 := hA1.trans ha2
  have hs2 := ha2.size
  obtain ⟨hi, hhi⟩ : ∃ hi, hi = w1.heap.size := ⟨_, rfl⟩
  rw [← hhi] at hS2 hs2
  have hT := hS2.sh.1
  clear hS ha2 hhi hA1 hr1
  go_wp2
  go_loopw [4] (fun i wr => ∃ n kk : Nat, i = .int .i64 n ∧ n ≤ 25 ∧ Hid (MemShapeR wr w.heap.size hi 4 T 0 6 c) ∧ Hid (Rd wr rb kk) ∧ kk + 4 * n ≤ k0 + 101 ∧ hi ≤ wr.heap.size ∧ Hid (Adv rb w wr)) (fun i _ => (intOf i).toNat)
  case atStart => exact ⟨n0, k0 + 1, rfl, by omega, hS2, hr2, by omega, hs2, hA2⟩
  case round =>
    clear hS2 hr2 hs2 hA2 hn0
    obtain ⟨n, kk, rfl, hn, hSH, hrH, hkk, hs, hAH⟩ := hrel
    by_cases hn0 : 0 < n
    · have hni : (0 : Int) < (n : Int) := by omega
      have hS := hSH.out.drew
      have hr := hrH.out.drew
      have hA := hAH.out.drew
      have hs : hi ≤ wr.drew.heap.size := hs
      clear hSH hrH hAH
      go_wp2_with (fail)
      go_region_with (first | (go_at_call 41; have q0 := q; clear q0; refine (pickA rb _ _ _ hr (by omega) (by omega) (by omega)).mono ?_; rintro e w4 ⟨v2, rfl, hv2, hr, ha⟩; have s4 := adv_same ha hlt hs; have hS := hS.same s4; have q := (s4.cell hT hS.sh.2.1).trans q; have hA := hA.trans ha; have hs : hi ≤ w4.heap.size := Nat.le_trans hs ha.size; clear ha) | (go_at_call 41; refine (pickA rb _ _ _ hr (by omega) (by omega) (by omega)).mono ?_; rintro e w3 ⟨v1, rfl, hv1, hr, ha⟩; have s3 := adv_same ha hlt hs; have hS := hS.same s3; obtain ⟨p, l, c1, g1, g2, g3, g4, g5, q, _, g8⟩ := hS.sh.2.2 v1 (by omega); obtain rfl : l = 4 := (by omega); rw [Nat.zero_add] at q; have hA := hA.trans ha; have hs : hi ≤ w3.heap.size := Nat.le_trans hs ha.size; clear ha s3) | (go_at_call 88; refine (drawWord rb _ _ hr (by omega)).mono ?_; rintro e w5 ⟨z, k5, rfl, _, hr, hk5, ha⟩; have s5 := adv_same ha hlt hs; have hS := hS.same s5; have q := (s5.cell hT hS.sh.2.1).trans q; have hA := hA.trans ha; have hs : hi ≤ w5.heap.size := Nat.le_trans hs ha.size; obtain ⟨⟨y, d⟩, f⟩ := g8 v2 (by omega); have d := (s5.cell g3 g4).trans ((s4.cell g3 g4).trans d); have f := (s5.frozen g3 g4).trans ((s4.frozen g3 g4).trans f); clear ha))
      all_goals
        have HS : Hid (MemShapeR (w5.setCell ⟨p, v2, none⟩ (.int .i64 z)) w.heap.size hi 4 T 0 6 c) := hS.word g5 v2 z
        have HR : Hid (Rd (w5.setCell ⟨p, v2, none⟩ (.int .i64 z)) rb k5) := hr.other p v2 (by omega) _
        have HA : Hid (Adv rb w (w5.setCell ⟨p, v2, none⟩ (.int .i64 z))) := hA.setCell (p := ⟨p, v2, none⟩) (Or.inr g3) _
        clear hS hr hA g8 s4 s5
        go_wp2
        go_roundw
        case rel => exact ⟨n - 1, k5, by go_num, by omega, HS, HR, by omega, by simpa using hs, HA⟩
        case measure => simp [intOf]; omega
    · have hni : ¬ (0 : Int) < (n : Int) := by omega
      go_wp2_with (fail)
      refine (pickA rb kk 7 _ hrH.out (by omega) (by omega) (by omega)).mono ?_
      rintro e w6 ⟨n1, rfl, hn1, hr6, ha6⟩
      have hS6 := hSH.out.same (adv_same ha6 hlt hs)
      have hA6 := hAH.out.trans ha6
      have hs6 := Nat.le_trans hs ha6.size
      clear hSH hrH hAH ha6
      go_wp2
      go_loopw [5, 6] (fun i _ wr => ∃ n kk : Nat, i = .int .i64 n ∧ n ≤ 6 ∧ Hid (MemShapeR wr w.heap.size hi 4 T 0 6 c) ∧ Hid (Rd wr rb kk) ∧ kk + 2 * n ≤ k0 + 130 ∧ hi ≤ wr.heap.size ∧ Hid (Adv rb w wr)) (fun i _ _ => (intOf i).toNat)
      case atStart => exact ⟨n1, kk + 1, rfl, by omega, hS6, hr6, by omega, hs6, hA6⟩
      case round =>
        clear hS6 hr6 hs6 hA6 hn1
        obtain ⟨m, kj, rfl, hm, hSH, hrH, hkj, hs, hAH⟩ := hrel
        by_cases hm0 : 0 < m
        · have hmi : (0 : Int) < (m : Int) := by omega
          go_wp2_with (fail)
          refine (pickA rb kj 6 _ hrH.out (by omega) (by omega) (by omega)).mono ?_
          rintro e w7 ⟨v, rfl, hv, hr, ha⟩
          have s7 := adv_same ha hlt hs
          have hS := (hSH.out.same s7).drew
          have hr := hr.drew
          have hA := (hAH.out.trans ha).drew
          have hs : hi ≤ w7.drew.heap.size := Nat.le_trans hs ha.size
          have hv6 : v = 0 ∨ v = 1 ∨ v = 2 ∨ v = 3 ∨ v = 4 ∨ v = 5 := by omega
          clear hSH hrH hAH ha s7
          rcases hv6 with rfl | rfl | rfl | rfl | rfl | rfl
          · obtain ⟨p, l, c1, g1, g2, g3, g4, g5, q, _, g8⟩ := hS.sh.2.2 0 (by omega)
            obtain rfl : l = 4 := by omega
            rw [Nat.zero_add] at q
            go_wp2_with (fail)
            go_region_with (go_at_call 41; refine (pickA rb _ _ _ hr (by omega) (by omega) (by omega)).mono ?_; rintro e w8 ⟨z, rfl, hz, hr, ha⟩; have s8 := adv_same ha hlt hs; have hS := hS.same s8; have q := (s8.cell hT hS.sh.2.1).trans q; have hA := hA.trans ha; have hs : hi ≤ w8.heap.size := Nat.le_trans hs ha.size; obtain ⟨⟨y, d⟩, f⟩ := g8 0 (by omega); have d := (s8.cell g3 g4).trans d; have f := (s8.frozen g3 g4).trans f; clear ha)
            all_goals
              have HS : Hid (MemShapeR (w8.setCell ⟨p, 0, none⟩ (.int .i64 (5 + (z : Int)))) w.heap.size hi 4 T 0 6 c) := hS.word g5 0 _
              have HR : Hid (Rd (w8.setCell ⟨p, 0, none⟩ (.int .i64 (5 + (z : Int)))) rb (kj + 1 + 1)) := hr.other p 0 (by omega) _
              have HA : Hid (Adv rb w (w8.setCell ⟨p, 0, none⟩ (.int .i64 (5 + (z : Int))))) := hA.setCell (p := ⟨p, 0, none⟩) (Or.inr g3) _
              clear hS hr hA g8 s8
              go_wp2
              go_roundw
              case rel => exact ⟨m - 1, kj + 2, by go_num, by omega, HS, HR, by omega, by simpa using hs, HA⟩
              case measure => simp [intOf]; omega
          · obtain ⟨p, l, c1, g1, g2, g3, g4, g5, q, _, g8⟩ := hS.sh.2.2 0 (by omega)
            obtain rfl : l = 4 := by omega
            rw [Nat.zero_add] at q
            go_wp2_with (fail)
            go_region_with (go_at_call 41; refine (pickA rb _ _ _ hr (by omega) (by omega) (by omega)).mono ?_; rintro e w8 ⟨z, rfl, hz, hr, ha⟩; have s8 := adv_same ha hlt hs; have hS := hS.same s8; have q := (s8.cell hT hS.sh.2.1).trans q; have hA := hA.trans ha; have hs : hi ≤ w8.heap.size := Nat.le_trans hs ha.size; obtain ⟨⟨y, d⟩, f⟩ := g8 1 (by omega); have d := (s8.cell g3 g4).trans d; have f := (s8.frozen g3 g4).trans f; clear ha)
            all_goals
              have HS : Hid (MemShapeR (w8.setCell ⟨p, 1, none⟩ (.int .i64 (5 + (z : Int)))) w.heap.size hi 4 T 0 6 c) := hS.word g5 1 _
              have HR : Hid (Rd (w8.setCell ⟨p, 1, none⟩ (.int .i64 (5 + (z : Int)))) rb (kj + 1 + 1)) := hr.other p 1 (by omega) _
              have HA : Hid (Adv rb w (w8.setCell ⟨p, 1, none⟩ (.int .i64 (5 + (z : Int))))) := hA.setCell (p := ⟨p, 1, none⟩) (Or.inr g3) _
              clear hS hr hA g8 s8
              go_wp2
              go_roundw
              case rel => exact ⟨m - 1, kj + 2, by go_num, by omega, HS, HR, by omega, by simpa using hs, HA⟩
              case measure => simp [intOf]; omega
          · obtain ⟨p, l, c1, g1, g2, g3, g4, g5, q, _, g8⟩ := hS.sh.2.2 0 (by omega)
            obtain rfl : l = 4 := by omega
            rw [Nat.zero_add] at q
            go_wp2_with (fail)
            go_region_with (go_at_call 41; refine (pickA rb _ _ _ hr (by omega) (by omega) (by omega)).mono ?_; rintro e w8 ⟨z, rfl, hz, hr, ha⟩; have s8 := adv_same ha hlt hs; have hS := hS.same s8; have q := (s8.cell hT hS.sh.2.1).trans q; have hA := hA.trans ha; have hs : hi ≤ w8.heap.size := Nat.le_trans hs ha.size; obtain ⟨⟨y, d⟩, f⟩ := g8 2 (by omega); have d := (s8.cell g3 g4).trans d; have f := (s8.frozen g3 g4).trans f; clear ha)
            all_goals
              have HS : Hid (MemShapeR (w8.setCell ⟨p, 2, none⟩ (.int .i64 (5 + (z : Int)))) w.heap.size hi 4 T 0 6 c) := hS.word g5 2 _
              have HR : Hid (Rd (w8.setCell ⟨p, 2, none⟩ (.int .i64 (5 + (z : Int)))) rb (kj + 1 + 1)) := hr.other p 2 (by omega) _
              have HA : Hid (Adv rb w (w8.setCell ⟨p, 2, none⟩ (.int .i64 (5 + (z : Int))))) := hA.setCell (p := ⟨p, 2, none⟩) (Or.inr g3) _
              clear hS hr hA g8 s8
              go_wp2
              go_roundw
              case rel => exact ⟨m - 1, kj + 2, by go_num, by omega, HS, HR, by omega, by simpa using hs, HA⟩
              case measure => simp [intOf]; omega
          · obtain ⟨p, l, c1, g1, g2, g3, g4, g5, q, _, g8⟩ := hS.sh.2.2 0 (by omega)
            obtain rfl : l = 4 := by omega
            rw [Nat.zero_add] at q
            go_wp2_with (fail)
            go_region_with (go_at_call 41; refine (pickA rb _ _ _ hr (by omega) (by omega) (by omega)).mono ?_; rintro e w8 ⟨z, rfl, hz, hr, ha⟩; have s8 := adv_same ha hlt hs; have hS := hS.same s8; have q := (s8.cell hT hS.sh.2.1).trans q; have hA := hA.trans ha; have hs : hi ≤ w8.heap.size := Nat.le_trans hs ha.size; obtain ⟨⟨y, d⟩, f⟩ := g8 3 (by omega); have d := (s8.cell g3 g4).trans d; have f := (s8.frozen g3 g4).trans f; clear ha)
            all_goals
              have HS : Hid (MemShapeR (w8.setCell ⟨p, 3, none⟩ (.int .i64 (5 + (z : Int)))) w.heap.size hi 4 T 0 6 c) := hS.word g5 3 _
              have HR : Hid (Rd (w8.setCell ⟨p, 3, none⟩ (.int .i64 (5 + (z : Int)))) rb (kj + 1 + 1)) := hr.other p 3 (by omega) _
              have HA : Hid (Adv rb w (w8.setCell ⟨p, 3, none⟩ (.int .i64 (5 + (z : Int))))) := hA.setCell (p := ⟨p, 3, none⟩) (Or.inr g3) _
              clear hS hr hA g8 s8
              go_wp2
              go_roundw
              case rel => exact ⟨m - 1, kj + 2, by go_num, by omega, HS, HR, by omega, by simpa using hs, HA⟩
              case measure => simp [intOf]; omega
          · obtain ⟨p, l, c1, g1, g2, g3, g4, g5, q, _, g8⟩ := hS.sh.2.2 1 (by omega)
            obtain rfl : l = 4 := by omega
            rw [Nat.zero_add] at q
            go_wp2_with (fail)
            go_region_with (go_at_call 41; refine (pickA rb _ _ _ hr (by omega) (by omega) (by omega)).mono ?_; rintro e w8 ⟨z, rfl, hz, hr, ha⟩; have s8 := adv_same ha hlt hs; have hS := hS.same s8; have q := (s8.cell hT hS.sh.2.1).trans q; have hA := hA.trans ha; have hs : hi ≤ w8.heap.size := Nat.le_trans hs ha.size; obtain ⟨⟨y, d⟩, f⟩ := g8 0 (by omega); have d := (s8.cell g3 g4).trans d; have f := (s8.frozen g3 g4).trans f; clear ha)
            all_goals
              have HS : Hid (MemShapeR (w8.setCell ⟨p, 0, none⟩ (.int .i64 (5 + (z : Int)))) w.heap.size hi 4 T 0 6 c) := hS.word g5 0 _
              have HR : Hid (Rd (w8.setCell ⟨p, 0, none⟩ (.int .i64 (5 + (z : Int)))) rb (kj + 1 + 1)) := hr.other p 0 (by omega) _
              have HA : Hid (Adv rb w (w8.setCell ⟨p, 0, none⟩ (.int .i64 (5 + (z : Int))))) := hA.setCell (p := ⟨p, 0, none⟩) (Or.inr g3) _
              clear hS hr hA g8 s8
              go_wp2
              go_roundw
              case rel => exact ⟨m - 1, kj + 2, by go_num, by omega, HS, HR, by omega, by simpa using hs, HA⟩
              case measure => simp [intOf]; omega
          · obtain ⟨p, l, c1, g1, g2, g3, g4, g5, q, _, g8⟩ := hS.sh.2.2 1 (by omega)
            obtain rfl : l = 4 := by omega
            rw [Nat.zero_add] at q
            go_wp2_with (fail)
            go_region_with (go_at_call 41; refine (pickA rb _ _ _ hr (by omega) (by omega) (by omega)).mono ?_; rintro e w8 ⟨z, rfl, hz, hr, ha⟩; have s8 := adv_same ha hlt hs; have hS := hS.same s8; have q := (s8.cell hT hS.sh.2.1).trans q; have hA := hA.trans ha; have hs : hi ≤ w8.heap.size := Nat.le_trans hs ha.size; obtain ⟨⟨y, d⟩, f⟩ := g8 1 (by omega); have d := (s8.cell g3 g4).trans d; have f := (s8.frozen g3 g4).trans f; clear ha)
            all_goals
              have HS : Hid (MemShapeR (w8.setCell ⟨p, 1, none⟩ (.int .i64 (5 + (z : Int)))) w.heap.size hi 4 T 0 6 c) := hS.word g5 1 _
              have HR : Hid (Rd (w8.setCell ⟨p, 1, none⟩ (.int .i64 (5 + (z : Int)))) rb (kj + 1 + 1)) := hr.other p 1 (by omega) _
              have HA : Hid (Adv rb w (w8.setCell ⟨p, 1, none⟩ (.int .i64 (5 + (z : Int))))) := hA.setCell (p := ⟨p, 1, none⟩) (Or.inr g3) _
              clear hS hr hA g8 s8
              go_wp2
              go_roundw
              case rel => exact ⟨m - 1, kj + 2, by go_num, by omega, HS, HR, by omega, by simpa using hs, HA⟩
              case measure => simp [intOf]; omega
        · have hmi : ¬ (0 : Int) < (m : Int) := by omega
          go_wp2
          go_ret
          exact ⟨T, c, rfl, hc, hSH.out.wide (Nat.le_refl _) hs, ⟨kj, hrH.out, by omega⟩, hAH.out⟩
end Go.Proofs.Ytdamdjhnhkmncaa
