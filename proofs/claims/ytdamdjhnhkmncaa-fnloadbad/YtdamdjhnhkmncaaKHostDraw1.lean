/-
  An append of drawn memory to drawn memory, in its room or in a row of its own; what DrawHostLoad draws.
-/
import Derived.Test.YtdamdjhnhkmncaaKMemDrawR1
import Derived.Deep.AppendSrc
import Derived.Deep.MidRow
set_option linter.unusedSimpArgs false
namespace Go.Proofs.Ytdamdjhnhkmncaa
open Go.RowKit
attribute [local go_sem ↓] Go.wp_at_zero Go.wp_at_succ exec_app
attribute [local go_sem] bigNext_ok

theorem shape_vals {w : World} {lo hi m T o n : Nat} (h : MemShape w lo hi m T o n) : ∃ vs : List Value, vs.length = n ∧ (∀ u ∈ vs, u.oneCell' = true) ∧ ∀ i, i < n → ∃ u, vs[i]? = some u ∧ w.cell? ⟨T, o + i, none⟩ = some u := by
  have each : ∀ i, i < n → ∃ u : Value, w.cell? ⟨T, o + i, none⟩ = some u ∧ u.oneCell' = true := fun i hi => by
    obtain ⟨p, l, c, _, _, _, _, _, g6, _⟩ := h.2.2 i hi
    exact ⟨_, g6, rfl⟩
  obtain ⟨f, hf⟩ := Go.Deep.choose_lt (α := Value) each
  refine ⟨(List.range n).map f, by simp, fun u hu => ?_, fun i hi => ⟨f i, by simp [hi], (hf i hi).1⟩⟩
  obtain ⟨i, hi, rfl⟩ := List.mem_map.1 hu
  exact (hf i (List.mem_range.1 hi)).2
theorem app_mem (lo hi m T o n c : Nat) (w : World) (h : MemShapeR w lo hi m T o n c) (hn : n ≤ 6) (hnc : n ≤ c) (hhi : hi ≤ w.heap.size) (lo2 hi2 m2 T2 c2 : Nat) (h2 : MemShape w lo2 hi2 m2 T2 0 6) (hlo2 : hi ≤ lo2) (hhi2 : hi2 ≤ w.heap.size) :
    ∃ T' o' c' w', appRun Try.prog 23 23 (.slice (some ⟨T, o, none⟩) n c) (.slice (some ⟨T2, 0, none⟩) 6 c2) w = .ok (.slice (some ⟨T', o', none⟩) (n + 6) c') w' ∧ n + 6 ≤ c' ∧ MemShape w' lo w'.heap.size 0 T' o' (n + 6) ∧ Below lo w w' := by
  obtain ⟨i1, hi1, hy0, hy1, hy2⟩ := info_parts infoS
  obtain ⟨v1, l1, one1, hv1⟩ := shape_vals h.sh
  obtain ⟨v2, l2, one2, hv2⟩ := shape_vals h2
  have hT1 := h.sh.1
  have hT2 := h.sh.2.1
  have hlo : lo ≤ w.heap.size := by omega
  have ad : ∀ b o j, (⟨b, o, none⟩ : Addr).add j = ⟨b, o + j, none⟩ := fun b o j => by by_cases h : j = 0 <;> simp [Addr.add, h]
  have hn2 : ∀ j u, v2[j]? = some u → w.cell? ((⟨T2, 0, none⟩ : Addr).add j) = some u := fun j u hj => by
    have hj6 : j < 6 := by rw [← l2]; exact (List.getElem?_eq_some_iff.1 hj).1
    obtain ⟨u', e1, e2⟩ := hv2 j hj6
    rw [hj] at e1
    cases e1
    rw [ad]; exact e2
  have hn1 : ∀ j u, v1[j]? = some u → w.cell? ((⟨T, o, none⟩ : Addr).add j) = some u := fun j u hj => by
    have hjn : j < n := by rw [← l1]; exact (List.getElem?_eq_some_iff.1 hj).1
    obtain ⟨u', e1, e2⟩ := hv1 j hjn
    rw [hj] at e1
    cases e1
    rw [ad]; exact e2
  -- what lies in the row then, and in the pages, makes memory
  have fin : ∀ (T' o' : Nat) (w' : World), lo ≤ T' → T' < w'.heap.size → w.heap.size ≤ w'.heap.size → (T' = T ∨ T' = w.heap.size) → (∀ k, k < w.heap.size → k ≠ T → w'.heap[k]? = w.heap[k]?) → (∀ i, i < n + 6 → w'.cell? ⟨T', o' + i, none⟩ = (v1 ++ v2)[i]? ∧ w'.frozen? ⟨T', o' + i, none⟩ = false) → MemShape w' lo w'.heap.size 0 T' o' (n + 6) := fun T' o' w' q1 q2 q3 q4 q5 q6 => by
    refine ⟨q1, q2, fun i hi => ?_⟩
    obtain ⟨e, ef⟩ := q6 i hi
    by_cases hin : i < n
    · obtain ⟨p, l, c, g1, g2, g3, g4, g5, g6, g7, g8⟩ := h.sh.2.2 i hin
      obtain ⟨u, e1, e2⟩ := hv1 i hin
      rw [g6] at e2
      cases e2
      rw [List.getElem?_append_left (by omega), e1] at e
      have hb : w'.heap[p]? = w.heap[p]? := q5 p (by omega) g5
      refine ⟨p, l, c, Nat.zero_le _, g2, g3, by omega, by rcases q4 with rfl | rfl <;> omega, e, ef, fun j hj => ⟨?_, ?_⟩⟩
      · exact (g8 j hj).1.imp fun _ hz => (World.cell?_of_block (a := ⟨p, j, none⟩) hb).trans hz
      · exact (World.frozen?_of_block (a := ⟨p, j, none⟩) hb).trans (g8 j hj).2
    · obtain ⟨p, l, c, g1, g2, g3, g4, g5, g6, g7, g8⟩ := h2.2.2 (i - n) (by omega)
      obtain ⟨u, e1, e2⟩ := hv2 (i - n) (by omega)
      rw [g6] at e2
      cases e2
      rw [List.getElem?_append_right (by omega), l1, e1] at e
      have hb : w'.heap[p]? = w.heap[p]? := q5 p (by omega) (by omega)
      refine ⟨p, l, c, Nat.zero_le _, g2, by omega, by omega, by rcases q4 with rfl | rfl <;> omega, e, ef, fun j hj => ⟨?_, ?_⟩⟩
      · exact (g8 j hj).1.imp fun _ hz => (World.cell?_of_block (a := ⟨p, j, none⟩) hb).trans hz
      · exact (World.frozen?_of_block (a := ⟨p, j, none⟩) hb).trans (g8 j hj).2
  by_cases hroom : n + 6 ≤ c
  · have hr := run_append_room_src (P := Try.prog) w 23 23 23 87 i1 Try.underlying23 hi1 T o n c (.slice (some ⟨T2, 0, none⟩) 6 c2) 6 v2 (Src.ofSlice w Try.underlying23 ⟨T2, 0, none⟩ 6 c2 v2 (by rw [hy1, l2]) hn2 one2) hroom
      (fun j hj => by
        obtain ⟨⟨v, hv⟩, _⟩ := h.rm (o + n * i1.size + j) (by rw [hy1]; omega)
        rw [hv]; rfl)
      (fun j hj => (h.rm (o + n * i1.size + j) (by rw [hy1]; omega)).2)
    rw [hy1, Nat.mul_one] at hr
    refine ⟨T, o, c, w.setCells T (o + n) v2, hr, hroom, fin T o _ hT1 (by rw [size_setCells]; omega) (by rw [size_setCells]; omega) (Or.inl rfl) (fun k _ hk => heap_setCells T v2 _ w k hk) (fun i hi => ⟨?_, ?_⟩), below_setCells (Below.refl _ _) hT1 v2 _⟩
    · by_cases hin : i < n
      · rw [World.cell?_setCells_out T v2 (o + n) w ⟨T, o + i, none⟩ (fun _ _ => Or.inl (by show o + i < o + n; omega)), List.getElem?_append_left (by omega)]
        obtain ⟨u, e1, e2⟩ := hv1 i hin
        rw [e1, e2]
      · have := World.cell?_setCells_in T v2 (o + n) w (fun j hj => by
          obtain ⟨⟨v, hv⟩, _⟩ := h.rm (o + n + j) (by omega)
          rw [hv]; rfl) (i - n) (by omega)
        rw [show o + n + (i - n) = o + i by omega] at this
        rw [this, List.getElem?_append_right (by omega), l1, List.getElem?_eq_getElem (by omega)]
    · rw [World.frozen?_setCells]
      exact (h.rm (o + i) (by omega)).2
  · have hfit := growslice_fits (need := n + 6) (old := c) (bytes := 24) (by omega) (by omega)
    have hm := grownCap_ge w (n + 6) c 87
    have hr := run_append_grow (P := Try.prog) w 23 23 87 i1 (.slice none 0 0) Try.underlying23 hi1 hy0 ⟨T, o, none⟩ n c v1 (by rw [hy1, l1, Nat.mul_one]) hn1 ⟨T2, 0, none⟩ 6 c2 v2 (by rw [hy1, l2]) hn2 (by omega) (by omega) (by rw [hy2]; omega)
    refine ⟨_, 0, _, _, hr, hm, fin _ 0 _ hlo (by rw [World.size_alloc, World.size_drew]; omega) (by rw [World.size_alloc, World.size_drew]; omega) (Or.inr rfl) (fun k hk _ => (((Below.refl w.heap.size w).drew).alloc (by simp) _).block k hk) (fun i hi => ⟨?_, ?_⟩), ((Below.refl lo w).drew).alloc (by simpa using hlo) _⟩
    · rw [Nat.zero_add]
      show (w.drew.alloc (.cells _ 87)).cell? ⟨w.drew.heap.size, i, none⟩ = _
      rw [cell_of_row _ _ _ _ _ _ (heap_alloc_new w.drew _)]
      rw [Array.getElem?_append_left (by simp; omega), ← Array.getElem?_toList]
      simp
    · show (w.drew.alloc (.cells _ 87)).frozen? ⟨w.drew.heap.size, 0 + i, none⟩ = false
      have hh := heap_alloc_new w.drew (.cells (v1.toArray ++ v2.toArray ++ Builtin.zeroCells (Value.slice none 0 0).cells (grownCap w (n + 6) c 87 - (n + 6))) 87)
      unfold World.frozen?
      simp only [hh]
      simp

set_option maxHeartbeats 2000000 in
theorem drawHostLoad (a : Option Addr) (len cap : Nat) (zs : List Int) (w : World) (h : IsRow .u8 w a len cap zs) :
    Calls Try.prog 12 #[.slice a len cap] w fun e w' => ∃ T o n c ms, e = .returned (.slice (some ⟨T, o, none⟩) n c) ∧ 0 < n ∧ n ≤ 12 ∧ n ≤ c ∧ IsMem w' w.heap.size w'.heap.size (some ⟨T, o, none⟩) n ms ∧ (∀ i, i < n → (ms.getD i []).length ≤ 4) ∧ Below w.heap.size w w' := by
  go_enter Try.func12, Try.ntmps12
  go_wp2_with (fail)
  refine (open_any a len cap zs _ h).mono ?_
  rintro e w1 ⟨rfl, len', hl', rfl⟩
  have hr := rd_new h hl' 0 111
  have B0 : Below w.heap.size w (w.alloc (.cells #[.slice a len' cap, .int .i64 ((0 : Nat) : Int)] 111)) := (Below.refl _ _).alloc (Nat.le_refl _) _
  have s0 : (w.alloc (.cells #[.slice a len' cap, .int .i64 ((0 : Nat) : Int)] 111)).heap.size = w.heap.size + 1 := by simp
  generalize w.alloc (.cells #[.slice a len' cap, .int .i64 ((0 : Nat) : Int)] 111) = w1 at *
  go_wp2_with (fail)
  refine (drawOffR w.heap.size 0 w1 hr (by omega)).mono ?_
  rintro e w2 ⟨T, o, n, c, rfl, hn, hnc, hS2, ⟨k2, hr2, hk2⟩, hA2⟩
  have s2 := hA2.size
  go_wp2_with (fail)
  refine (pickA w.heap.size k2 2 _ hr2 (by omega) (by omega) (by omega)).mono ?_
  rintro e w3 ⟨v, rfl, hv, hr3, hA3⟩
  have s3 := hA3.size
  have hS3 := hidA (hS2.same (adv_same hA3 (by omega) (Nat.le_refl _)))
  have hB3 := hidA (B0.trans ((hA2.trans hA3).below (Nat.le_refl _) (by omega)))
  clear hS2 hA2 hA3 hr2 hr
  by_cases hv0 : v = 0
  · subst hv0
    go_wp2_with (fail)
    refine (drawMemR w.heap.size (k2 + 1) w3 hr3 (by omega)).mono ?_
    rintro e w4 ⟨T2, c2, rfl, hc2, hS4, _, hA4⟩
    have s4 := hA4.size
    have hS34 := hS3.out.same (adv_same hA4 (by omega) s3)
    obtain ⟨T', o', c', w5, hApp, hc', hS5, B5⟩ := app_mem _ _ _ T o n c w4 hS34 (by omega) hnc (by omega) _ _ _ T2 c2 hS4.sh s3 (Nat.le_refl _)
    obtain ⟨ms, hI, hL⟩ := hS5.mem
    have HI := hidA (hI.wide (show w.heap.size ≤ w1.heap.size by omega) (Nat.le_refl _))
    have HB := hidA (hB3.out.trans ((hA4.below (Nat.le_refl _) (by omega)).trans (B5.mono (by omega))))
    replace hL := hidA hL
    clear hS34 hS4 hA4 B5 hI hS5 hS3 hB3
    go_wp2
    clear hApp
    go_ret
    exact ⟨T', o', n + 6, c', ms, rfl, by omega, by omega, hc', HI.out, hL.out, HB.out⟩
  · obtain ⟨ms, hI, hL⟩ := hS3.out.sh.mem
    have HI := hidA (hI.wide (show w.heap.size ≤ w1.heap.size by omega) s3)
    replace hL := hidA hL
    clear hI hS3
    have hv1 : ¬ (v : Int) = 0 := by omega
    go_wp2
    go_ret
    exact ⟨T, o, n, c, ms, rfl, by omega, by omega, hnc, HI.out, hL.out, hB3.out⟩
end Go.Proofs.Ytdamdjhnhkmncaa
