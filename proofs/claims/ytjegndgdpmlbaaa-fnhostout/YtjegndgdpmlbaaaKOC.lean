/-
  What the given functions that make memory do.
-/
import Derived.Test.YtjegndgdpmlbaaaKOB
import Derived.Test.YtjegndgdpmlbaaaKOA
import Derived.Deep.MidRow
namespace Go.Proofs.Ytjegndgdpmlbaaa
open Go.RowKit

theorem ad0 (b j : Nat) : (⟨b, 0, none⟩ : Addr).add j = ⟨b, j, none⟩ := by by_cases h : j = 0 <;> simp [Addr.add, h]
theorem adk (b o j : Nat) : (⟨b, o, none⟩ : Addr).add j = ⟨b, o + j, none⟩ := by by_cases h : j = 0 <;> simp [Addr.add, h]

/-- The cells of an owned row may be written. -/
theorem own_room1 {w : World} {base : Nat} {t : TypeId} {n cap T : Nat} {vs : List Value} (h : w.ownsRow base t 1 (.slice (some ⟨T, 0, none⟩) n cap) n vs) : Room w T n := by
  have hc := h
  obtain ⟨hlen, hd⟩ := h
  rcases hd with ⟨h0, _⟩ | ⟨g, c, cur, hv, _, hh, hnc, _, hsz, htk⟩
  · simp at h0
  · simp at hv
    obtain ⟨rfl, rfl⟩ := hv
    intro j hj
    have hg := List.getElem?_eq_getElem (l := vs) (i := j) (by omega)
    refine ⟨⟨vs[j]'(by omega), ?_⟩, ?_⟩
    · have := hc.cells rfl _ _ hg
      rwa [ad0] at this
    · simp [World.frozen?, hh]

/-- A row of words as values. -/
def zv (zs : List Int) : List Value := zs.map (.int .i64 ·)
theorem zv_get (zs : List Int) (i : Nat) (h : i < zs.length) : (zv zs)[i]? = some (.int .i64 (zs.getD i 0)) := by
  simp [zv, h]
theorem own_ints {w : World} {base : Nat} {t : TypeId} {n cap T : Nat} {zs : List Int} (h : w.ownsRow base t 1 (.slice (some ⟨T, 0, none⟩) n cap) n (zv zs)) : Ints w T 0 zs := by
  intro i hi
  have := h.cells rfl _ _ (zv_get zs i hi)
  rw [ad0] at this
  simpa using this
theorem ints_zv {w : World} {b o : Nat} {zs : List Int} (h : Ints w b o zs) : ∀ j u, (zv zs)[j]? = some u → w.cell? ((⟨b, o, none⟩ : Addr).add j) = some u := by
  intro j u hj
  have hlt : j < zs.length := by
    have := (List.getElem?_eq_some_iff.mp hj).1
    simpa [zv] using this
  rw [zv_get zs j hlt] at hj
  injection hj with hj
  subst hj
  rw [adk]
  exact h j hlt
theorem zv_one (zs : List Int) : ∀ u ∈ zv zs, u.oneCell' = true := by
  intro u hu
  simp [zv] at hu
  obtain ⟨z, _, rfl⟩ := hu
  rfl

/-- The first pages are there, each an owned row of its own, and known by their values. -/
def PagesUp (w : World) (lo k : Nat) (ms : List (List Int)) (vs : List Value) : Prop :=
  vs.length = k ∧ ∃ bs cs : Nat → Nat, (∀ i j, i < j → j < k → bs i < bs j) ∧ ∀ i, i < k → vs[i]? = some (.slice (some ⟨bs i, 0, none⟩) (ms.getD i []).length (cs i)) ∧
    w.ownsRow lo 3 1 (.slice (some ⟨bs i, 0, none⟩) (ms.getD i []).length (cs i)) (ms.getD i []).length (zv (ms.getD i []))

theorem own_type {w : World} {lo : Nat} {t : TypeId} {b n c m : Nat} {vs : List Value} (h : w.ownsRow lo t 1 (.slice (some ⟨b, 0, none⟩) n c) m vs) : ∃ cur, w.heap[b]? = some (.cells cur t (0, 0)) := by
  obtain ⟨_, hd⟩ := h
  rcases hd with ⟨h0, _⟩ | ⟨g, c, cur, hv, _, hh, _⟩
  · simp at h0
  · simp at hv
    obtain ⟨rfl, _⟩ := hv
    exact ⟨cur, hh⟩

theorem PagesUp.kept {w w' : World} {lo k : Nat} {ms : List (List Int)} {vs : List Value} {row : Option Nat} (h : PagesUp w lo k ms vs) (hg : w.grownBy w' row) (hr : ∀ T, row = some T → ∃ cur, w.heap[T]? = some (.cells cur 41 (0, 0))) : PagesUp w' lo k ms vs := by
  obtain ⟨hv, bs, cs, hm, h⟩ := h
  refine ⟨hv, bs, cs, hm, fun i hi => ⟨(h i hi).1, (h i hi).2.kept hg (Or.inr ?_)⟩⟩
  intro e
  obtain ⟨cur, hc⟩ := own_type (h i hi).2
  obtain ⟨cur', hc'⟩ := hr (bs i) e.symm
  rw [hc] at hc'
  simp at hc'

theorem PagesUp.snoc {w w' : World} {lo k p c : Nat} {ms : List (List Int)} {vs : List Value} (h : PagesUp w lo k ms vs) (h' : PagesUp w' lo k ms vs) (hp : w.heap.size ≤ p) {l : Nat} (hl : (ms.getD k []).length = l)
    (hn : w'.ownsRow lo 3 1 (.slice (some ⟨p, 0, none⟩) l c) l (zv (ms.getD k []))) : PagesUp w' lo (k + 1) ms (vs ++ [.slice (some ⟨p, 0, none⟩) l c]) := by
  obtain ⟨hv, bs, cs, hm, h'⟩ := h'
  obtain ⟨_, bs0, cs0, _, h⟩ := h
  subst hl
  obtain ⟨bs', e1, e2⟩ : ∃ bs' : Nat → Nat, bs' k = p ∧ ∀ i, i ≠ k → bs' i = bs i := ⟨fun i => if i = k then p else bs i, by simp, fun i h => by simp [h]⟩
  obtain ⟨cs', d1, d2⟩ : ∃ cs' : Nat → Nat, cs' k = c ∧ ∀ i, i ≠ k → cs' i = cs i := ⟨fun i => if i = k then c else cs i, by simp, fun i h => by simp [h]⟩
  refine ⟨by simp [hv], bs', cs', fun i j hij hj => ?_, fun i hi => ?_⟩
  · rw [e2 i (by omega)]
    by_cases hjk : j = k
    · rw [hjk, e1]
      have k1 := (h i (by omega)).1
      have k2 := (h' i (by omega)).1
      have k3 := ((h i (by omega)).2.lt _ rfl).2
      rw [k1] at k2
      simp at k2
      have : bs0 i = bs i := k2.1
      have k4 : (⟨bs0 i, 0, none⟩ : Addr).block < w.heap.size := k3
      simp at k4
      omega
    · rw [e2 j hjk]
      exact hm i j hij (by omega)
  · by_cases hik : i = k
    · subst hik
      rw [e1, d1]
      refine ⟨?_, hn⟩
      rw [List.getElem?_append_right (by omega), hv]
      simp
    · rw [e2 i hik, d2 i hik]
      refine ⟨?_, (h' i (by omega)).2⟩
      rw [List.getElem?_append_left (by omega)]
      exact (h' i (by omega)).1

theorem own_mem {w : World} {lo n : Nat} {v : Value} {ms : List (List Int)} {vs : List Value} (hP : PagesUp w lo n ms vs) (hl : ms.length = n) (h : w.ownsRow lo 41 1 v n vs) :
    ∃ a c, v = .slice a n c ∧ OwnMem w lo w.heap.size a n ms ∧ n ≤ c := by
  have hc := h
  obtain ⟨hlen, hd⟩ := h
  rcases hd with ⟨rfl, h0⟩ | ⟨g, cap, cur, rfl, hg, hh, hcap, _⟩
  · subst h0
    exact ⟨none, 0, rfl, ⟨hl, Or.inl rfl⟩, Nat.le_refl _⟩
  · have hR := own_room1 hc
    have hlt := (hc.lt g rfl).2
    obtain ⟨hv, bs, cs, hm, hP⟩ := hP
    refine ⟨some ⟨g, 0, none⟩, cap, rfl, ⟨hl, Or.inr ⟨g, rfl, hg, hlt, bs, hm, fun i hi => ?_⟩⟩, hcap⟩
    obtain ⟨k1, k2⟩ := hP i hi
    obtain ⟨k3, k4⟩ := k2.lt _ rfl
    have k3 : lo ≤ bs i := k3
    have k4 : bs i < w.heap.size := k4
    refine ⟨k3, k4, ?_, ⟨cs i, ?_⟩, (hR i hi).2, own_ints k2, fun j hj => (own_room1 k2 j hj).2⟩
    · intro e
      obtain ⟨cur', hc'⟩ := own_type k2
      rw [e, hh] at hc'
      simp at hc'
    · have := hc.cells rfl _ _ k1
      rwa [ad0] at this

theorem own_row {w : World} {lo : Nat} {t : TypeId} {v : Value} {n : Nat} {vs : List Value} (h : w.ownsRow lo t 1 v n vs) : ∀ T, v.ownBlock = some T → ∃ cur, w.heap[T]? = some (.cells cur t (0, 0)) := by
  intro T hT
  obtain ⟨_, hd⟩ := h
  rcases hd with ⟨rfl, _⟩ | ⟨g, c, cur, rfl, _, hh, _⟩
  · simp [Value.ownBlock] at hT
  · simp [Value.ownBlock] at hT
    subst hT
    exact ⟨cur, hh⟩
theorem one_new (w : World) (v : Value) (t : TypeId) : ∀ j u, [v][j]? = some u → (w.alloc (.cells #[v] t)).cell? ((⟨w.heap.size, 0, none⟩ : Addr).add j) = some u := by
  intro j u hj
  match j, hj with
  | 0, hj => simp at hj; subst hj; simp [Addr.add]
  | j + 1, hj => simp at hj

theorem own_below {W w' : World} {lo : Nat} {t : TypeId} {v : Value} {n : Nat} {vs : List Value} (h : W.ownsRow lo t 1 v n vs) (hB : Below W.heap.size W w') : w'.ownsRow lo t 1 v n vs := by
  refine h.kept (below_grown hB) ?_
  cases v.ownBlock
  · exact Or.inl rfl
  · exact Or.inr (by simp)
theorem own_at1 {w : World} {base : Nat} {t : TypeId} {v : Value} {n : Nat} {vs : List Value} (h : w.ownsRow base t 1 v n vs) (hn : 0 < n) : ∃ T cap, v = .slice (some ⟨T, 0, none⟩) n cap ∧ base ≤ T := by
  obtain ⟨_, hd⟩ := h
  rcases hd with ⟨_, h0⟩ | ⟨g, cap, cur, rfl, hg, _⟩
  · omega
  · exact ⟨g, cap, rfl, hg⟩
theorem own_down {w : World} {base base' : Nat} {t : TypeId} {v : Value} {n : Nat} {vs : List Value} (h : w.ownsRow base t 1 v n vs) (hb : base' ≤ base) : w.ownsRow base' t 1 v n vs := by
  obtain ⟨hl, hd⟩ := h
  refine ⟨hl, ?_⟩
  rcases hd with h0 | ⟨g, cap, cur, rfl, hg, hr⟩
  · exact Or.inl h0
  · exact Or.inr ⟨g, cap, cur, rfl, Nat.le_trans hb hg, hr⟩

set_option maxHeartbeats 2000000 in
theorem specCopy (lo hi : Nat) (a : Option Addr) (len cap : Nat) (ms : List (List Int)) (w : World) (h : IsMem w lo hi a len ms) (hh : hi ≤ w.heap.size) (hn : len ≤ 1048576) (hL : ∀ i, i < len → 0 < (ms.getD i []).length ∧ (ms.getD i []).length ≤ 1048576) :
    Calls Try.prog 92 #[.slice a len cap] w fun e w' => ∃ a c, e = .returned (.slice a len c) ∧ OwnMem w' w.heap.size w'.heap.size a len ms ∧ Below w.heap.size w w' := by
  obtain ⟨hl, hd⟩ := h
  obtain ⟨i0, hi0, hz0, hz1, hz2⟩ := info_parts infoZ
  obtain ⟨i1, hi1, hy0, hy1, hy2⟩ := info_parts infoS
  go_enter Try.func92, Try.ntmps92
  go_wp2
  go_loopw [3, 4] (fun v i wr => ∃ k : Nat, ∃ vs, k ≤ len ∧ i = .int .i64 k ∧ Hid (wr.ownsRow w.heap.size 41 1 v k vs) ∧ Hid (PagesUp wr w.heap.size k ms vs) ∧ Below w.heap.size w wr) (fun _ i _ => len - (intOf i).toNat)
  case atStart => exact ⟨0, [], Nat.zero_le _, rfl, World.ownsRow_made w #[] 0 (Nat.le_refl _) (by simp [maxLen]) rfl, ⟨rfl, fun _ => 0, fun _ => 0, fun i j h1 h2 => by omega, fun i hi => by omega⟩, (Below.refl _ _).alloc (Nat.le_refl _) _⟩
  case round =>
    obtain ⟨k, vs, hk, rfl, hownH, hPH, hB⟩ := hrel
    have hown := hownH.out
    have hP := hPH.out
    have sW := hB.size
    by_cases hkl : k < len
    · rcases hd with h0 | ⟨b, o, rfl, hb1, hb2, hc⟩
      · omega
      obtain ⟨a', l, c, q, hI⟩ := hc k hkl
      have hbs : b < w.heap.size := by omega
      have c0 := (hB.cell (p := ⟨b, o + k, none⟩) hbs).trans q
      obtain ⟨hll, hdd⟩ := hI.same (below_sameIn hB hh)
      obtain ⟨hL1, hL2⟩ := hL k hkl
      rcases hdd with h0 | ⟨b', o', rfl, hb1', hb2', hc'⟩
      · omega
      have HN := ints_zv (hc'.below ((Below.refl wr.heap.size wr).alloc (Nat.le_refl _) (.cells #[] 3)) (by omega))
      have hki : (k : Int) < (len : Int) := by omega
      have hzl : (zv (ms.getD k [])).length = l * 1 := by rw [zv, List.length_map]; omega
      have hbw : b < wr.heap.size := by omega
      have own0 : (wr.alloc (.cells #[] 3)).ownsRow wr.heap.size 3 1 (.slice (some ⟨wr.heap.size, 0, none⟩) 0 0) 0 [] := World.ownsRow_made wr #[] 0 (Nat.le_refl _) (by simp [maxLen]) rfl
      clear q hI hc hc'
      go_wp2_with (first | (at_builtin; refine wpList_append_own _ rfl (.tmp 13) (.tmp 17) 41 rfl wr.heap.size 3 i0 (.int .i64 0) 1 8 Try.underlying41 hi0 hz0 hz1 hz2 rfl (by decide) _ _ _ rfl own0 ⟨b', o', none⟩ l c (zv (ms.getD k [])) rfl hzl HN (zv_one _) (by unfold maxLen; omega) (by omega) (by simp) ?_; intro v2 w2 own2 grow2 nil2; rw [Nat.zero_add, List.nil_append] at own2; have B2 : Below wr.heap.size wr w2 := Below.grown ((Below.refl wr.heap.size wr).alloc (Nat.le_refl _) (.cells #[] 3)) grow2 (by simp) (fun j hj => (own0.lt _ hj).1); obtain ⟨p, c2, hv2, hp⟩ := own_at1 own2 (by omega); subst hv2; have HP2 : Hid (PagesUp w2 w.heap.size k ms vs) := (hP.kept (below_grown B2) (fun T e => by cases e)); have HO2 : Hid (w2.ownsRow w.heap.size 3 1 (.slice (some ⟨p, 0, none⟩) l c2) l (zv (ms.getD k []))) := own_down own2 sW; have hown2 := (own_below hown B2).alloc (.cells #[.slice (some ⟨p, 0, none⟩) l c2] 41); have HC := one_new w2 (.slice (some ⟨p, 0, none⟩) l c2) 41; have hs2 := B2.size; clear own2 grow2 nil2 HN own0) | (at_builtin; refine wpList_append_own _ rfl (.tmp 12) (.tmp 19) 23 rfl w.heap.size 41 i1 (.slice none 0 0) 1 24 Try.underlying23 hi1 hy0 hy1 hy2 rfl (by decide) _ _ _ rfl hown2 ⟨w2.heap.size, 0, none⟩ 1 1 [.slice (some ⟨p, 0, none⟩) l c2] rfl rfl HC (by simp [Value.oneCell']) (by unfold maxLen; omega) (by omega) (by simp; omega) ?_; intro v3 w3 own3 grow3 nil3))
      have hB2 : Below w.heap.size w w2 := hB.trans (B2.mono sW)
      have hB3 : Below w.heap.size w w3 := Below.grown (hB2.alloc (by omega) _) grow3 (by simp; omega) (fun j hj => (hown2.lt _ hj).1)
      have HO3 : Hid (w3.ownsRow w.heap.size 41 1 v3 (k + 1) (vs ++ [.slice (some ⟨p, 0, none⟩) l c2])) := own3
      have HP3 : Hid (PagesUp w3 w.heap.size (k + 1) ms (vs ++ [.slice (some ⟨p, 0, none⟩) l c2])) := by
        have k1 : PagesUp (w2.alloc (.cells #[.slice (some ⟨p, 0, none⟩) l c2] 41)) w.heap.size (k + 1) ms (vs ++ [.slice (some ⟨p, 0, none⟩) l c2]) :=
          PagesUp.snoc hP (HP2.out.kept (below_grown ((Below.refl _ _).alloc (Nat.le_refl _) _)) (fun T e => by cases e)) hp hll (HO2.out.alloc _)
        exact k1.kept grow3 (own_row hown2)
      clear own3 grow3 nil3 hown2 HC HP2 HO2 hown hP
      go_wp2
      go_roundw
      case rel => exact ⟨k + 1, _, by omega, by go_num, HO3, HP3, hB3⟩
      case measure => simp [intOf]; omega
    · have hkk : k = len := by omega
      subst hkk
      obtain ⟨a3, c3, hv3, hM, _⟩ := own_mem hP hl hown
      subst hv3
      clear hown hP hownH hPH
      go_wp2
      go_ret
      exact ⟨a3, c3, rfl, hM, hB⟩
end Go.Proofs.Ytjegndgdpmlbaaa

/-
  What the given MemWith and MemNew do.
-/
namespace Go.Proofs.Ytjegndgdpmlbaaa
open Go.RowKit

/-- A word in the place of another, in memory that is a call's own. -/
theorem OwnUpto.put {w : World} {T lo hi k P O : Nat} {ms : List (List Int)} (h : OwnUpto w T lo hi k ms) (hP : P < k) (hm : P < ms.length) (hO : O < (ms.getD P []).length) (z : Int) :
    ∃ p c v, lo ≤ p ∧ p < hi ∧ p ≠ T ∧ w.cell? ⟨T, P, none⟩ = some (.slice (some ⟨p, 0, none⟩) (ms.getD P []).length c) ∧ w.cell? ⟨p, O, none⟩ = some v ∧ w.frozen? ⟨p, O, none⟩ = false ∧
      OwnUpto (w.setCell ⟨p, O, none⟩ (.int .i64 z)) T lo hi k (putM ms P O z) := by
  obtain ⟨bs, hi1, h⟩ := h
  obtain ⟨g1, g2, g3, ⟨c, g4⟩, g5, g6, g7⟩ := h P hP
  have g8 := g6 O hO
  rw [Nat.zero_add] at g8
  refine ⟨bs P, c, _, g1, g2, g3, g4, g8, g7 O hO, bs, hi1, fun i hi => ?_⟩
  obtain ⟨k1, k2, k3, ⟨c', k4⟩, k5, k6, k7⟩ := h i hi
  by_cases hiP : i = P
  · subst hiP
    rw [putM_at O z hm, List.length_set]
    refine ⟨k1, k2, k3, ⟨c', ?_⟩, ?_, ?_, fun j hj => ?_⟩
    · rw [cell_off (fun e => k3 e.symm)]; exact k4
    · rw [frozen_put]; exact k5
    · have := ints_set (k := O) k6 z
      rwa [Nat.zero_add] at this
    · rw [frozen_put]; exact k7 j hj
  · have hne : bs i ≠ bs P := by
      rcases Nat.lt_or_gt_of_ne hiP with hlt | hgt
      · have := hi1 i P hlt hP
        omega
      · have := hi1 P i hgt hi
        omega
    rw [putM_off O z hiP]
    refine ⟨k1, k2, k3, ⟨c', ?_⟩, ?_, fun j hj => ?_, fun j hj => ?_⟩
    · rw [cell_off (fun e => g3 e.symm)]; exact k4
    · rw [frozen_put]; exact k5
    · rw [cell_off hne]; exact k6 j hj
    · rw [frozen_put]; exact k7 j hj

theorem own_made (w : World) (t : TypeId) : (w.alloc (.cells (madeCells #[.int .i64 0] 4) t)).ownsRow w.heap.size t 1 (.slice (some ⟨w.heap.size, 0, none⟩) 4 4) 4 (zv [0, 0, 0, 0]) :=
  ⟨rfl, Or.inr ⟨w.heap.size, 4, _, rfl, Nat.le_refl _, heap_alloc_new w _, Nat.le_refl _, by simp [maxLen], by simp [size_madeCells], by rw [toList_madeCells_one]; rfl⟩⟩

set_option maxHeartbeats 1000000 in
theorem specPage (w : World) :
    Calls Try.prog 91 #[] w fun e w' => e = .returned (.slice (some ⟨w.heap.size, 0, none⟩) 4 4) ∧ w' = w.alloc (.cells (madeCells #[.int .i64 0] 4) 3) := by
  have hmk : ∀ w : World, (Instr.makeSlice 41 (.int .i64 4) (.int .i64 4)).run Try.prog w = .ok (.slice (some ⟨w.heap.size, 0, none⟩) 4 4) (w.alloc (.cells (madeCells #[.int .i64 0] 4) 3)) := fun w => make_ints 4 (by omega) w
  go_enter Try.func91, Try.ntmps91
  go_wp2
  go_ret
  exact ⟨rfl, rfl⟩

set_option maxHeartbeats 2000000 in
theorem specMemNew_yes (n : Nat) (w : World) (h : n ≤ 6) :
    Calls Try.prog 108 #[.int .i64 n] w fun e w' => ∃ a c, e = .returned (.slice a n c) ∧ OwnMem w' w.heap.size w'.heap.size a n (zeroM n) ∧ n ≤ c ∧ Below w.heap.size w w' := by
  obtain ⟨i1, hi1, hy0, hy1, hy2⟩ := info_parts infoS
  have hI := specIn n 0 6
  rw [show (decide (0 ≤ (n : Int)) && decide ((n : Int) ≤ 6)) = true by simp; omega] at hI
  go_enter Try.func108, Try.ntmps108
  go_wp2_with (fail)
  refine (hI _).mono ?_
  rintro e w2 ⟨rfl, rfl⟩
  go_wp2
  go_loopw [3, 4] (fun v i wr => ∃ k : Nat, ∃ vs, k ≤ n ∧ i = .int .i64 k ∧ Hid (wr.ownsRow w.heap.size 41 1 v k vs) ∧ Hid (PagesUp wr w.heap.size k (zeroM n) vs) ∧ Below w.heap.size w wr) (fun _ i _ => n - (intOf i).toNat)
  case atStart => exact ⟨0, [], Nat.zero_le _, rfl, World.ownsRow_made w #[] 0 (Nat.le_refl _) (by simp [maxLen]) rfl, ⟨rfl, fun _ => 0, fun _ => 0, fun i j h1 h2 => by omega, fun i hi => by omega⟩, (Below.refl _ _).alloc (Nat.le_refl _) _⟩
  case round =>
    obtain ⟨k, vs, hk, rfl, hownH, hPH, hB⟩ := hrel
    have hown := hownH.out
    have hP := hPH.out
    have sW := hB.size
    by_cases hkl : k < n
    · have hki : (k : Int) < (n : Int) := by omega
      have hg := zeroM_get hkl
      have B2 : Below wr.heap.size wr (wr.alloc (.cells (madeCells #[.int .i64 0] 4) 3)) := (Below.refl _ _).alloc (Nat.le_refl _) _
      have own2 : (wr.alloc (.cells (madeCells #[.int .i64 0] 4) 3)).ownsRow w.heap.size 3 1 (.slice (some ⟨wr.heap.size, 0, none⟩) 4 4) 4 (zv ((zeroM n).getD k [])) := by
        rw [hg]
        exact own_down (own_made wr _) sW
      have hown2 := (own_below hown B2).alloc (.cells #[.slice (some ⟨wr.heap.size, 0, none⟩) 4 4] 41)
      have HC := one_new (wr.alloc (.cells (madeCells #[.int .i64 0] 4) 3)) (.slice (some ⟨wr.heap.size, 0, none⟩) 4 4) 41
      rw [show (wr.alloc (.cells (madeCells #[.int .i64 0] 4) 3)).heap.size = wr.heap.size + 1 by simp] at HC
      go_wp2_with (first | (go_at_call 91; refine (specPage _).mono ?_; rintro e w' ⟨rfl, rfl⟩) | (at_builtin; refine wpList_append_own _ rfl (.tmp 15) (.tmp 17) 23 rfl w.heap.size 41 i1 (.slice none 0 0) 1 24 Try.underlying23 hi1 hy0 hy1 hy2 rfl (by decide) _ _ _ rfl hown2 ⟨wr.heap.size + 1, 0, none⟩ 1 1 [.slice (some ⟨wr.heap.size, 0, none⟩) 4 4] rfl rfl HC (by simp [Value.oneCell']) (by unfold maxLen; omega) (by omega) (by simp; omega) ?_; intro v3 w3 own3 grow3 nil3))
      have hB2 : Below w.heap.size w (wr.alloc (.cells (madeCells #[.int .i64 0] 4) 3)) := hB.trans (B2.mono sW)
      have hB3 : Below w.heap.size w w3 := Below.grown (hB2.alloc (by simp; omega) _) grow3 (by simp; omega) (fun j hj => (hown2.lt _ hj).1)
      have HO3 : Hid (w3.ownsRow w.heap.size 41 1 v3 (k + 1) (vs ++ [.slice (some ⟨wr.heap.size, 0, none⟩) 4 4])) := own3
      have HP3 : Hid (PagesUp w3 w.heap.size (k + 1) (zeroM n) (vs ++ [.slice (some ⟨wr.heap.size, 0, none⟩) 4 4])) := by
        have k1 : PagesUp ((wr.alloc (.cells (madeCells #[.int .i64 0] 4) 3)).alloc (.cells #[.slice (some ⟨wr.heap.size, 0, none⟩) 4 4] 41)) w.heap.size (k + 1) (zeroM n) (vs ++ [.slice (some ⟨wr.heap.size, 0, none⟩) 4 4]) :=
          PagesUp.snoc hP ((hP.kept (below_grown B2) (fun T e => by cases e)).kept (below_grown ((Below.refl _ _).alloc (Nat.le_refl _) _)) (fun T e => by cases e)) (Nat.le_refl _) (by rw [hg]; rfl) (own2.alloc _)
        exact k1.kept grow3 (own_row hown2)
      clear own3 grow3 nil3 hown2 HC own2 hown hP
      go_wp2
      go_roundw
      case rel => exact ⟨k + 1, _, by omega, by go_num, HO3, HP3, hB3⟩
      case measure => simp [intOf]; omega
    · have hkk : k = n := by omega
      subst hkk
      obtain ⟨a3, c3, hv3, hM, hc3⟩ := own_mem hP (by simp [zeroM]) hown
      subst hv3
      clear hown hP hownH hPH
      go_wp2
      go_ret
      exact ⟨a3, c3, rfl, hM, hc3, hB⟩
end Go.Proofs.Ytjegndgdpmlbaaa

/-
  What MemNew and MemWith answer, told at once for all arguments: the program's own and the given ones.
-/
namespace Go.Proofs.Ytjegndgdpmlbaaa
open Go.RowKit

end Go.Proofs.Ytjegndgdpmlbaaa

/-
  Lodgers and houses as rows of cells; a row of pages from any place of a block on, handed out.
-/
namespace Go.Proofs.Ytjegndgdpmlbaaa
open Go.RowKit

/-- A page, pages, shades, a lodger, a house as cells. -/
def sheetC (zs : List Int) : List Value := [.int .i64 (zs.getD 0 0), .int .i64 (zs.getD 1 0), .int .i64 (zs.getD 2 0), .int .i64 (zs.getD 3 0)]
def sheetsC (ms : List (List Int)) : List Value := ms.flatMap sheetC
def quadC (s : S4) : List Value := [.bool s.1, .int .i64 s.2.1, .int .i64 s.2.2.1, .bool s.2.2.2]
def quadsC (ss : List S4) : List Value := ss.flatMap quadC
def lodC (g : Gst) : List Value := flat g.maps ++ (sheetsC g.disk ++ quadsC g.shades)
def houseC (fs : List (List Int)) (v : Value) (hand : Int) : List Value := sheetsC fs ++ [v, .int .i64 hand]
/-- A guest that has as many of all as it has to have. -/
def Sized (g : Gst) : Prop := g.maps.length = 6 ∧ g.disk.length = 6 ∧ (∀ i, i < 6 → (g.disk.getD i []).length = 4) ∧ g.shades.length = 6

theorem flatMap_len {α : Type} (f : α → List Value) (n : Nat) (hf : ∀ a, (f a).length = n) : ∀ l : List α, (l.flatMap f).length = l.length * n
  | [] => by simp
  | a :: l => by rw [List.flatMap_cons, List.length_append, hf, flatMap_len f n hf l, List.length_cons, Nat.add_mul]; omega
theorem flatMap_get {α : Type} (f : α → List Value) (n : Nat) (d : α) (hf : ∀ a, (f a).length = n) : ∀ (l : List α) (i j : Nat), i < l.length → j < n → (l.flatMap f)[i * n + j]? = (f (l.getD i d))[j]?
  | [], i, j, hi, _ => by simp at hi
  | a :: l, 0, j, _, hj => by
    rw [List.flatMap_cons, Nat.zero_mul, Nat.zero_add, List.getElem?_append_left (by rw [hf]; exact hj)]; rfl
  | a :: l, i + 1, j, hi, hj => by
    rw [List.flatMap_cons, List.getElem?_append_right (by rw [hf, Nat.add_mul]; omega), hf]
    have : (i + 1) * n + j - n = i * n + j := by rw [Nat.add_mul]; omega
    rw [this, flatMap_get f n d hf l i j (by simpa using hi) hj]; simp
theorem sheetsC_len (ms : List (List Int)) : (sheetsC ms).length = ms.length * 4 := flatMap_len _ 4 (fun _ => rfl) ms
theorem quadsC_len (ss : List S4) : (quadsC ss).length = ss.length * 4 := flatMap_len _ 4 (fun _ => rfl) ss
theorem lodC_len {g : Gst} (h : Sized g) : (lodC g).length = 66 := by
  obtain ⟨h1, h2, _, h3⟩ := h
  simp only [lodC, List.length_append, flat_len, sheetsC_len, quadsC_len, h1, h2, h3]
theorem houseC_len {fs : List (List Int)} (h : fs.length = 8) (v : Value) (hand : Int) : (houseC fs v hand).length = 34 := by simp [houseC, sheetsC_len, h]

theorem one_flatMap {α : Type} {f : α → List Value} (hf : ∀ a, ∀ v ∈ f a, v.oneCell' = true) (l : List α) : ∀ v ∈ l.flatMap f, v.oneCell' = true := by
  intro v hv
  obtain ⟨a, _, ha⟩ := List.mem_flatMap.1 hv
  exact hf a v ha
theorem flat_one (es : List E3) : ∀ v ∈ flat es, v.oneCell' = true := one_flatMap (fun a v hv => by simp at hv; rcases hv with rfl | rfl | rfl <;> rfl) es
theorem sheetsC_one (ms : List (List Int)) : ∀ v ∈ sheetsC ms, v.oneCell' = true := one_flatMap (fun a v hv => by simp [sheetC] at hv; rcases hv with rfl | rfl | rfl | rfl <;> rfl) ms
theorem quadsC_one (ss : List S4) : ∀ v ∈ quadsC ss, v.oneCell' = true := one_flatMap (fun a v hv => by simp [quadC] at hv; rcases hv with rfl | rfl | rfl | rfl <;> rfl) ss
theorem lodC_one (g : Gst) : ∀ v ∈ lodC g, v.oneCell' = true := by
  intro v hv
  simp only [lodC, List.mem_append] at hv
  rcases hv with h | h | h
  · exact flat_one _ v h
  · exact sheetsC_one _ v h
  · exact quadsC_one _ v h

/-! Ranges: parted, put together, and as the rows that are told elsewhere. -/
theorem range_left {w : World} {b o : Nat} {xs ys : List Value} (h : w.rangeAt b o (xs ++ ys)) : w.rangeAt b o xs := fun j v hj => h j v (by rw [List.getElem?_append_left (List.getElem?_eq_some_iff.1 hj).1]; exact hj)
theorem range_right {w : World} {b o : Nat} {xs ys : List Value} (h : w.rangeAt b o (xs ++ ys)) {n : Nat} (hn : xs.length = n) : w.rangeAt b (o + n) ys := fun j v hj => by
  have := h (n + j) v (by rw [List.getElem?_append_right (by omega), ← hn]; simpa using hj)
  rwa [← Nat.add_assoc] at this
theorem range_join {w : World} {b o n : Nat} {xs ys : List Value} (hn : xs.length = n) (h : w.rangeAt b o xs) (k : w.rangeAt b (o + n) ys) : w.rangeAt b o (xs ++ ys) := fun j v hj => by
  by_cases hl : j < xs.length
  · rw [List.getElem?_append_left hl] at hj
    exact h j v hj
  · rw [List.getElem?_append_right (by omega)] at hj
    have := k _ v hj
    rwa [show o + n + (j - xs.length) = o + j by omega] at this
theorem range_below {N : Nat} {w w' : World} {b o : Nat} {cs : List Value} (h : w.rangeAt b o cs) (hB : Below N w w') (hb : b < N) : w'.rangeAt b o cs := fun j v hj => (hB.cell (p := ⟨b, o + j, none⟩) hb).trans (h j v hj)
theorem there_below {N : Nat} {w w' : World} {b o n : Nat} (h : w.there b o n) (hB : Below N w w') (hb : b < N) : w'.there b o n := fun j hj => by
  rw [hB.cell (p := ⟨b, o + j, none⟩) hb, hB.frozen (p := ⟨b, o + j, none⟩) hb]; exact h j hj
theorem range_ents {w : World} {b o : Nat} {es : List E3} (h : w.rangeAt b o (flat es)) : Ents w b o es := fun i hi => by
  have f : ∀ j, j < 3 → (flat es)[i * 3 + j]? = ([.bool (es.getD i noM).1, .int .i64 (es.getD i noM).2.1, .bool (es.getD i noM).2.2] : List Value)[j]? := fun j hj => flatMap_get (fun x : E3 => [.bool x.1, .int .i64 x.2.1, .bool x.2.2]) 3 noM (fun _ => rfl) es i j hi hj
  have h0 := h (i * 3 + 0) _ (f 0 (by omega))
  have h1 := h (i * 3 + 1) _ (f 1 (by omega))
  have h2 := h (i * 3 + 2) _ (f 2 (by omega))
  exact ⟨h0, h1, h2⟩
theorem ents_range {w : World} {b o : Nat} {es : List E3} (h : Ents w b o es) : w.rangeAt b o (flat es) := fun j v hj => by
  have hl := (List.getElem?_eq_some_iff.1 hj).1
  rw [flat_len] at hl
  obtain ⟨h0, h1, h2⟩ := h (j / 3) (by omega)
  have f := flatMap_get (fun x : E3 => [.bool x.1, .int .i64 x.2.1, .bool x.2.2]) 3 noM (fun _ => rfl) es (j / 3) (j % 3) (by omega) (by omega)
  have e : j / 3 * 3 + j % 3 = j := by omega
  rw [e] at f
  have hj' := f.symm.trans hj
  have hm : j % 3 < 3 := by omega
  generalize hq : j % 3 = q at hj' hm e
  rw [← e]
  match q, hm with
  | 0, _ => simp at hj'; rw [← hj']; exact h0
  | 1, _ => simp at hj'; rw [← hj']; exact h1
  | 2, _ => simp at hj'; rw [← hj']; exact h2
theorem range_quads {w : World} {b o : Nat} {ss : List S4} (h : w.rangeAt b o (quadsC ss)) : Quads w b o ss := fun i hi => by
  have f : ∀ j, j < 4 → (quadsC ss)[i * 4 + j]? = (quadC (ss.getD i noS))[j]? := fun j hj => flatMap_get quadC 4 noS (fun _ => rfl) ss i j hi hj
  exact ⟨h (i * 4 + 0) _ (f 0 (by omega)), h (i * 4 + 1) _ (f 1 (by omega)), h (i * 4 + 2) _ (f 2 (by omega)), h (i * 4 + 3) _ (f 3 (by omega))⟩
theorem quads_range {w : World} {b o : Nat} {ss : List S4} (h : Quads w b o ss) : w.rangeAt b o (quadsC ss) := fun j v hj => by
  have hl := (List.getElem?_eq_some_iff.1 hj).1
  rw [quadsC_len] at hl
  obtain ⟨h0, h1, h2, h3⟩ := h (j / 4) (by omega)
  have f := flatMap_get quadC 4 noS (fun _ => rfl) ss (j / 4) (j % 4) (by omega) (by omega)
  have e : j / 4 * 4 + j % 4 = j := by omega
  rw [e] at f
  have hj' := f.symm.trans hj
  have hm : j % 4 < 4 := by omega
  generalize hq : j % 4 = q at hj' hm e
  rw [← e]
  match q, hm with
  | 0, _ => simp [quadC] at hj'; rw [← hj']; exact h0
  | 1, _ => simp [quadC] at hj'; rw [← hj']; exact h1
  | 2, _ => simp [quadC] at hj'; rw [← hj']; exact h2
  | 3, _ => simp [quadC] at hj'; rw [← hj']; exact h3
/-- Pages as arrays, from a place of a block on. -/
def SheetsAt (w : World) (b o : Nat) (ms : List (List Int)) : Prop := ∀ i, i < ms.length →
  w.cell? ⟨b, o + i * 4, none⟩ = some (.int .i64 ((ms.getD i []).getD 0 0)) ∧ w.cell? ⟨b, o + i * 4 + 1, none⟩ = some (.int .i64 ((ms.getD i []).getD 1 0)) ∧
  w.cell? ⟨b, o + i * 4 + 2, none⟩ = some (.int .i64 ((ms.getD i []).getD 2 0)) ∧ w.cell? ⟨b, o + i * 4 + 3, none⟩ = some (.int .i64 ((ms.getD i []).getD 3 0))
theorem range_sheets {w : World} {b o : Nat} {ms : List (List Int)} (h : w.rangeAt b o (sheetsC ms)) : SheetsAt w b o ms := fun i hi => by
  have f : ∀ j, j < 4 → (sheetsC ms)[i * 4 + j]? = (sheetC (ms.getD i []))[j]? := fun j hj => flatMap_get sheetC 4 [] (fun _ => rfl) ms i j hi hj
  exact ⟨h (i * 4 + 0) _ (f 0 (by omega)), h (i * 4 + 1) _ (f 1 (by omega)), h (i * 4 + 2) _ (f 2 (by omega)), h (i * 4 + 3) _ (f 3 (by omega))⟩
theorem sheets_range {w : World} {b : Nat} {ms : List (List Int)} (h : Sheets w b ms) : w.rangeAt b 0 (sheetsC ms) := fun j v hj => by
  have hl := (List.getElem?_eq_some_iff.1 hj).1
  rw [sheetsC_len] at hl
  obtain ⟨h0, h1, h2, h3⟩ := h (j / 4) (by omega)
  have f := flatMap_get sheetC 4 [] (fun _ => rfl) ms (j / 4) (j % 4) (by omega) (by omega)
  have e : j / 4 * 4 + j % 4 = j := by omega
  rw [e] at f
  have hj' := f.symm.trans hj
  have hm : j % 4 < 4 := by omega
  rw [Nat.zero_add]
  generalize hq : j % 4 = q at hj' hm e
  rw [← e]
  match q, hm with
  | 0, _ => simp [sheetC] at hj'; rw [← hj']; exact h0
  | 1, _ => simp [sheetC] at hj'; rw [← hj']; exact h1
  | 2, _ => simp [sheetC] at hj'; rw [← hj']; exact h2
  | 3, _ => simp [sheetC] at hj'; rw [← hj']; exact h3
theorem lod_maps {w : World} {b o : Nat} {g : Gst} (h : w.rangeAt b o (lodC g)) : Ents w b o g.maps := range_ents (range_left h)
theorem lod_disk {w : World} {b o : Nat} {g : Gst} (hg : Sized g) (h : w.rangeAt b o (lodC g)) : SheetsAt w b (o + 18) g.disk := range_sheets (range_left (range_right h (by rw [flat_len, hg.1])))
theorem lod_shades {w : World} {b o : Nat} {g : Gst} (hg : Sized g) (h : w.rangeAt b o (lodC g)) : Quads w b (o + 42) g.shades := by
  have := range_right (range_right h (n := 18) (by rw [flat_len, hg.1])) (n := 24) (by rw [sheetsC_len, hg.2.1])
  exact range_quads this
theorem range_new (w : World) (cs : List Value) (t : TypeId) : (w.alloc (.cells cs.toArray t)).rangeAt w.heap.size 0 cs := fun j v hj => by
  have hl := (List.getElem?_eq_some_iff.1 hj)
  simp [hl.1, hl.2]

end Go.Proofs.Ytjegndgdpmlbaaa

/-
  Copying rows whose elements are more than one cell wide; what a row of cells that is written leaves as it was; a guest that is a call's own.
-/
namespace Go.Proofs.Ytjegndgdpmlbaaa
open Go.RowKit

/-- 'copy' of n elements of s cells each. -/
theorem run_copy_wide {P : Program} (w : World) (dT sT ty elem : TypeId) (b o dLen dCap : Nat) (a : Addr) (sLen sCap n s : Nat) (cs : List Value)
    (hu : P.underlying dT = some (.slice elem)) (hs : (P.info? elem).map (·.size) = some s) (hm : Nat.min sLen dLen = n) (hn : cs.length = n * s)
    (hsrc : ∀ j v, cs[j]? = some v → w.cell? (a.add j) = some v) (hc : ∀ j, j < cs.length → (w.cell? ⟨b, o + j, none⟩).isSome = true) (hf : ∀ j, j < cs.length → w.frozen? ⟨b, o + j, none⟩ = false) (h1 : ∀ v ∈ cs, v.oneCell' = true) :
    (Builtin.copy_ #[dT, sT] ty #[.slice (some ⟨b, o, none⟩) dLen dCap, .slice (some a) sLen sCap]).run P w = .ok (goInt n) (w.setCells b o cs) := by
  have hl := run_loadCells_list (P := P) w a cs hsrc
  have hst := run_storeCells_cells (P := P) b o cs 0 w (by simpa using hc) (by simpa using hf) h1
  cases hq : P.info? elem with
  | none => simp [hq] at hs
  | some i =>
    have hi : i.size = s := by simpa [hq] using hs
    simp [Builtin.copy_, run_underlying hu, Builtin.lenOf, Builtin.firstCells, sizeOf, typeInfo, hq, hi, hm, ← hn, hl, hst]

/-- A new variable of a type whose value is many cells. -/
theorem alloc_any (t : TypeId) (n : Nat) (h : (Try.prog.info? t).map (fun i => (i.zero.map (fun v => v.cells.size))) = some (some n)) : ∃ zL : Array Value, zL.size = n ∧ ∀ w : World, (Instr.alloc t true (.tuple #[])).run Try.prog w = .ok (.pointer (some ⟨w.heap.size, 0, none⟩)) (w.alloc (.cells zL t)) := by
  cases hi : Try.prog.info? t with
  | none => rw [hi] at h; simp at h
  | some i =>
    cases hz : i.zero with
    | none => rw [hi] at h; simp [hz] at h
    | some v =>
      refine ⟨v.cells, ?_, fun w => ?_⟩
      · rw [hi] at h; simpa [hz] using h
      · simp [Instr.alloc, zeroValue, typeInfo, hi, hz, newVar, newRow]
theorem there_new (w : World) (cs : Array Value) (t : TypeId) : (w.alloc (.cells cs t)).there w.heap.size 0 cs.size := fun j hj => by
  rw [Nat.zero_add]
  exact ⟨by simp [hj], by simp⟩

theorem heap_setCells (b : Nat) : ∀ (vs : List Value) (o : Nat) (w : World) (k : Nat), k ≠ b → (w.setCells b o vs).heap[k]? = w.heap[k]?
  | [], _, _, _, _ => rfl
  | v :: r, o, w, k, h => by
    rw [World.setCells, heap_setCells b r (o + 1) _ k h]
    exact Below.heap_setCell _ _ _ _ (by simpa using h)
theorem size_setCells (b : Nat) : ∀ (vs : List Value) (o : Nat) (w : World), (w.setCells b o vs).heap.size = w.heap.size
  | [], _, _ => rfl
  | v :: r, o, w => by rw [World.setCells, size_setCells b r (o + 1) _, World.size_setCell]
theorem below_setCells {N : Nat} {w w' : World} (h : Below N w w') {b : Nat} (hb : N ≤ b) (vs : List Value) (o : Nat) : Below N w (w'.setCells b o vs) := by
  induction vs generalizing o w' with
  | nil => exact h
  | cons v r ih => exact ih (h.setCell (p := ⟨b, o, none⟩) hb v) (o + 1)
theorem Room.setCells {w : World} {b n : Nat} (h : Room w b n) (b' o : Nat) (vs : List Value) : Room (w.setCells b' o vs) b n := by
  induction vs generalizing o w with
  | nil => exact h
  | cons v r ih =>
    refine ih (w := w.setCell ⟨b', o, none⟩ v) ?_ (o + 1)
    by_cases hb : b = b'
    · subst hb; exact h.put _
    · exact fun i hi => ⟨by rw [cell_off hb]; exact (h i hi).1, by rw [frozen_put]; exact (h i hi).2⟩

/-- A load of a great struct, kept shut: by one hypothesis on it, not cell by cell. -/
def bigRun (P : Program) (t : TypeId) (v : Value) (w : World) : Result Value := (Instr.loadAt t v).run P w
def bigNext : Result Value → Result Next
  | .ok v w => .ok (.value v) w
  | .halt h w => .halt h w
theorem bigNext_ok (v : Value) (w : World) : bigNext (.ok v w) = .ok (.value v) w := rfl
theorem exec_lod (ρ : Operand → Value) (dst : Option Tmp) (ty : TypeId) (pos : String) (after : Array _) (guard : Option _) (x : Operand) (w : World) :
    (execOp ρ ⟨dst, .load 91 x, ty, pos, after, guard⟩).run Try.prog w = bigNext (bigRun Try.prog 91 (ρ x) w) := by
  unfold bigRun execOp
  simp only [Sem.run_bind]
  cases (Instr.loadAt 91 (ρ x)).run Try.prog w <;> rfl
theorem exec_house (ρ : Operand → Value) (dst : Option Tmp) (ty : TypeId) (pos : String) (after : Array _) (guard : Option _) (x : Operand) (w : World) :
    (execOp ρ ⟨dst, .load 60 x, ty, pos, after, guard⟩).run Try.prog w = bigNext (bigRun Try.prog 60 (ρ x) w) := by
  unfold bigRun execOp
  simp only [Sem.run_bind]
  cases (Instr.loadAt 60 (ρ x)).run Try.prog w <;> rfl
theorem big_load {t : TypeId} {d : TypeDesc} (hu : Try.prog.underlying t = some d) (hd : d.isRow = true) {cs : List Value} (hi : (Try.prog.info? t).map (·.size) = some cs.length) (b o : Nat) (w : World) (h : w.rangeAt b o cs) : bigRun Try.prog t (.pointer (some ⟨b, o, none⟩)) w = .ok (.agg cs.toArray) w :=
  run_loadAt_mid w b o t cs d h hu hd hi

/-- A guest that is a call's own: its three lists lie in memory of their own, between two blocks. -/
def OwnGuest (w : World) (lo hi : Nat) (vm vd vs : Value) (g : Gst) : Prop :=
  ∃ bm bs cm cs ad cd d0 d1, vm = .slice (some ⟨bm, 0, none⟩) g.maps.length cm ∧ vd = .slice ad g.disk.length cd ∧ vs = .slice (some ⟨bs, 0, none⟩) g.shades.length cs ∧
    Ents w bm 0 g.maps ∧ Room w bm (g.maps.length * 3) ∧ Quads w bs 0 g.shades ∧ Room w bs (g.shades.length * 4) ∧ OwnMem w d0 d1 ad g.disk.length g.disk ∧
    (lo ≤ bm ∧ bm < hi ∧ lo ≤ bs ∧ bs < hi ∧ lo ≤ d0 ∧ d1 ≤ hi ∧ bm ≠ bs ∧ (bm < d0 ∨ d1 ≤ bm) ∧ (bs < d0 ∨ d1 ≤ bs))
theorem SameIn.part {lo hi lo' hi' : Nat} {w w' : World} (s : SameIn lo hi w w') (h1 : lo ≤ lo') (h2 : hi' ≤ hi) : SameIn lo' hi' w w' := fun k a b => s k (by omega) (by omega)
theorem Room.same {lo hi : Nat} {w w' : World} (s : SameIn lo hi w w') {b n : Nat} (h : Room w b n) (h1 : lo ≤ b) (h2 : b < hi) : Room w' b n := fun j hj => by
  rw [s.cell h1 h2, s.frozen h1 h2]; exact h j hj
theorem OwnGuest.same {lo hi : Nat} {w w' : World} (s : SameIn lo hi w w') {vm vd vs : Value} {g : Gst} (h : OwnGuest w lo hi vm vd vs g) : OwnGuest w' lo hi vm vd vs g := by
  obtain ⟨bm, bs, cm, cs, ad, cd, d0, d1, e1, e2, e3, h1, h2, h3, h4, h5, n1, n2, n3, n4, n5, n6, n7⟩ := h
  exact ⟨bm, bs, cm, cs, ad, cd, d0, d1, e1, e2, e3, h1.sameH s n1 n2, h2.same s n1 n2, h3.same s n3 n4, h4.same s n3 n4, h5.same (s.part n5 n6), n1, n2, n3, n4, n5, n6, n7⟩
theorem OwnGuest.wide {lo hi lo' hi' : Nat} {w : World} {vm vd vs : Value} {g : Gst} (h : OwnGuest w lo hi vm vd vs g) (k1 : lo' ≤ lo) (k2 : hi ≤ hi') : OwnGuest w lo' hi' vm vd vs g := by
  obtain ⟨bm, bs, cm, cs, ad, cd, d0, d1, e1, e2, e3, h1, h2, h3, h4, h5, n1, n2, n3, n4, n5, n6, n7⟩ := h
  exact ⟨bm, bs, cm, cs, ad, cd, d0, d1, e1, e2, e3, h1, h2, h3, h4, h5, by omega, by omega, by omega, by omega, by omega, by omega, n7⟩
end Go.Proofs.Ytjegndgdpmlbaaa

/-
  Hosts that are a call's own.
-/
namespace Go.Proofs.Ytjegndgdpmlbaaa
open Go.RowKit

/-- Of a row of guests the first ones are there, one behind the other, each in memory of its own, in which the row does not lie. -/
def GuestsUp (w : World) (T lo hi k : Nat) (gs : List Gst) : Prop :=
  ∃ ps qs : Nat → Nat, (∀ i, i < k → lo ≤ ps i ∧ qs i ≤ hi ∧ (T < ps i ∨ qs i ≤ T)) ∧ (∀ i j, i < j → j < k → qs i ≤ ps j) ∧ ∀ i, i < k → ∃ vm vd vs, w.cell? ⟨T, i * 3, none⟩ = some vm ∧ w.cell? ⟨T, i * 3 + 1, none⟩ = some vd ∧ w.cell? ⟨T, i * 3 + 2, none⟩ = some vs ∧ OwnGuest w (ps i) (qs i) vm vd vs (gs.getD i noG)
/-- A host that is a call's own. -/
def OwnHost (w : World) (lo hi : Nat) (vf vg : Value) (h : Hst) : Prop :=
  ∃ af cf m0 m1, vf = .slice af h.frames.length cf ∧ OwnMem w m0 m1 af h.frames.length h.frames ∧ lo ≤ m0 ∧ m1 ≤ hi ∧
    ∃ ag cg, vg = .slice ag h.guests.length cg ∧ (h.guests.length = 0 ∨ ∃ T g0, ag = some ⟨T, 0, none⟩ ∧ lo ≤ T ∧ T < hi ∧ (T < m0 ∨ m1 ≤ T) ∧ m1 ≤ g0 ∧ lo ≤ g0 ∧ GuestsUp w T g0 hi h.guests.length h.guests)

theorem GuestsUp.same {lo hi : Nat} {w w' : World} {T k : Nat} {gs : List Gst} (h : GuestsUp w T lo hi k gs) (s : SameIn lo hi w w') (sT : SameIn T (T + 1) w w') : GuestsUp w' T lo hi k gs := by
  obtain ⟨ps, qs, h1, h2, h3⟩ := h
  refine ⟨ps, qs, h1, h2, fun i hi => ?_⟩
  obtain ⟨vm, vd, vs, c0, c1, c2, hG⟩ := h3 i hi
  obtain ⟨a, b, _⟩ := h1 i hi
  exact ⟨vm, vd, vs, (sT.cell (Nat.le_refl _) (Nat.lt_succ_self _)).trans c0, (sT.cell (Nat.le_refl _) (Nat.lt_succ_self _)).trans c1, (sT.cell (Nat.le_refl _) (Nat.lt_succ_self _)).trans c2, hG.same (s.part a b)⟩
theorem GuestsUp.wide {lo hi lo' hi' : Nat} {w : World} {T k : Nat} {gs : List Gst} (h : GuestsUp w T lo hi k gs) (k1 : lo' ≤ lo) (k2 : hi ≤ hi') : GuestsUp w T lo' hi' k gs := by
  obtain ⟨ps, qs, h1, h2, h3⟩ := h
  refine ⟨ps, qs, fun i hi => ?_, h2, h3⟩
  obtain ⟨a, b, c⟩ := h1 i hi
  exact ⟨by omega, by omega, c⟩
theorem OwnHost.same {lo hi : Nat} {w w' : World} (s : SameIn lo hi w w') {vf vg : Value} {h : Hst} (k : OwnHost w lo hi vf vg h) : OwnHost w' lo hi vf vg h := by
  obtain ⟨af, cf, m0, m1, e1, hM, l1, l2, ag, cg, e2, hG⟩ := k
  refine ⟨af, cf, m0, m1, e1, hM.same (s.part l1 l2), l1, l2, ag, cg, e2, ?_⟩
  rcases hG with h0 | ⟨T, g0, rfl, t1, t2, t3, t4, t5, hU⟩
  · exact Or.inl h0
  · exact Or.inr ⟨T, g0, rfl, t1, t2, t3, t4, t5, hU.same (s.part t5 (Nat.le_refl _)) (s.part t1 t2)⟩
theorem OwnHost.wide {lo hi lo' hi' : Nat} {w : World} {vf vg : Value} {h : Hst} (k : OwnHost w lo hi vf vg h) (k1 : lo' ≤ lo) (k2 : hi ≤ hi') : OwnHost w lo' hi' vf vg h := by
  obtain ⟨af, cf, m0, m1, e1, hM, l1, l2, ag, cg, e2, hG⟩ := k
  refine ⟨af, cf, m0, m1, e1, hM, by omega, by omega, ag, cg, e2, ?_⟩
  rcases hG with h0 | ⟨T, g0, rfl, t1, t2, t3, t4, t5, hU⟩
  · exact Or.inl h0
  · exact Or.inr ⟨T, g0, rfl, by omega, by omega, t3, t4, by omega, hU.wide (Nat.le_refl _) k2⟩
/-- One guest more. -/
theorem GuestsUp.step {w w1 : World} {T lo hi k : Nat} {gs : List Gst} (h : GuestsUp w T lo hi k gs) (s : SameIn lo hi w w1) (sT : SameIn T (T + 1) w w1) (hl : lo ≤ hi) {n : Nat} (hR : Room w1 T n) (hn : k * 3 + 2 < n)
    {p hi' : Nat} (hp : hi ≤ p) (hp' : p ≤ hi') (hT : T < p ∨ hi' ≤ T) {vm vd vs : Value} (hG : OwnGuest w1 p hi' vm vd vs (gs.getD k noG)) :
    GuestsUp (((w1.setCell ⟨T, k * 3, none⟩ vm).setCell ⟨T, k * 3 + 1, none⟩ vd).setCell ⟨T, k * 3 + 2, none⟩ vs) T lo hi' (k + 1) gs := by
  obtain ⟨ps, qs, h1, h2, h3⟩ := h
  have key : ∀ x v, w1.cell? ⟨T, x, none⟩ = some v → ((((w1.setCell ⟨T, k * 3, none⟩ vm).setCell ⟨T, k * 3 + 1, none⟩ vd).setCell ⟨T, k * 3 + 2, none⟩ vs)).cell? ⟨T, x, none⟩ =
      some (if x = k * 3 + 2 then vs else if x = k * 3 + 1 then vd else if x = k * 3 then vm else v) := fun x v hv => cell_put (cell_put (cell_put hv))
  have sS : ∀ a b, (T < a ∨ b ≤ T) → SameIn a b w1 (((w1.setCell ⟨T, k * 3, none⟩ vm).setCell ⟨T, k * 3 + 1, none⟩ vd).setCell ⟨T, k * 3 + 2, none⟩ vs) := fun a b hab j j1 j2 => by
    rw [Below.heap_setCell _ _ _ _ (by simp; omega), Below.heap_setCell _ _ _ _ (by simp; omega), Below.heap_setCell _ _ _ _ (by simp; omega)]
  obtain ⟨ps', e1, e2⟩ : ∃ ps' : Nat → Nat, ps' k = p ∧ ∀ i, i ≠ k → ps' i = ps i := ⟨fun i => if i = k then p else ps i, by simp, fun i h => by simp [h]⟩
  obtain ⟨qs', f1, f2⟩ : ∃ qs' : Nat → Nat, qs' k = hi' ∧ ∀ i, i ≠ k → qs' i = qs i := ⟨fun i => if i = k then hi' else qs i, by simp, fun i h => by simp [h]⟩
  refine ⟨ps', qs', fun i hi => ?_, fun i j hij hj => ?_, fun i hi => ?_⟩
  · by_cases hik : i = k
    · rw [hik, e1, f1]; exact ⟨by omega, Nat.le_refl _, hT⟩
    · rw [e2 i hik, f2 i hik]; obtain ⟨a, b, c⟩ := h1 i (by omega); exact ⟨a, by omega, c⟩
  · rw [f2 i (by omega)]
    by_cases hjk : j = k
    · rw [hjk, e1]; have := (h1 i (by omega)).2.1; omega
    · rw [e2 j hjk]; exact h2 i j hij (by omega)
  · by_cases hik : i = k
    · subst hik
      obtain ⟨⟨x0, r0⟩, _⟩ := hR (i * 3) (by omega)
      obtain ⟨⟨x1, r1⟩, _⟩ := hR (i * 3 + 1) (by omega)
      obtain ⟨⟨x2, r2⟩, _⟩ := hR (i * 3 + 2) (by omega)
      refine ⟨vm, vd, vs, (key _ _ r0).trans ?_, (key _ _ r1).trans ?_, (key _ _ r2).trans ?_, ?_⟩
      · rw [if_neg (by omega), if_neg (by omega), if_pos rfl]
      · rw [if_neg (by omega), if_pos rfl]
      · rw [if_pos rfl]
      · rw [e1, f1]
        exact hG.same (sS _ _ hT)
    · obtain ⟨a, b, c, c0, c1, c2, hO⟩ := h3 i (by omega)
      obtain ⟨q1, q2, q3⟩ := h1 i (by omega)
      have d0 := (sT.cell (Nat.le_refl _) (Nat.lt_succ_self _)).trans c0
      have d1 := (sT.cell (Nat.le_refl _) (Nat.lt_succ_self _)).trans c1
      have d2 := (sT.cell (Nat.le_refl _) (Nat.lt_succ_self _)).trans c2
      refine ⟨a, b, c, (key _ _ d0).trans ?_, (key _ _ d1).trans ?_, (key _ _ d2).trans ?_, ?_⟩
      · rw [if_neg (by omega), if_neg (by omega), if_neg (by omega)]
      · rw [if_neg (by omega), if_neg (by omega), if_neg (by omega)]
      · rw [if_neg (by omega), if_neg (by omega), if_neg (by omega)]
      · rw [e2 i hik, f2 i hik]
        exact (hO.same (s.part q1 q2)).same (sS _ _ q3)
end Go.Proofs.Ytjegndgdpmlbaaa
