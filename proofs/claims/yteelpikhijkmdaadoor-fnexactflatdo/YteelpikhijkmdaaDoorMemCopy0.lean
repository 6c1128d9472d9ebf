/-
  What the given functions that make memory do.
-/
import Derived.Test.YteelpikhijkmdaaDoorMemSpec0
import Derived.Test.YteelpikhijkmdaaDoorFlat0
namespace Go.Proofs.YteelpikhijkmdaaDoor
open Go.RowKit

theorem ad0 (b j : Nat) : (⟨b, 0, none⟩ : Addr).add j = ⟨b, j, none⟩ := by by_cases h : j = 0 <;> simp [Addr.add, h]
theorem adk (b o j : Nat) : (⟨b, o, none⟩ : Addr).add j = ⟨b, o + j, none⟩ := by by_cases h : j = 0 <;> simp [Addr.add, h]

/-- The cells of an owned row may be written. -/
theorem own_room1 {w : World} {base : Nat} {t : TypeId} {n cap T : Nat} {vs : List Value} (h : w.ownsRow base t 1 (.slice (some ⟨T, 0, none⟩) n cap) n vs) : Room w T n := by
  have hc := h
  obtain ⟨hlen, hd⟩ := h
  rcases hd with ⟨h0, _⟩ | ⟨g, c, cur, hv, _, hh, hnc, _, hsz, htk⟩
  · simp at h0
  · simp at hv
    obtain ⟨rfl, rfl⟩ := hv
    intro j hj
    have hg := List.getElem?_eq_getElem (l := vs) (i := j) (by omega)
    refine ⟨⟨vs[j]'(by omega), ?_⟩, ?_⟩
    · have := hc.cells rfl _ _ hg
      rwa [ad0] at this
    · simp [World.frozen?, hh]

/-- A row of words as values. -/
def zv (zs : List Int) : List Value := zs.map (.int .i64 ·)
theorem zv_get (zs : List Int) (i : Nat) (h : i < zs.length) : (zv zs)[i]? = some (.int .i64 (zs.getD i 0)) := by
  simp [zv, h]
theorem own_ints {w : World} {base : Nat} {t : TypeId} {n cap T : Nat} {zs : List Int} (h : w.ownsRow base t 1 (.slice (some ⟨T, 0, none⟩) n cap) n (zv zs)) : Ints w T 0 zs := by
  intro i hi
  have := h.cells rfl _ _ (zv_get zs i hi)
  rw [ad0] at this
  simpa using this
theorem ints_zv {w : World} {b o : Nat} {zs : List Int} (h : Ints w b o zs) : ∀ j u, (zv zs)[j]? = some u → w.cell? ((⟨b, o, none⟩ : Addr).add j) = some u := by
  intro j u hj
  have hlt : j < zs.length := by
    have := (List.getElem?_eq_some_iff.mp hj).1
    simpa [zv] using this
  rw [zv_get zs j hlt] at hj
  injection hj with hj
  subst hj
  rw [adk]
  exact h j hlt
theorem zv_one (zs : List Int) : ∀ u ∈ zv zs, u.oneCell' = true := by
  intro u hu
  simp [zv] at hu
  obtain ⟨z, _, rfl⟩ := hu
  rfl

/-- The first pages are there, each an owned row of its own, and known by their values. -/
def PagesUp (w : World) (lo k : Nat) (ms : List (List Int)) (vs : List Value) : Prop :=
  vs.length = k ∧ ∃ bs cs : Nat → Nat, (∀ i j, i < j → j < k → bs i < bs j) ∧ ∀ i, i < k → vs[i]? = some (.slice (some ⟨bs i, 0, none⟩) (ms.getD i []).length (cs i)) ∧
    w.ownsRow lo 3 1 (.slice (some ⟨bs i, 0, none⟩) (ms.getD i []).length (cs i)) (ms.getD i []).length (zv (ms.getD i []))

theorem own_type {w : World} {lo : Nat} {t : TypeId} {b n c m : Nat} {vs : List Value} (h : w.ownsRow lo t 1 (.slice (some ⟨b, 0, none⟩) n c) m vs) : ∃ cur, w.heap[b]? = some (.cells cur t (0, 0)) := by
  obtain ⟨_, hd⟩ := h
  rcases hd with ⟨h0, _⟩ | ⟨g, c, cur, hv, _, hh, _⟩
  · simp at h0
  · simp at hv
    obtain ⟨rfl, _⟩ := hv
    exact ⟨cur, hh⟩

theorem PagesUp.kept {w w' : World} {lo k : Nat} {ms : List (List Int)} {vs : List Value} {row : Option Nat} (h : PagesUp w lo k ms vs) (hg : w.grownBy w' row) (hr : ∀ T, row = some T → ∃ cur, w.heap[T]? = some (.cells cur 56 (0, 0))) : PagesUp w' lo k ms vs := by
  obtain ⟨hv, bs, cs, hm, h⟩ := h
  refine ⟨hv, bs, cs, hm, fun i hi => ⟨(h i hi).1, (h i hi).2.kept hg (Or.inr ?_)⟩⟩
  intro e
  obtain ⟨cur, hc⟩ := own_type (h i hi).2
  obtain ⟨cur', hc'⟩ := hr (bs i) e.symm
  rw [hc] at hc'
  simp at hc'

theorem PagesUp.snoc {w w' : World} {lo k p c : Nat} {ms : List (List Int)} {vs : List Value} (h : PagesUp w lo k ms vs) (h' : PagesUp w' lo k ms vs) (hp : w.heap.size ≤ p) {l : Nat} (hl : (ms.getD k []).length = l)
    (hn : w'.ownsRow lo 3 1 (.slice (some ⟨p, 0, none⟩) l c) l (zv (ms.getD k []))) : PagesUp w' lo (k + 1) ms (vs ++ [.slice (some ⟨p, 0, none⟩) l c]) := by
  obtain ⟨hv, bs, cs, hm, h'⟩ := h'
  obtain ⟨_, bs0, cs0, _, h⟩ := h
  subst hl
  obtain ⟨bs', e1, e2⟩ : ∃ bs' : Nat → Nat, bs' k = p ∧ ∀ i, i ≠ k → bs' i = bs i := ⟨fun i => if i = k then p else bs i, by simp, fun i h => by simp [h]⟩
  obtain ⟨cs', d1, d2⟩ : ∃ cs' : Nat → Nat, cs' k = c ∧ ∀ i, i ≠ k → cs' i = cs i := ⟨fun i => if i = k then c else cs i, by simp, fun i h => by simp [h]⟩
  refine ⟨by simp [hv], bs', cs', fun i j hij hj => ?_, fun i hi => ?_⟩
  · rw [e2 i (by omega)]
    by_cases hjk : j = k
    · rw [hjk, e1]
      have k1 := (h i (by omega)).1
      have k2 := (h' i (by omega)).1
      have k3 := ((h i (by omega)).2.lt _ rfl).2
      rw [k1] at k2
      simp at k2
      have : bs0 i = bs i := k2.1
      have k4 : (⟨bs0 i, 0, none⟩ : Addr).block < w.heap.size := k3
      simp at k4
      omega
    · rw [e2 j hjk]
      exact hm i j hij (by omega)
  · by_cases hik : i = k
    · subst hik
      rw [e1, d1]
      refine ⟨?_, hn⟩
      rw [List.getElem?_append_right (by omega), hv]
      simp
    · rw [e2 i hik, d2 i hik]
      refine ⟨?_, (h' i (by omega)).2⟩
      rw [List.getElem?_append_left (by omega)]
      exact (h' i (by omega)).1

theorem own_mem {w : World} {lo n : Nat} {v : Value} {ms : List (List Int)} {vs : List Value} (hP : PagesUp w lo n ms vs) (hl : ms.length = n) (h : w.ownsRow lo 56 1 v n vs) :
    ∃ a c, v = .slice a n c ∧ OwnMem w lo w.heap.size a n ms ∧ n ≤ c := by
  have hc := h
  obtain ⟨hlen, hd⟩ := h
  rcases hd with ⟨rfl, h0⟩ | ⟨g, cap, cur, rfl, hg, hh, hcap, _⟩
  · subst h0
    exact ⟨none, 0, rfl, ⟨hl, Or.inl rfl⟩, Nat.le_refl _⟩
  · have hR := own_room1 hc
    have hlt := (hc.lt g rfl).2
    obtain ⟨hv, bs, cs, hm, hP⟩ := hP
    refine ⟨some ⟨g, 0, none⟩, cap, rfl, ⟨hl, Or.inr ⟨g, rfl, hg, hlt, bs, hm, fun i hi => ?_⟩⟩, hcap⟩
    obtain ⟨k1, k2⟩ := hP i hi
    obtain ⟨k3, k4⟩ := k2.lt _ rfl
    have k3 : lo ≤ bs i := k3
    have k4 : bs i < w.heap.size := k4
    refine ⟨k3, k4, ?_, ⟨cs i, ?_⟩, (hR i hi).2, own_ints k2, fun j hj => (own_room1 k2 j hj).2⟩
    · intro e
      obtain ⟨cur', hc'⟩ := own_type k2
      rw [e, hh] at hc'
      simp at hc'
    · have := hc.cells rfl _ _ k1
      rwa [ad0] at this

theorem own_row {w : World} {lo : Nat} {t : TypeId} {v : Value} {n : Nat} {vs : List Value} (h : w.ownsRow lo t 1 v n vs) : ∀ T, v.ownBlock = some T → ∃ cur, w.heap[T]? = some (.cells cur t (0, 0)) := by
  intro T hT
  obtain ⟨_, hd⟩ := h
  rcases hd with ⟨rfl, _⟩ | ⟨g, c, cur, rfl, _, hh, _⟩
  · simp [Value.ownBlock] at hT
  · simp [Value.ownBlock] at hT
    subst hT
    exact ⟨cur, hh⟩
theorem one_new (w : World) (v : Value) (t : TypeId) : ∀ j u, [v][j]? = some u → (w.alloc (.cells #[v] t)).cell? ((⟨w.heap.size, 0, none⟩ : Addr).add j) = some u := by
  intro j u hj
  match j, hj with
  | 0, hj => simp at hj; subst hj; simp [Addr.add]
  | j + 1, hj => simp at hj

theorem own_below {W w' : World} {lo : Nat} {t : TypeId} {v : Value} {n : Nat} {vs : List Value} (h : W.ownsRow lo t 1 v n vs) (hB : Below W.heap.size W w') : w'.ownsRow lo t 1 v n vs := by
  refine h.kept (below_grown hB) ?_
  cases v.ownBlock
  · exact Or.inl rfl
  · exact Or.inr (by simp)
theorem own_at1 {w : World} {base : Nat} {t : TypeId} {v : Value} {n : Nat} {vs : List Value} (h : w.ownsRow base t 1 v n vs) (hn : 0 < n) : ∃ T cap, v = .slice (some ⟨T, 0, none⟩) n cap ∧ base ≤ T := by
  obtain ⟨_, hd⟩ := h
  rcases hd with ⟨_, h0⟩ | ⟨g, cap, cur, rfl, hg, _⟩
  · omega
  · exact ⟨g, cap, rfl, hg⟩
theorem own_down {w : World} {base base' : Nat} {t : TypeId} {v : Value} {n : Nat} {vs : List Value} (h : w.ownsRow base t 1 v n vs) (hb : base' ≤ base) : w.ownsRow base' t 1 v n vs := by
  obtain ⟨hl, hd⟩ := h
  refine ⟨hl, ?_⟩
  rcases hd with h0 | ⟨g, cap, cur, rfl, hg, hr⟩
  · exact Or.inl h0
  · exact Or.inr ⟨g, cap, cur, rfl, Nat.le_trans hb hg, hr⟩

set_option maxHeartbeats 2000000 in
theorem specCopy (lo hi : Nat) (a : Option Addr) (len cap : Nat) (ms : List (List Int)) (w : World) (h : IsMem w lo hi a len ms) (hh : hi ≤ w.heap.size) (hn : len ≤ 1048576) (hL : ∀ i, i < len → 0 < (ms.getD i []).length ∧ (ms.getD i []).length ≤ 1048576) :
    Calls Tryd.prog 28 #[.slice a len cap] w fun e w' => ∃ a c, e = .returned (.slice a len c) ∧ OwnMem w' w.heap.size w'.heap.size a len ms ∧ Below w.heap.size w w' := by
  obtain ⟨hl, hd⟩ := h
  obtain ⟨i0, hi0, hz0, hz1, hz2⟩ := info_parts infoZ
  obtain ⟨i1, hi1, hy0, hy1, hy2⟩ := info_parts infoS
  go_enter Tryd.func28, Tryd.ntmps28
  go_wp2
  go_loopw [3, 4] (fun v i wr => ∃ k : Nat, ∃ vs, k ≤ len ∧ i = .int .i64 k ∧ Hid (wr.ownsRow w.heap.size 56 1 v k vs) ∧ Hid (PagesUp wr w.heap.size k ms vs) ∧ Below w.heap.size w wr) (fun _ i _ => len - (intOf i).toNat)
  case atStart => exact ⟨0, [], Nat.zero_le _, rfl, World.ownsRow_made w #[] 0 (Nat.le_refl _) (by simp [maxLen]) rfl, ⟨rfl, fun _ => 0, fun _ => 0, fun i j h1 h2 => by omega, fun i hi => by omega⟩, (Below.refl _ _).alloc (Nat.le_refl _) _⟩
  case round =>
    obtain ⟨k, vs, hk, rfl, hownH, hPH, hB⟩ := hrel
    have hown := hownH.out
    have hP := hPH.out
    have sW := hB.size
    by_cases hkl : k < len
    · rcases hd with h0 | ⟨b, o, rfl, hb1, hb2, hc⟩
      · omega
      obtain ⟨a', l, c, q, hI⟩ := hc k hkl
      have hbs : b < w.heap.size := by omega
      have c0 := (hB.cell (p := ⟨b, o + k, none⟩) hbs).trans q
      obtain ⟨hll, hdd⟩ := hI.same (below_sameIn hB hh)
      obtain ⟨hL1, hL2⟩ := hL k hkl
      rcases hdd with h0 | ⟨b', o', rfl, hb1', hb2', hc'⟩
      · omega
      have HN := ints_zv (hc'.below ((Below.refl wr.heap.size wr).alloc (Nat.le_refl _) (.cells #[] 3)) (by omega))
      have hki : (k : Int) < (len : Int) := by omega
      have hzl : (zv (ms.getD k [])).length = l * 1 := by rw [zv, List.length_map]; omega
      have hbw : b < wr.heap.size := by omega
      have own0 : (wr.alloc (.cells #[] 3)).ownsRow wr.heap.size 3 1 (.slice (some ⟨wr.heap.size, 0, none⟩) 0 0) 0 [] := World.ownsRow_made wr #[] 0 (Nat.le_refl _) (by simp [maxLen]) rfl
      clear q hI hc hc'
      go_wp2_with (first | (at_builtin; refine wpList_append_own _ rfl (.tmp 13) (.tmp 17) 56 rfl wr.heap.size 3 i0 (.int .i64 0) 1 8 Tryd.underlying56 hi0 hz0 hz1 hz2 rfl (by decide) _ _ _ rfl own0 ⟨b', o', none⟩ l c (zv (ms.getD k [])) rfl hzl HN (zv_one _) (by unfold maxLen; omega) (by omega) (by simp) ?_; intro v2 w2 own2 grow2 nil2; rw [Nat.zero_add, List.nil_append] at own2; have B2 : Below wr.heap.size wr w2 := Below.grown ((Below.refl wr.heap.size wr).alloc (Nat.le_refl _) (.cells #[] 3)) grow2 (by simp) (fun j hj => (own0.lt _ hj).1); obtain ⟨p, c2, hv2, hp⟩ := own_at1 own2 (by omega); subst hv2; have HP2 : Hid (PagesUp w2 w.heap.size k ms vs) := (hP.kept (below_grown B2) (fun T e => by cases e)); have HO2 : Hid (w2.ownsRow w.heap.size 3 1 (.slice (some ⟨p, 0, none⟩) l c2) l (zv (ms.getD k []))) := own_down own2 sW; have hown2 := (own_below hown B2).alloc (.cells #[.slice (some ⟨p, 0, none⟩) l c2] 56); have HC := one_new w2 (.slice (some ⟨p, 0, none⟩) l c2) 56; have hs2 := B2.size; clear own2 grow2 nil2 HN own0) | (at_builtin; refine wpList_append_own _ rfl (.tmp 12) (.tmp 19) 23 rfl w.heap.size 56 i1 (.slice none 0 0) 1 24 Tryd.underlying23 hi1 hy0 hy1 hy2 rfl (by decide) _ _ _ rfl hown2 ⟨w2.heap.size, 0, none⟩ 1 1 [.slice (some ⟨p, 0, none⟩) l c2] rfl rfl HC (by simp [Value.oneCell']) (by unfold maxLen; omega) (by omega) (by simp; omega) ?_; intro v3 w3 own3 grow3 nil3))
      have hB2 : Below w.heap.size w w2 := hB.trans (B2.mono sW)
      have hB3 : Below w.heap.size w w3 := Below.grown (hB2.alloc (by omega) _) grow3 (by simp; omega) (fun j hj => (hown2.lt _ hj).1)
      have HO3 : Hid (w3.ownsRow w.heap.size 56 1 v3 (k + 1) (vs ++ [.slice (some ⟨p, 0, none⟩) l c2])) := own3
      have HP3 : Hid (PagesUp w3 w.heap.size (k + 1) ms (vs ++ [.slice (some ⟨p, 0, none⟩) l c2])) := by
        have k1 : PagesUp (w2.alloc (.cells #[.slice (some ⟨p, 0, none⟩) l c2] 56)) w.heap.size (k + 1) ms (vs ++ [.slice (some ⟨p, 0, none⟩) l c2]) :=
          PagesUp.snoc hP (HP2.out.kept (below_grown ((Below.refl _ _).alloc (Nat.le_refl _) _)) (fun T e => by cases e)) hp hll (HO2.out.alloc _)
        exact k1.kept grow3 (own_row hown2)
      clear own3 grow3 nil3 hown2 HC HP2 HO2 hown hP
      go_wp2
      go_roundw
      case rel => exact ⟨k + 1, _, by omega, by go_num, HO3, HP3, hB3⟩
      case measure => simp [intOf]; omega
    · have hkk : k = len := by omega
      subst hkk
      obtain ⟨a3, c3, hv3, hM, _⟩ := own_mem hP hl hown
      subst hv3
      clear hown hP hownH hPH
      go_wp2
      go_ret
      exact ⟨a3, c3, rfl, hM, hB⟩
end Go.Proofs.YteelpikhijkmdaaDoor
