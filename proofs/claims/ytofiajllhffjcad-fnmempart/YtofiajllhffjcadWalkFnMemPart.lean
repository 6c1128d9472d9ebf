/-
  The walk of the law FnMemPart.
-/
import Derived.Test.YtofiajllhffjcadMemDraw3
import Derived.Deep.RegionLaw
namespace Go.Proofs.Ytofiajllhffjcad
open Go.RowKit

/-- An append to a row that is the call's own, as one step of a region that draws its order. -/
theorem step_append_mine {P : Program} {ops : Array Oper} {o : Oper} {a : Act} {w : World} {K : Act → World → Prop} {Q : Exit → Act → World → Prop} {E : Prop}
    (hg : o.guard = none) (s x : Operand) (t : TypeId) (hop : o.op = Op.call { callee := Callee.builtin Builtin.append, args := #[s, x], argTypes := #[t, t] })
    (base : Nat) (e : TypeId) (i : TypeInfo) (z : Value) (size bytes : Nat) (h1 : P.underlying t = some (.slice e)) (h2 : P.info? e = some i) (h3 : i.zero = some z) (h4 : i.size = size) (h5 : i.bytes = bytes) (h6 : z.cells.size = size) (h7 : 0 < size)
    (v : Value) (n : Nat) (xs : List Value) (hs : a.eval s = v) (hown : w.ownsRow base e size v n xs)
    (ad : Addr) (m c : Nat) (news : List Value) (hx : a.eval x = .slice (some ad) m c) (hn : news.length = m * size) (hc : ∀ j u, news[j]? = some u → w.cell? (ad.add j) = some u) (h1c : ∀ u ∈ news, u.oneCell' = true)
    (b1 : n + m ≤ maxLen) (b2 : (n + m) * bytes ≤ 140737488355328) (hb : base ≤ w.heap.size)
    (hK : ∀ v' w', w'.ownsRow base e size v' (n + m) (xs ++ news) → w.grownBy w' v.ownBlock → K (a.put o.dst v') w') :
    if Region.wanted o (yielded ops a.tmps) = true then Oper.wp P o a w K Q else E := by
  have hw : Region.wanted o (yielded ops a.tmps) = true := by simp [Region.wanted, hg]
  rw [if_pos hw]
  obtain ⟨v', w', hrun, r1, r2, _⟩ := run_append_own (P := P) w base t o.type e i z size bytes h1 h2 h3 h4 h5 h6 h7 v n xs hown ad m c news hn hc h1c b1 b2 hb
  unfold Oper.wp
  simp [execOp, hop, resolve, invoke, builtin, hs, hx, hrun, Result.andThen]
  exact hK v' w' r1 r2

/-- The values of the outer cells of memory. -/
theorem outer_vals {w : World} {lo hi T o n : Nat} {ms : List (List Int)} (h : IsMem w lo hi (some ⟨T, o, none⟩) n ms) (hn : n ≠ 0) :
    ∃ vs : List Value, vs.length = n ∧ T < hi ∧ (∀ j u, vs[j]? = some u → w.cell? ⟨T, o + j, none⟩ = some u) ∧ (∀ u ∈ vs, u.oneCell' = true) ∧ ∀ i, i < n → ∃ a' l c, vs[i]? = some (.slice a' l c) ∧ IsInts w lo hi a' l (ms.getD i []) := by
  obtain ⟨hl, hd⟩ := h
  rcases hd with h0 | ⟨b, o', he, h1, h2, hc⟩
  · exact absurd h0 hn
  · simp at he
    obtain ⟨rfl, rfl⟩ := he
    have each : ∀ i, i < n → ∃ r : Option Addr × Nat × Nat, w.cell? ⟨T, o + i, none⟩ = some (.slice r.1 r.2.1 r.2.2) ∧ IsInts w lo hi r.1 r.2.1 (ms.getD i []) := fun i hi => by
      obtain ⟨a', l, c, k1, k2⟩ := hc i hi
      exact ⟨(a', l, c), k1, k2⟩
    obtain ⟨f, hf⟩ := Go.Deep.choose_lt (α := Option Addr × Nat × Nat) each
    refine ⟨(List.range n).map fun i => .slice (f i).1 (f i).2.1 (f i).2.2, by simp, h2, fun j u hj => ?_, fun u hu => ?_, fun i hi => ?_⟩
    · have hjn : j < n := by
        have := (List.getElem?_eq_some_iff.mp hj).1
        simpa using this
      simp [hjn] at hj
      rw [← hj]
      exact (hf j hjn).1
    · simp at hu
      obtain ⟨i, _, rfl⟩ := hu
      rfl
    · exact ⟨(f i).1, (f i).2.1, (f i).2.2, by simp [hi], (hf i hi).2⟩

theorem drop_vals {w w' : World} {N T o : Nat} {vs : List Value} (hB : Below N w w') (hT : T < N) (hv : ∀ j u, vs[j]? = some u → w.cell? ⟨T, o + j, none⟩ = some u) (k : Nat) :
    ∀ j u, (vs.drop k)[j]? = some u → w'.cell? ((⟨T, o + k, none⟩ : Addr).add j) = some u := fun j u hj => by
  rw [adk, show o + k + j = o + (k + j) by omega]
  rw [List.getElem?_drop] at hj
  exact (hB.cell (p := ⟨T, o + (k + j), none⟩) hT).trans (hv (k + j) u hj)

theorem part_get {α : Type} (l : List α) (k i : Nat) (hk : k < l.length) : (l.take k ++ l.drop (k + 1))[i]? = if i < k then l[i]? else l[i + 1]? := by
  by_cases h : i < k
  · rw [if_pos h, List.getElem?_append_left (by simp; omega), List.getElem?_take_of_lt h]
  · rw [if_neg h, List.getElem?_append_right (by simp; omega), List.getElem?_drop]
    congr 1
    simp
    omega
theorem part_mem {v wb : World} {lo hi n k : Nat} {t : TypeId} {vs : List Value} {ms : List (List Int)} {vb : Value} (hvl : vs.length = n) (hlm : ms.length = n) (hk : k < n) (hn : 1 < n)
    (hvi : ∀ i, i < n → ∃ a' l c, vs[i]? = some (.slice a' l c) ∧ IsInts v lo hi a' l (ms.getD i [])) (hhi : hi ≤ v.heap.size) (hlo : lo ≤ v.heap.size) (hB : Below v.heap.size v wb)
    (hown : wb.ownsRow v.heap.size t 1 vb (n - 1) (vs.take k ++ vs.drop (k + 1))) : ∃ T c, vb = .slice (some ⟨T, 0, none⟩) (n - 1) c ∧ IsMem wb lo wb.heap.size (some ⟨T, 0, none⟩) (n - 1) (ms.take k ++ ms.drop (k + 1)) := by
  obtain ⟨T, c, rfl, hT⟩ := own_at1 hown (by omega)
  have hT2 := (hown.lt T rfl).2
  refine ⟨T, c, rfl, by simp; omega, Or.inr ⟨T, 0, rfl, by omega, hT2, fun i hi' => ?_⟩⟩
  have hg : (ms.take k ++ ms.drop (k + 1)).getD i [] = ms.getD (if i < k then i else i + 1) [] := by
    rw [List.getD_eq_getElem?_getD, part_get ms k i (by omega), List.getD_eq_getElem?_getD]
    by_cases h : i < k
    · rw [if_pos h, if_pos h]
    · rw [if_neg h, if_neg h]
  obtain ⟨a', l, c', h1, h2⟩ := hvi (if i < k then i else i + 1) (by split <;> omega)
  have hv : (vs.take k ++ vs.drop (k + 1))[i]? = some (.slice a' l c') := by
    rw [part_get vs k i (by omega), ← h1]
    by_cases h : i < k
    · rw [if_pos h, if_pos h]
    · rw [if_neg h, if_neg h]
  have hc := hown.cells rfl _ _ hv
  rw [ad0] at hc
  rw [hg]
  exact ⟨a', l, c', by simpa using hc, (h2.same (below_sameIn hB hhi)).wide (Nat.le_refl _) (Nat.le_trans hhi hB.size)⟩
theorem okM_part {ms : List (List Int)} (h : okM ms = true) (k : Nat) : okM (ms.take k ++ ms.drop (k + 1)) = true := by
  unfold okM at h ⊢
  rw [List.all_eq_true] at h ⊢
  intro x hx
  rcases List.mem_append.mp hx with hx | hx
  · exact h x (List.mem_of_mem_take hx)
  · exact h x (List.mem_of_mem_drop hx)
theorem atM_part {ms : List (List Int)} {k : Nat} (hk : k < ms.length) (j : Nat) : atM (ms.take k ++ ms.drop (k + 1)) k j = atM ms (k + 1) j := by
  unfold atM
  have hg : (ms.take k ++ ms.drop (k + 1)).getD k [] = ms.getD (k + 1) [] := by
    rw [List.getD_eq_getElem?_getD, part_get ms k k hk, if_neg (by omega), ← List.getD_eq_getElem?_getD]
  rw [hg]

set_option maxHeartbeats 2000000 in
theorem walk_FnMemPart (a0 : Option Addr) (len0 cap0 : Nat) (z0 : List Int) (a1 : Option Addr) (len1 cap1 : Nat) (z1 : List Int) (w : World) (w0 : IsRow .u8 w a0 len0 cap0 z0) (_w1 : IsRow .u8 w a1 len1 cap1 z1) :
    Calls Try.prog 5 #[.slice a0 len0 cap0, .slice a1 len1 cap1] w fun e w' => e = .returned (.bool true) ∧ Below w.heap.size w w' := by
  by_cases hbig : (1048576 : Int) < (len0 : Int)
  · go_enter Try.func5, Try.ntmps5
    go_wp2
    go_ret
    exact ⟨rfl, Below.refl _ _⟩
  by_cases hbig' : (1048576 : Int) < (len1 : Int)
  · go_enter Try.func5, Try.ntmps5
    go_wp2
    go_ret
    exact ⟨rfl, Below.refl _ _⟩
  go_enter Try.func5, Try.ntmps5
  go_wp2_with (fail)
  refine (drawMemOk a0 len0 cap0 z0 _ w0).mono ?_
  rintro e v1 ⟨T, o, n, c, ms, rfl, hn56, hnc, ⟨hM, hn6, h4⟩, B1⟩
  have hn : n ≤ 1048576 := by omega
  have hL : ∀ i, i < n → (ms.getD i []).length ≤ 1048576 := fun i hi => by have := h4 i hi; omega
  have hlm := hM.1
  go_wp2_with (fail)
  refine (implMemOk _ _ _ n c ms _ hM (Nat.le_refl _) hn).mono ?_
  rintro e v2 ⟨rfl, B2⟩
  have B02 := B1.trans (B2.mono B1.size)
  have hM2 := hM.same (below_sameIn B2 (Nat.le_refl _))
  have s2 : v1.heap.size ≤ v2.heap.size := B2.size
  clear B1 B2 hM
  go_wp2_with (fail)
  refine (specMemOk _ _ _ n c ms _ hM2 hn hL).mono ?_
  rintro e v3 ⟨rfl, rfl⟩
  cases hok : okM ms
  · go_wp2_with (fail)
    refine (specMemOk _ _ _ n c ms _ hM2 hn hL).mono ?_
    rintro e v4 ⟨rfl, rfl⟩
    rw [hok]
    go_wp2
    go_ret
    exact ⟨rfl, B02⟩
  · have hn0 : ((n : Int) == 0) = false := by simp; omega
    obtain ⟨k, hk, hkk⟩ : ∃ k : Nat, k < n ∧ (len1 : Int) % (n : Int) = (k : Int) := ⟨len1 % n, Nat.mod_lt _ (by omega), by rw [Int.natCast_emod]⟩
    obtain ⟨vs, hvl, hTh, hvc, hv1, hvi⟩ := outer_vals hM2 (by omega)
    have hTv : T < v3.heap.size := by omega
    obtain ⟨i1, hi1, hy0, hy1, hy2⟩ := info_parts infoS
    have B4 : Below v3.heap.size v3 (v3.drew.alloc (.cells #[] 49)) := ((Below.refl _ _).drew).alloc (Nat.le_refl _) _
    have own0 : (v3.drew.alloc (.cells #[] 49)).ownsRow v3.heap.size 49 1 (.slice (some ⟨v3.heap.size, 0, none⟩) 0 0) 0 [] := World.ownsRow_made v3.drew #[] 0 (Nat.le_refl _) (by simp [maxLen]) rfl
    have HN1 : ∀ j u, (vs.take k)[j]? = some u → (v3.drew.alloc (.cells #[] 49)).cell? ((⟨T, o, none⟩ : Addr).add j) = some u := fun j u hj => by
      rw [adk]
      have hjk : j < k := by
        have := (List.getElem?_eq_some_iff.mp hj).1
        simp at this
        omega
      rw [List.getElem?_take_of_lt hjk] at hj
      exact (B4.cell (p := ⟨T, o + j, none⟩) hTv).trans (hvc j u hj)
    by_cases hkc : c = k + 1
    · rcases hn56 with rfl | rfl
      · obtain rfl : k = 4 := by omega
        obtain rfl : c = 5 := by omega
        have hk5 : (len1 : Int) % 5 = 4 := by omega
        have hwr : IntKind.i64.wrap 5 = 5 := by decide
        clear hkk
        go_wp2_with (fail)
        go_region_law (first | (refine step_append_mine rfl (.tmp 47) (.tmp 50) 23 rfl v3.heap.size 49 i1 (.slice none 0 0) 1 24 Try.underlying23 hi1 hy0 hy1 hy2 rfl (by decide) _ _ _ rfl own0 ⟨T, o, none⟩ 4 5 (vs.take 4) rfl (by simp; omega) HN1 (fun u hu => hv1 u (List.mem_of_mem_take hu)) (by unfold maxLen; omega) (by omega) (by simp) ?_; intro va wa owna growa; rw [Nat.zero_add, List.nil_append] at owna; have Ba : Below v3.heap.size v3 wa := Below.grown B4 growa (by simp) (fun j hj => (own0.lt _ hj).1); have HN2 : ∀ j u, (vs.drop 5)[j]? = some u → wa.cell? ((⟨T, o, none⟩ : Addr).add j) = some u := (fun j u hj => by rw [List.drop_of_length_le (by omega)] at hj; simp at hj)) | (refine step_append_mine rfl (.tmp 51) (.tmp 55) 23 rfl v3.heap.size 49 i1 (.slice none 0 0) 1 24 Try.underlying23 hi1 hy0 hy1 hy2 rfl (by decide) _ _ _ rfl owna ⟨T, o, none⟩ 0 0 (vs.drop 5) rfl (by simp; omega) HN2 (fun u hu => hv1 u (List.mem_of_mem_drop hu)) (by unfold maxLen; omega) (by omega) Ba.size ?_; intro vb wb ownb growb))
        all_goals
          have Bb : Below v3.heap.size v3 wb := Below.grown Ba growb Ba.size (fun j hj => (owna.lt _ hj).1)
          obtain ⟨T', c', hvb, hMx⟩ := part_mem (k := 4) (n := 5) hvl hlm hk (by omega) hvi s2 B02.size Bb ownb
          subst hvb
          have B0b := B02.trans (Bb.mono B02.size)
          have HMx : Hid (IsMem wb w.heap.size wb.heap.size (some ⟨T', 0, none⟩) (5 - 1) (ms.take 4 ++ ms.drop (4 + 1))) := hMx
          have hokx := okM_part hok 4
          clear hMx ownb growb owna growa Ba Bb HN2 HN1 own0 B4 hvc hvi hv1
          have hOk := implMemOk _ _ _ (5 - 1) c' (ms.take 4 ++ ms.drop (4 + 1)) wb HMx.out (Nat.le_refl _) (by omega)
          rw [hokx] at hOk
          go_wp2_with (fail)
          refine hOk.mono ?_
          rintro e v5 ⟨rfl, B5⟩
          have B05 := B0b.trans (B5.mono B0b.size)
          go_wp2
          go_ret
          exact ⟨rfl, B05⟩
      · obtain rfl : k = 5 := by omega
        obtain rfl : c = 6 := by omega
        have hk5 : (len1 : Int) % 6 = 5 := by omega
        have hwr : IntKind.i64.wrap 6 = 6 := by decide
        clear hkk
        go_wp2_with (fail)
        go_region_law (first | (refine step_append_mine rfl (.tmp 47) (.tmp 50) 23 rfl v3.heap.size 49 i1 (.slice none 0 0) 1 24 Try.underlying23 hi1 hy0 hy1 hy2 rfl (by decide) _ _ _ rfl own0 ⟨T, o, none⟩ 5 6 (vs.take 5) rfl (by simp; omega) HN1 (fun u hu => hv1 u (List.mem_of_mem_take hu)) (by unfold maxLen; omega) (by omega) (by simp) ?_; intro va wa owna growa; rw [Nat.zero_add, List.nil_append] at owna; have Ba : Below v3.heap.size v3 wa := Below.grown B4 growa (by simp) (fun j hj => (own0.lt _ hj).1); have HN2 : ∀ j u, (vs.drop 6)[j]? = some u → wa.cell? ((⟨T, o, none⟩ : Addr).add j) = some u := (fun j u hj => by rw [List.drop_of_length_le (by omega)] at hj; simp at hj)) | (refine step_append_mine rfl (.tmp 51) (.tmp 55) 23 rfl v3.heap.size 49 i1 (.slice none 0 0) 1 24 Try.underlying23 hi1 hy0 hy1 hy2 rfl (by decide) _ _ _ rfl owna ⟨T, o, none⟩ 0 0 (vs.drop 6) rfl (by simp; omega) HN2 (fun u hu => hv1 u (List.mem_of_mem_drop hu)) (by unfold maxLen; omega) (by omega) Ba.size ?_; intro vb wb ownb growb))
        all_goals
          have Bb : Below v3.heap.size v3 wb := Below.grown Ba growb Ba.size (fun j hj => (owna.lt _ hj).1)
          obtain ⟨T', c', hvb, hMx⟩ := part_mem (k := 5) (n := 6) hvl hlm hk (by omega) hvi s2 B02.size Bb ownb
          subst hvb
          have B0b := B02.trans (Bb.mono B02.size)
          have HMx : Hid (IsMem wb w.heap.size wb.heap.size (some ⟨T', 0, none⟩) (6 - 1) (ms.take 5 ++ ms.drop (5 + 1))) := hMx
          have hokx := okM_part hok 5
          clear hMx ownb growb owna growa Ba Bb HN2 HN1 own0 B4 hvc hvi hv1
          have hOk := implMemOk _ _ _ (6 - 1) c' (ms.take 5 ++ ms.drop (5 + 1)) wb HMx.out (Nat.le_refl _) (by omega)
          rw [hokx] at hOk
          go_wp2_with (fail)
          refine hOk.mono ?_
          rintro e v5 ⟨rfl, B5⟩
          have B05 := B0b.trans (B5.mono B0b.size)
          go_wp2
          go_ret
          exact ⟨rfl, B05⟩
    · rcases hn56 with rfl | rfl
      · have hki : (k : Int) < 5 := by omega
        have hk5 : (len1 : Int) % 5 = (k : Int) := by omega
        have hkc1 : (k : Int) ≤ (c : Int) := by omega
        have hkc2 : ¬ (c : Int) < (k : Int) := by omega
        have hcI : (5 : Int) ≤ (c : Int) := by omega
        have hwr : IntKind.i64.wrap ((k : Int) + 1) = ((k + 1 : Nat) : Int) := by
          simp [IntKind.wrap, IntKind.bits, IntKind.signed]
          omega
        have hlo5 : 0 ≤ (k : Int) + 1 := by omega
        have hhi5 : (k : Int) + 1 ≤ 5 := by omega
        clear hkk
        go_wp2_with (fail)
        go_region_law (first | (refine step_append_mine rfl (.tmp 47) (.tmp 50) 23 rfl v3.heap.size 49 i1 (.slice none 0 0) 1 24 Try.underlying23 hi1 hy0 hy1 hy2 rfl (by decide) _ _ _ rfl own0 ⟨T, o, none⟩ k c (vs.take k) rfl (by simp; omega) HN1 (fun u hu => hv1 u (List.mem_of_mem_take hu)) (by unfold maxLen; omega) (by omega) (by simp) ?_; intro va wa owna growa; rw [Nat.zero_add, List.nil_append] at owna; have Ba : Below v3.heap.size v3 wa := Below.grown B4 growa (by simp) (fun j hj => (own0.lt _ hj).1); have HN2 := drop_vals Ba hTv hvc (k + 1)) | (refine step_append_mine rfl (.tmp 51) (.tmp 55) 23 rfl v3.heap.size 49 i1 (.slice none 0 0) 1 24 Try.underlying23 hi1 hy0 hy1 hy2 rfl (by decide) _ _ _ rfl owna ⟨T, o + (k + 1), none⟩ (4 - k) (c - (k + 1)) (vs.drop (k + 1)) rfl (by simp; omega) HN2 (fun u hu => hv1 u (List.mem_of_mem_drop hu)) (by unfold maxLen; omega) (by omega) Ba.size ?_; intro vb wb ownb growb))
        all_goals
          have Bb : Below v3.heap.size v3 wb := Below.grown Ba growb Ba.size (fun j hj => (owna.lt _ hj).1)
          rw [show k + (4 - k) = 5 - 1 by omega] at ownb
          obtain ⟨T', c', hvb, hMx⟩ := part_mem hvl hlm hk (by omega) hvi s2 B02.size Bb ownb
          subst hvb
          have B0b := B02.trans (Bb.mono B02.size)
          have hMb := hM2.same (below_sameIn Bb s2)
          have sb := Nat.le_trans s2 Bb.size
          have HMx : Hid (IsMem wb w.heap.size wb.heap.size (some ⟨T', 0, none⟩) (5 - 1) (ms.take k ++ ms.drop (k + 1))) := hMx
          have hokx := okM_part hok k
          clear hMx ownb growb owna growa Ba Bb HN2 HN1 own0 B4 hvc hvi hv1
          by_cases hk1 : k + 1 = 5
          · have hk1i : (k : Int) + 1 = 5 := by omega
            have hOk := implMemOk _ _ _ (5 - 1) c' (ms.take k ++ ms.drop (k + 1)) wb HMx.out (Nat.le_refl _) (by omega)
            rw [hokx] at hOk
            go_wp2_with (fail)
            refine hOk.mono ?_
            rintro e v5 ⟨rfl, B5⟩
            have B05 := B0b.trans (B5.mono B0b.size)
            go_wp2
            go_ret
            exact ⟨rfl, B05⟩
          · have hk1i : ¬ (k : Int) + 1 = 5 := by omega
            have hA1 : atB ms ((k : Int) + 1) 0 = true := by
              rw [atB, hok, hlm]
              simp [placeB]
              omega
            have hA2 : atB (ms.take k ++ ms.drop (k + 1)) (k : Int) 0 = true := by
              rw [atB, hokx, HMx.out.1]
              simp [placeB]
              omega
            have hz1 : atZ ms ((k : Int) + 1) 0 = atM ms (k + 1) 0 := by
              simp only [atZ, hA1, cond_true]
              congr 1
            have hz2 : atZ (ms.take k ++ ms.drop (k + 1)) (k : Int) 0 = atM ms (k + 1) 0 := by
              simp only [atZ, hA2, cond_true]
              exact atM_part (by omega) 0
            have hC1 := implMemAt _ _ _ 5 c ms ((k : Int) + 1) 0 wb hMb sb (by omega)
            rw [hA1, hz1] at hC1
            have hC2 : ∀ W, Below wb.heap.size wb W → Calls Try.prog 8 #[.slice (some ⟨T', 0, none⟩) (5 - 1) c', .int .i64 k, .int .i64 0] W fun e w' => e = .returned (.tuple #[.int .i64 (atM ms (k + 1) 0), .bool true]) ∧ Below W.heap.size W w' := fun W hB => by
              have := implMemAt _ _ _ (5 - 1) c' (ms.take k ++ ms.drop (k + 1)) (k : Int) 0 W (HMx.out.same (below_sameIn hB (Nat.le_refl _))) hB.size (by omega)
              rwa [hA2, hz2] at this
            have hOk : ∀ W, Below wb.heap.size wb W → Calls Try.prog 21 #[.slice (some ⟨T', 0, none⟩) (5 - 1) c'] W fun e w' => e = .returned (.bool true) ∧ Below W.heap.size W w' := fun W hB => by
              have := implMemOk _ _ _ (5 - 1) c' (ms.take k ++ ms.drop (k + 1)) W (HMx.out.same (below_sameIn hB (Nat.le_refl _))) hB.size (by omega)
              rwa [hokx] at this
            clear hA1 hA2 hz1 hz2 HMx hMb
            go_wp2_with (fail)
            refine hC1.mono ?_
            rintro e v5 ⟨rfl, B5⟩
            go_wp2_with (fail)
            refine (hC2 _ B5).mono ?_
            rintro e v6 ⟨rfl, B6⟩
            have C6 := B5.trans (B6.mono B5.size)
            go_wp2_with (fail)
            refine (hOk _ C6).mono ?_
            rintro e v7 ⟨rfl, B7⟩
            have C7 := C6.trans (B7.mono C6.size)
            have B07 := B0b.trans (C7.mono B0b.size)
            go_wp2
            go_ret
            exact ⟨rfl, B07⟩
      · have hki : (k : Int) < 6 := by omega
        have hk5 : (len1 : Int) % 6 = (k : Int) := by omega
        have hkc1 : (k : Int) ≤ (c : Int) := by omega
        have hkc2 : ¬ (c : Int) < (k : Int) := by omega
        have hcI : (6 : Int) ≤ (c : Int) := by omega
        have hwr : IntKind.i64.wrap ((k : Int) + 1) = ((k + 1 : Nat) : Int) := by
          simp [IntKind.wrap, IntKind.bits, IntKind.signed]
          omega
        have hlo5 : 0 ≤ (k : Int) + 1 := by omega
        have hhi5 : (k : Int) + 1 ≤ 6 := by omega
        clear hkk
        go_wp2_with (fail)
        go_region_law (first | (refine step_append_mine rfl (.tmp 47) (.tmp 50) 23 rfl v3.heap.size 49 i1 (.slice none 0 0) 1 24 Try.underlying23 hi1 hy0 hy1 hy2 rfl (by decide) _ _ _ rfl own0 ⟨T, o, none⟩ k c (vs.take k) rfl (by simp; omega) HN1 (fun u hu => hv1 u (List.mem_of_mem_take hu)) (by unfold maxLen; omega) (by omega) (by simp) ?_; intro va wa owna growa; rw [Nat.zero_add, List.nil_append] at owna; have Ba : Below v3.heap.size v3 wa := Below.grown B4 growa (by simp) (fun j hj => (own0.lt _ hj).1); have HN2 := drop_vals Ba hTv hvc (k + 1)) | (refine step_append_mine rfl (.tmp 51) (.tmp 55) 23 rfl v3.heap.size 49 i1 (.slice none 0 0) 1 24 Try.underlying23 hi1 hy0 hy1 hy2 rfl (by decide) _ _ _ rfl owna ⟨T, o + (k + 1), none⟩ (5 - k) (c - (k + 1)) (vs.drop (k + 1)) rfl (by simp; omega) HN2 (fun u hu => hv1 u (List.mem_of_mem_drop hu)) (by unfold maxLen; omega) (by omega) Ba.size ?_; intro vb wb ownb growb))
        all_goals
          have Bb : Below v3.heap.size v3 wb := Below.grown Ba growb Ba.size (fun j hj => (owna.lt _ hj).1)
          rw [show k + (5 - k) = 6 - 1 by omega] at ownb
          obtain ⟨T', c', hvb, hMx⟩ := part_mem hvl hlm hk (by omega) hvi s2 B02.size Bb ownb
          subst hvb
          have B0b := B02.trans (Bb.mono B02.size)
          have hMb := hM2.same (below_sameIn Bb s2)
          have sb := Nat.le_trans s2 Bb.size
          have HMx : Hid (IsMem wb w.heap.size wb.heap.size (some ⟨T', 0, none⟩) (6 - 1) (ms.take k ++ ms.drop (k + 1))) := hMx
          have hokx := okM_part hok k
          clear hMx ownb growb owna growa Ba Bb HN2 HN1 own0 B4 hvc hvi hv1
          by_cases hk1 : k + 1 = 6
          · have hk1i : (k : Int) + 1 = 6 := by omega
            have hOk := implMemOk _ _ _ (6 - 1) c' (ms.take k ++ ms.drop (k + 1)) wb HMx.out (Nat.le_refl _) (by omega)
            rw [hokx] at hOk
            go_wp2_with (fail)
            refine hOk.mono ?_
            rintro e v5 ⟨rfl, B5⟩
            have B05 := B0b.trans (B5.mono B0b.size)
            go_wp2
            go_ret
            exact ⟨rfl, B05⟩
          · have hk1i : ¬ (k : Int) + 1 = 6 := by omega
            have hA1 : atB ms ((k : Int) + 1) 0 = true := by
              rw [atB, hok, hlm]
              simp [placeB]
              omega
            have hA2 : atB (ms.take k ++ ms.drop (k + 1)) (k : Int) 0 = true := by
              rw [atB, hokx, HMx.out.1]
              simp [placeB]
              omega
            have hz1 : atZ ms ((k : Int) + 1) 0 = atM ms (k + 1) 0 := by
              simp only [atZ, hA1, cond_true]
              congr 1
            have hz2 : atZ (ms.take k ++ ms.drop (k + 1)) (k : Int) 0 = atM ms (k + 1) 0 := by
              simp only [atZ, hA2, cond_true]
              exact atM_part (by omega) 0
            have hC1 := implMemAt _ _ _ 6 c ms ((k : Int) + 1) 0 wb hMb sb (by omega)
            rw [hA1, hz1] at hC1
            have hC2 : ∀ W, Below wb.heap.size wb W → Calls Try.prog 8 #[.slice (some ⟨T', 0, none⟩) (6 - 1) c', .int .i64 k, .int .i64 0] W fun e w' => e = .returned (.tuple #[.int .i64 (atM ms (k + 1) 0), .bool true]) ∧ Below W.heap.size W w' := fun W hB => by
              have := implMemAt _ _ _ (6 - 1) c' (ms.take k ++ ms.drop (k + 1)) (k : Int) 0 W (HMx.out.same (below_sameIn hB (Nat.le_refl _))) hB.size (by omega)
              rwa [hA2, hz2] at this
            have hOk : ∀ W, Below wb.heap.size wb W → Calls Try.prog 21 #[.slice (some ⟨T', 0, none⟩) (6 - 1) c'] W fun e w' => e = .returned (.bool true) ∧ Below W.heap.size W w' := fun W hB => by
              have := implMemOk _ _ _ (6 - 1) c' (ms.take k ++ ms.drop (k + 1)) W (HMx.out.same (below_sameIn hB (Nat.le_refl _))) hB.size (by omega)
              rwa [hokx] at this
            clear hA1 hA2 hz1 hz2 HMx hMb
            go_wp2_with (fail)
            refine hC1.mono ?_
            rintro e v5 ⟨rfl, B5⟩
            go_wp2_with (fail)
            refine (hC2 _ B5).mono ?_
            rintro e v6 ⟨rfl, B6⟩
            have C6 := B5.trans (B6.mono B5.size)
            go_wp2_with (fail)
            refine (hOk _ C6).mono ?_
            rintro e v7 ⟨rfl, B7⟩
            have C7 := C6.trans (B7.mono C6.size)
            have B07 := B0b.trans (C7.mono B0b.size)
            go_wp2
            go_ret
            exact ⟨rfl, B07⟩
end Go.Proofs.Ytofiajllhffjcad
