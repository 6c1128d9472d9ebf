/-
  What the given HostLoad and HostNew do.
-/
import Derived.Test.YtpaeigmdhmmjmaaKHostMake0
set_option linter.unusedSimpArgs false
namespace Go.Proofs.Ytpaeigmdhmmjmaa
open Go.RowKit
attribute [local go_sem ↓] Go.wp_at_zero Go.wp_at_succ exec_app
attribute [local go_sem] bigNext_ok

/-- Guests told by the values that lead to them, each in memory of its own, in which the row does not lie. -/
def GuestsVs (w : World) (row : Option Nat) (lo hi k : Nat) (gs : List Gst) (vs : List Value) : Prop :=
  ∃ ps qs : Nat → Nat, (∀ i, i < k → lo ≤ ps i ∧ qs i ≤ hi ∧ ∀ T, row = some T → (T < ps i ∨ qs i ≤ T)) ∧ (∀ i j, i < j → j < k → qs i ≤ ps j) ∧ ∀ i, i < k → ∃ vm vd vq, vs[i * 3]? = some vm ∧ vs[i * 3 + 1]? = some vd ∧ vs[i * 3 + 2]? = some vq ∧ OwnGuest w (ps i) (qs i) vm vd vq (gs.getD i noG)
theorem GuestsVs.nil (w : World) (row : Option Nat) (lo hi : Nat) (gs : List Gst) (vs : List Value) : GuestsVs w row lo hi 0 gs vs := ⟨fun _ => 0, fun _ => 0, fun i hi => by omega, fun i j _ _ => by omega, fun i hi => by omega⟩
theorem GuestsVs.step {wr w' w1 : World} {lo k g : Nat} {gs : List Gst} {vs : List Value} {row : Option Nat} {o : Obj} {vm vd vq : Value} (h : GuestsVs wr row lo wr.heap.size k gs vs) (hvs : vs.length = k * 3) (hlt : ∀ T, row = some T → T < wr.heap.size) (hlo : lo ≤ wr.heap.size)
    (B : Below wr.heap.size wr w') (hG : OwnGuest w' wr.heap.size w'.heap.size vm vd vq (gs.getD k noG)) (hg : (w'.alloc o).grownBy w1 row) (hat : row = some g ∨ g = w'.heap.size + 1) : GuestsVs w1 (some g) lo w1.heap.size (k + 1) gs (vs ++ [vm, vd, vq]) := by
  obtain ⟨ps, qs, h1, h2, h3⟩ := h
  have hs1 := hg.size
  rw [World.size_alloc] at hs1
  have hsB := B.size
  have sm : ∀ a b, b ≤ w'.heap.size → (∀ T, row = some T → (T < a ∨ b ≤ T)) → SameIn a b w' w1 := fun a b hb hT j j1 j2 => by
    rw [hg.block j (by rw [World.size_alloc]; omega) (fun e => by have := hT j e.symm; omega)]
    exact ((Below.refl w'.heap.size w').alloc (Nat.le_refl _) o).block j (by omega)
  obtain ⟨ps', e1, e2⟩ : ∃ ps' : Nat → Nat, ps' k = wr.heap.size ∧ ∀ i, i ≠ k → ps' i = ps i := ⟨fun i => if i = k then wr.heap.size else ps i, by simp, fun i h => by simp [h]⟩
  obtain ⟨qs', f1, f2⟩ : ∃ qs' : Nat → Nat, qs' k = w'.heap.size ∧ ∀ i, i ≠ k → qs' i = qs i := ⟨fun i => if i = k then w'.heap.size else qs i, by simp, fun i h => by simp [h]⟩
  refine ⟨ps', qs', fun i hi => ?_, fun i j hij hj => ?_, fun i hi => ?_⟩
  · by_cases hik : i = k
    · rw [hik, e1, f1]
      refine ⟨hlo, by omega, fun T hT => ?_⟩
      cases hT
      rcases hat with hat | hat
      · have := hlt g hat; omega
      · omega
    · rw [e2 i hik, f2 i hik]
      obtain ⟨a, b, c⟩ := h1 i (by omega)
      refine ⟨a, by omega, fun T hT => ?_⟩
      cases hT
      rcases hat with hat | hat
      · exact c g hat
      · omega
  · rw [f2 i (by omega)]
    have := (h1 i (by omega)).2.1
    by_cases hjk : j = k
    · rw [hjk, e1]; exact this
    · rw [e2 j hjk]; exact h2 i j hij (by omega)
  · by_cases hik : i = k
    · subst hik
      refine ⟨vm, vd, vq, ?_, ?_, ?_, ?_⟩
      · rw [List.getElem?_append_right (by omega), hvs]; simp
      · rw [List.getElem?_append_right (by omega), hvs, show i * 3 + 1 - i * 3 = 1 by omega]; rfl
      · rw [List.getElem?_append_right (by omega), hvs, show i * 3 + 2 - i * 3 = 2 by omega]; rfl
      · rw [e1, f1]
        exact hG.same (sm _ _ (Nat.le_refl _) (fun T hT => Or.inl (hlt T hT)))
    · obtain ⟨a, b, c, c0, c1, c2, hO⟩ := h3 i (by omega)
      obtain ⟨q1, q2, q3⟩ := h1 i (by omega)
      refine ⟨a, b, c, ?_, ?_, ?_, ?_⟩
      · rw [List.getElem?_append_left (by omega)]; exact c0
      · rw [List.getElem?_append_left (by omega)]; exact c1
      · rw [List.getElem?_append_left (by omega)]; exact c2
      · rw [e2 i hik, f2 i hik]
        exact (hO.same (below_sameIn B (by omega))).same (sm _ _ (by omega) q3)
theorem GuestsVs.put {w : World} {row : Option Nat} {lo hi k : Nat} {gs : List Gst} {vs : List Value} (h : GuestsVs w row lo hi k gs vs) {b j : Nat} (hb : b < lo) (u : Value) : GuestsVs (w.setCell ⟨b, j, none⟩ u) row lo hi k gs vs := by
  obtain ⟨ps, qs, h1, h2, h3⟩ := h
  refine ⟨ps, qs, h1, h2, fun i hi => ?_⟩
  obtain ⟨vm, vd, vq, c0, c1, c2, hO⟩ := h3 i hi
  have := (h1 i hi).1
  exact ⟨vm, vd, vq, c0, c1, c2, hO.same fun k h1 h2 => Below.heap_setCell _ _ _ _ (by simp; omega)⟩
theorem GuestsVs.guests {w : World} {lo hi n cg T lo' : Nat} {gs : List Gst} {vs : List Value} {t : TypeId} (h : GuestsVs w (some T) lo hi n gs vs) (ho : w.ownsRow lo' t 3 (.slice (some ⟨T, 0, none⟩) n cg) n vs) : GuestsUp w T lo hi n gs := by
  obtain ⟨ps, qs, h1, h2, h3⟩ := h
  refine ⟨ps, qs, fun i hi => ⟨(h1 i hi).1, (h1 i hi).2.1, (h1 i hi).2.2 T rfl⟩, h2, fun i hi => ?_⟩
  obtain ⟨vm, vd, vq, c0, c1, c2, hO⟩ := h3 i hi
  have k0 := ho.cells rfl _ _ c0
  have k1 := ho.cells rfl _ _ c1
  have k2 := ho.cells rfl _ _ c2
  rw [ad0] at k0 k1 k2
  exact ⟨vm, vd, vq, k0, k1, k2, hO⟩

theorem IsMem.part {w : World} {lo hi b o n : Nat} {ms : List (List Int)} (h : IsMem w lo hi (some ⟨b, o, none⟩) n ms) {k l : Nat} (hk : k + l ≤ n) : IsMem w lo hi (some ⟨b, o + k, none⟩) l ((ms.drop k).take l) := by
  obtain ⟨hl, h⟩ := h
  refine ⟨by rw [List.length_take, List.length_drop]; omega, ?_⟩
  rcases h with h | ⟨b', o', e, g1, g2, h⟩
  · exact Or.inl (by omega)
  · cases e
    refine Or.inr ⟨b, o + k, rfl, g1, g2, fun i hi => ?_⟩
    obtain ⟨a, m, c, q, hI⟩ := h (k + i) (by omega)
    refine ⟨a, m, c, by rw [Nat.add_assoc]; exact q, ?_⟩
    have : ((ms.drop k).take l).getD i [] = ms.getD (k + i) [] := by
      simp only [List.getD_eq_getElem?_getD]
      rw [List.getElem?_take_of_lt hi, List.getElem?_drop]
    rw [this]
    exact hI

set_option maxHeartbeats 2000000 in
theorem specHostLoad_no (lo hi : Nat) (a : Option Addr) (len cap : Nat) (ms : List (List Int)) (w : World) (h : IsMem w lo hi a len ms) (hh : hi ≤ w.heap.size) (hn : len ≤ 1048576) (hL : ∀ i, i < len → (ms.getD i []).length ≤ 1048576) (hb : loadB ms = false) :
    Calls Try.prog 23 #[.slice a len cap] w fun e w' => e = .returned (.tuple #[.agg #[.slice none 0 0, .slice none 0 0, .int .i64 0], .bool false]) ∧ Below w.heap.size w w' := by
  have B0 : Below w.heap.size w (w.alloc (.cells #[.slice none 0 0, .slice none 0 0, .int .i64 0] 25)) := (Below.refl _ _).alloc (Nat.le_refl _) _
  have hMk := specMemOk lo hi a len cap ms _ (h.same (below_sameIn B0 hh)) hn hL
  cases ho : okM ms
  · rw [ho] at hMk
    go_enter Try.func23, Try.ntmps23
    go_wp2_with (fail)
    refine hMk.mono ?_
    rintro e w1 ⟨rfl, rfl⟩
    go_wp2
    refine bodyPost_ret (v := .tuple #[.agg #[.slice none 0 0, .slice none 0 0, .int .i64 0], .bool false]) (by simp [results, Try.results23, go_sem, *]) rfl ⟨rfl, ?_⟩
    (repeat' (with_reducible (first | exact Below.refl _ _ | apply Below.setCell | apply Below.alloc | apply below_drewN | apply Below.drew))) <;> (first | exact Nat.le_refl _ | (simp; done) | (simp; omega))
  · rw [ho] at hMk
    by_cases h6 : len % 6 = 0
    · obtain ⟨n, rfl⟩ : ∃ n, len = n * 6 := ⟨len / 6, by omega⟩
      have hI := specIn n 1 2
      rw [show (decide (1 ≤ (n : Int)) && decide ((n : Int) ≤ 2)) = false by
        cases hx : (decide (1 ≤ (n : Int)) && decide ((n : Int) ≤ 2))
        · rfl
        · simp only [Bool.and_eq_true, decide_eq_true_eq] at hx
          have := (loadB_nat h.1).2 ⟨n, rfl, by omega, by omega, ho⟩
          rw [hb] at this
          cases this] at hI
      go_enter Try.func23, Try.ntmps23
      go_wp2_with (fail)
      refine hMk.mono ?_
      rintro e w1 ⟨rfl, rfl⟩
      go_wp2_with (fail)
      refine (hI _).mono ?_
      rintro e w1 ⟨rfl, rfl⟩
      go_wp2
      refine bodyPost_ret (v := .tuple #[.agg #[.slice none 0 0, .slice none 0 0, .int .i64 0], .bool false]) (by simp [results, Try.results23, go_sem, *]) rfl ⟨rfl, ?_⟩
      (repeat' (with_reducible (first | exact Below.refl _ _ | apply Below.setCell | apply Below.alloc | apply below_drewN | apply Below.drew))) <;> (first | exact Nat.le_refl _ | (simp; done) | (simp; omega))
    · have h1 : ((len : Int).tmod 6 != 0) = true := by rw [Int.tmod_eq_emod_of_nonneg (by omega)]; simp; omega
      have h2 : ((len : Int) % 6 != 0) = true := by simp; omega
      go_enter Try.func23, Try.ntmps23
      go_wp2_with (fail)
      refine hMk.mono ?_
      rintro e w1 ⟨rfl, rfl⟩
      go_wp2
      refine bodyPost_ret (v := .tuple #[.agg #[.slice none 0 0, .slice none 0 0, .int .i64 0], .bool false]) (by simp [results, Try.results23, go_sem, *]) rfl ⟨rfl, ?_⟩
      (repeat' (with_reducible (first | exact Below.refl _ _ | apply Below.setCell | apply Below.alloc | apply below_drewN | apply Below.drew))) <;> (first | exact Nat.le_refl _ | (simp; done) | (simp; omega))

/-- What the given HostLoad has behind k guests. -/
def LoadUp (w wr : World) (X k : Nat) (af : Option Addr) (cf : Nat) (ag : Option Addr) (cg : Nat) (gs : List Gst) : Prop :=
  Var3 wr X (.slice af 8 cf) (.slice ag k cg) (.int .i64 0) ∧ Var3 wr w.heap.size (.slice none 0 0) (.slice none 0 0) (.int .i64 0) ∧ OwnMem wr (w.heap.size + 1) X af 8 (zeroM 8) ∧ X < wr.heap.size ∧ w.heap.size < X ∧ Below w.heap.size w wr ∧
  ∃ vs, wr.ownsRow (X + 1) 54 3 (.slice ag k cg) k vs ∧ GuestsVs wr (Value.slice ag k cg).ownBlock (X + 1) wr.heap.size k gs vs

theorem loadUp_app {w wr W w' : World} {X k : Nat} {af : Option Addr} {cf : Nat} {ag : Option Addr} {cg : Nat} {gs : List Gst} (h : LoadUp w wr X k af cf ag cg gs) (hk : k ≤ 1000) (BW : Below wr.heap.size wr W) (hW : W.heap.size = wr.heap.size) (B : Below W.heap.size W w') {bm cm cd bs cs : Nat} {ad : Option Addr}
    (hG : OwnGuest w' W.heap.size w'.heap.size (.slice (some ⟨bm, 0, none⟩) 6 cm) (.slice ad 6 cd) (.slice (some ⟨bs, 0, none⟩) 6 cs) (gs.getD k noG)) :
    w'.cell? ⟨X, 1, none⟩ = some (.slice ag k cg) ∧ X < w'.heap.size ∧ ∃ g cap w1, appRun Try.prog 23 23 (.slice ag k cg) (.slice (some ⟨w'.heap.size, 0, none⟩) 1 1) (w'.alloc (.cells #[.slice (some ⟨bm, 0, none⟩) 6 cm, .slice ad 6 cd, .slice (some ⟨bs, 0, none⟩) 6 cs] 54)) = .ok (.slice (some ⟨g, 0, none⟩) (k + 1) cap) w1 ∧
      w1.cell? ⟨X, 1, none⟩ = some (.slice ag k cg) ∧ w1.frozen? ⟨X, 1, none⟩ = false ∧ Hid (LoadUp w (w1.setCell ⟨X, 1, none⟩ (.slice (some ⟨g, 0, none⟩) (k + 1) cap)) X (k + 1) af cf (some ⟨g, 0, none⟩) cap gs) := by
  obtain ⟨hX, h0, hM, hXl, hwX, hB, vs, hown, hgv⟩ := h
  obtain ⟨i0, hi0, hz0, hz1, hz2⟩ := info_parts infoG
  have BB : Below wr.heap.size wr w' := BW.trans (B.mono (Nat.le_of_eq hW.symm))
  have hs := BB.size
  have hown2 : (w'.alloc (.cells #[.slice (some ⟨bm, 0, none⟩) 6 cm, .slice ad 6 cd, .slice (some ⟨bs, 0, none⟩) 6 cs] 54)).ownsRow (X + 1) 54 3 (.slice ag k cg) k vs := by
    refine World.ownsRow.alloc (hown.kept (below_grown BB) ?_) _
    cases (Value.slice ag k cg).ownBlock
    · exact Or.inl rfl
    · exact Or.inr (by simp)
  have hnews := World.news_of_block (heap_alloc_new w' (.cells #[.slice (some ⟨bm, 0, none⟩) 6 cm, .slice ad 6 cd, .slice (some ⟨bs, 0, none⟩) 6 cs] 54))
  obtain ⟨g, cap, w1, hrun, hown1, hgrow, hat, hlt⟩ := run_append_lies (P := Try.prog) (w'.alloc (.cells #[.slice (some ⟨bm, 0, none⟩) 6 cm, .slice ad 6 cd, .slice (some ⟨bs, 0, none⟩) 6 cs] 54)) 23 23 (X + 1) 54 i0 _ 3 72 Try.underlying23 hi0 hz0 hz1 hz2 rfl (by decide) _ k vs hown2 ⟨w'.heap.size, 0, none⟩ 1 1 [.slice (some ⟨bm, 0, none⟩) 6 cm, .slice ad 6 cd, .slice (some ⟨bs, 0, none⟩) 6 cs] rfl hnews (by simp [Value.oneCell']) (by decide) (by unfold maxLen; omega) (by omega) (by simp; omega) (w'.heap.size + 1) (by simp)
  have hne : some X ≠ (Value.slice ag k cg).ownBlock := fun e => by have := (hown.lt _ e.symm).1; omega
  have hne0 : some w.heap.size ≠ (Value.slice ag k cg).ownBlock := fun e => by have := (hown.lt _ e.symm).1; omega
  have hX' := hX.same (BB.block X hXl)
  have hX1 : Var3 w1 X (.slice af 8 cf) (.slice ag k cg) (.int .i64 0) := (hX'.allocK _).same (hgrow.block X (by simp; omega) hne)
  have h01 : Var3 w1 w.heap.size (.slice none 0 0) (.slice none 0 0) (.int .i64 0) := ((h0.same (BB.block _ (by omega))).allocK _).same (hgrow.block _ (by simp; omega) hne0)
  have hs1 := hgrow.size
  rw [World.size_alloc] at hs1
  refine ⟨hX'.2.1, by omega, g, cap, w1, hrun, hX1.2.1, hX1.2.2.2.2.1, hX1.put1 _, ?_, ?_, by rw [World.size_setCell]; omega, hwX, ?_, _, ownsRow_setCell_below hown1 (a := ⟨X, 1, none⟩) (Nat.lt_succ_self _) _, ?_⟩
  · exact h01.same (Below.heap_setCell _ _ _ _ (by simp; omega))
  · refine hM.same fun j j1 j2 => ?_
    rw [Below.heap_setCell _ _ _ _ (by simp; omega), hgrow.block j (by simp; omega) (fun e => by have := (hown.lt _ e.symm).1; omega), ((Below.refl w'.heap.size w').alloc (Nat.le_refl _) _).block j (by omega)]
    exact BB.block j (by omega)
  · refine Below.setCell ?_ (p := ⟨X, 1, none⟩) (Nat.le_of_lt hwX) _
    exact Below.grown ((hB.trans (BB.mono hB.size)).alloc (by omega) _) hgrow (by simp; omega) (fun j hj => by have := (hown2.lt _ hj).1; omega)
  · rw [World.size_setCell]
    refine GuestsVs.put ?_ (Nat.lt_succ_self _) _
    have hvl : vs.length = k * 3 := hown.1
    rw [hW] at hG
    exact GuestsVs.step hgv hvl (fun T hT => (hown.lt _ hT).2) (by omega) BB hG hgrow hat

set_option maxRecDepth 100000 in
set_option maxHeartbeats 8000000 in
theorem specHostLoad_yes (lo hi : Nat) (b o n cap : Nat) (ms : List (List Int)) (w : World) (h : IsMem w lo hi (some ⟨b, o, none⟩) (n * 6) ms) (hh : hi ≤ w.heap.size) (ho : okM ms = true) (hn1 : 1 ≤ n) (hn2 : n ≤ 2) (hcap : n * 6 ≤ cap) :
    Calls Try.prog 23 #[.slice (some ⟨b, o, none⟩) (n * 6) cap] w fun e w' => ∃ vf vg, e = .returned (.tuple #[.agg #[vf, vg, .int .i64 0], .bool true]) ∧ OwnHost w' w.heap.size w'.heap.size vf vg ⟨zeroM 8, (List.range n).map (ldG ms), 0⟩ ∧ Below w.heap.size w w' := by
  have B0 : Below w.heap.size w (w.alloc (.cells #[.slice none 0 0, .slice none 0 0, .int .i64 0] 25)) := (Below.refl _ _).alloc (Nat.le_refl _) _
  have hL : ∀ i, i < n * 6 → (ms.getD i []).length = 4 := fun i hi => (okM_get ho (by rw [h.1]; exact hi)).1
  have hMk := specMemOk lo hi _ (n * 6) cap ms _ (h.same (below_sameIn B0 hh)) (by omega) (fun i hi => by rw [hL i hi]; omega)
  rw [ho] at hMk
  have hI := specIn n 1 2
  rw [show (decide (1 ≤ (n : Int)) && decide ((n : Int) ≤ 2)) = true by simp; omega] at hI
  have hgs : ∀ k, k < n → ((List.range n).map (ldG ms)).getD k noG = outG ((ms.drop (k * 6)).take 6) := fun i hi => by simp [List.getD_eq_getElem?_getD, hi, ldG, outG]
  have hgl : ((List.range n).map (ldG ms)).length = n := by simp
  generalize (List.range n).map (ldG ms) = gs at hgs hgl
  go_enter Try.func23, Try.ntmps23
  go_wp2_with (fail)
  refine hMk.mono ?_
  rintro e w1 ⟨rfl, rfl⟩
  go_wp2_with (fail)
  refine (hI _).mono ?_
  rintro e w1 ⟨rfl, rfl⟩
  go_wp2_with (fail)
  refine (specNew _).mono ?_
  rintro e w2 ⟨af, cf, rfl, hM2, B2⟩
  rw [World.size_alloc] at hM2 B2
  clear hMk hI
  go_wp2_with (fail)
  go_loopw [6] (fun i wr => ∃ k : Nat, ∃ ag cg, k ≤ n ∧ i = .int .i64 k ∧ Hid (LoadUp w wr w2.heap.size k af cf ag cg gs)) (fun i _ => n - (intOf i).toNat)
  case atStart =>
    go_light
    have hs2 := B2.size
    rw [World.size_alloc] at hs2
    refine ⟨0, none, 0, Nat.zero_le _, rfl, var3_newK rfl, ?_, ?_, by simp, by omega, ?_, [], World.ownsRow_nil _ _ _ _, GuestsVs.nil _ _ _ _ _ _⟩
    · exact Var3.allocK ((var3_new w (.slice none 0 0) (.slice none 0 0) (.int .i64 0) 25).same (B2.block _ (by omega))) _
    · exact hM2.same (below_sameIn ((Below.refl _ _).alloc (Nat.le_refl _) _) (Nat.le_refl _))
    · exact (B0.trans (B2.mono (Nat.le_succ _))).alloc (by omega) _
  case round =>
    obtain ⟨k, ag, cg, hk, rfl, hU⟩ := hrel
    by_cases hkl : k < n
    · have hki : (k : Int) < (n : Int) := by omega
      have hU' := hU.out
      obtain ⟨⟨x0, x1, x2, y0, y1, y2⟩, _, _, hXl, hwX, hB, _⟩ := hU'
      have hCg : ∀ W, Below wr.heap.size wr W → W.heap.size = wr.heap.size → Calls Try.prog 33 #[.slice (some ⟨b, o + k * 6, none⟩) 6 (cap - k * 6)] W fun e w' => ∃ bm cm ad cd bs cs, e = .returned (.agg #[.slice (some ⟨bm, 0, none⟩) 6 cm, .slice ad 6 cd, .slice (some ⟨bs, 0, none⟩) 6 cs]) ∧ w'.cell? ⟨w2.heap.size, 1, none⟩ = some (.slice ag k cg) ∧ w2.heap.size < w'.heap.size ∧ ∃ g cap w1, appRun Try.prog 23 23 (.slice ag k cg) (.slice (some ⟨w'.heap.size, 0, none⟩) 1 1) (w'.alloc (.cells #[.slice (some ⟨bm, 0, none⟩) 6 cm, .slice ad 6 cd, .slice (some ⟨bs, 0, none⟩) 6 cs] 54)) = .ok (.slice (some ⟨g, 0, none⟩) (k + 1) cap) w1 ∧
          w1.cell? ⟨w2.heap.size, 1, none⟩ = some (.slice ag k cg) ∧ w1.frozen? ⟨w2.heap.size, 1, none⟩ = false ∧ Hid (LoadUp w (w1.setCell ⟨w2.heap.size, 1, none⟩ (.slice (some ⟨g, 0, none⟩) (k + 1) cap)) w2.heap.size (k + 1) af cf (some ⟨g, 0, none⟩) cap gs) := fun W hBW hsW => by
        have hBB := hB.trans (hBW.mono hB.size)
        refine (specGuest12 lo hi _ (cap - k * 6) _ W ((h.part (k := k * 6) (l := 6) (by omega)).same (below_sameIn hBB hh)) (Nat.le_trans hh hBB.size) (fun i hi => ?_)).mono ?_
        · have : ((ms.drop (k * 6)).take 6).getD i [] = ms.getD (k * 6 + i) [] := by
            simp only [List.getD_eq_getElem?_getD]
            rw [List.getElem?_take_of_lt hi, List.getElem?_drop]
          rw [this, hL _ (by omega)]
          omega
        · rintro e w' ⟨vm, vd, vs, rfl, hG, B'⟩
          have hG' := hG
          obtain ⟨bm, bs, cm, cs, ad, cd, d0, d1, rfl, rfl, rfl, _⟩ := hG'
          have hd6 : (outG ((ms.drop (k * 6)).take 6)).disk.length = 6 := by
            show ((ms.drop (k * 6)).take 6).length = 6
            rw [List.length_take, List.length_drop]; have := h.1; omega
          rw [hd6] at hG
          have hG2 : OwnGuest w' W.heap.size w'.heap.size (.slice (some ⟨bm, 0, none⟩) 6 cm) (.slice ad 6 cd) (.slice (some ⟨bs, 0, none⟩) 6 cs) (gs.getD k noG) := by
            rw [hgs k hkl]
            exact hG
          obtain ⟨q1, q2, q3⟩ := loadUp_app hU.out (by omega) hBW hsW B' hG2
          exact ⟨bm, cm, ad, cd, bs, cs, by rw [hd6]; rfl, q1, q2, q3⟩
      have hb1 : (0 : Int) ≤ (k : Int) * 6 := by omega
      have hb2 : (k : Int) * 6 ≤ ((k : Int) + 1) * 6 := by omega
      have hb3 : ((k : Int) + 1) * 6 ≤ (cap : Int) := by omega
      have hw1 : IntKind.i64.wrap ((k : Int) * 6) = (k : Int) * 6 := wrap_small _ (by omega) (by omega)
      have hw2 : IntKind.i64.wrap ((k : Int) + 1) = (k : Int) + 1 := wrap_small _ (by omega) (by omega)
      have hw3 : IntKind.i64.wrap (((k : Int) + 1) * 6) = ((k : Int) + 1) * 6 := wrap_small _ (by omega) (by omega)
      have h6e : (k + 1) * 6 - k * 6 = 6 := by omega
      go_wp2_with (fail)
      go_region_with (go_at_call 33; refine (hCg _ ((Below.refl _ _).drew) rfl).mono ?_; rintro e w5 ⟨bm, cm, ad, cd, bs, cs, rfl, z1, z2, g, cp, w6, hApp, x6, f6, HN⟩)
      all_goals
        clear hApp hCg
        go_wp2
        go_roundw
        case rel => exact ⟨k + 1, _, _, by omega, by go_num, HN⟩
        case measure => simp [intOf]; omega
    · have hkk : k = n := by omega
      subst hkk
      obtain ⟨⟨x0, x1, x2, y0, y1, y2⟩, ⟨d0, d1, d2, e0, e1, e2⟩, hM, hXl, hwX, hB, vs, hown, hgv⟩ := hU.out
      obtain ⟨T, cg', e, hT1, hT2⟩ := hown.form (by omega)
      cases e
      have hwb : w.heap.size < wr.heap.size := by omega
      have HO : Hid (OwnHost wr (w.heap.size + 1) wr.heap.size (.slice af 8 cf) (.slice (some ⟨T, 0, none⟩) k cg) ⟨zeroM 8, gs, 0⟩) :=
        ⟨af, cf, _, _, rfl, hM, Nat.le_refl _, by omega, _, cg, by rw [hgl], Or.inr ⟨T, w2.heap.size + 1, rfl, by omega, hT2, Or.inr (by omega), by omega, by omega, by rw [hgl]; exact hgv.guests hown⟩⟩
      clear hM hown hgv hU
      go_wp2
      refine bodyPost_ret (v := .tuple #[.agg #[.slice af 8 cf, .slice (some ⟨T, 0, none⟩) k cg, .int .i64 0], .bool true]) (by simp [results, Try.results23, go_sem, *]) rfl ?_
      have s5 : SameIn (w.heap.size + 1) wr.heap.size wr (((wr.setCell ⟨w.heap.size, 0, none⟩ (.slice af 8 cf)).setCell ⟨w.heap.size, 1, none⟩ (.slice (some ⟨T, 0, none⟩) k cg)).setCell ⟨w.heap.size, 2, none⟩ (.int .i64 0)) := fun j k1 k2 => by
        rw [Below.heap_setCell _ _ _ _ (by simp; omega), Below.heap_setCell _ _ _ _ (by simp; omega), Below.heap_setCell _ _ _ _ (by simp; omega)]
      refine ⟨_, _, rfl, OwnHost.wide (lo := w.heap.size + 1) (hi := wr.heap.size) (OwnHost.same s5 HO.out) (by omega) (by simp), ?_⟩
      exact ((hB.setCell (p := ⟨w.heap.size, 0, none⟩) (Nat.le_refl _) _).setCell (p := ⟨w.heap.size, 1, none⟩) (Nat.le_refl _) _).setCell (p := ⟨w.heap.size, 2, none⟩) (Nat.le_refl _) _
end Go.Proofs.Ytpaeigmdhmmjmaa
