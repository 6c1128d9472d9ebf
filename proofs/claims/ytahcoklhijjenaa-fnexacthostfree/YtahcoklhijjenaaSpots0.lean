/-
  Who is in which frame: a map from frames to lists of spots, each list in a row of its own; looked up, and one spot more.
-/
import Derived.Test.YtahcoklhijjenaaHostVal0
import Derived.Maps.Keyed
set_option linter.unusedSimpArgs false
namespace Go.Proofs.Ytahcoklhijjenaa
open Go.RowKit Go.Maps
open Go.ChangeMaps (setBlock modify_eq_set)

def spC (l : List (Nat × Nat)) : List Value := l.flatMap fun x => [.int .i64 (x.1 : Int), .int .i64 (x.2 : Int)]
theorem spC_len (l : List (Nat × Nat)) : (spC l).length = l.length * 2 := flatMap_len _ 2 (fun _ => rfl) l
theorem spC_snoc (l : List (Nat × Nat)) (g p : Nat) : spC (l ++ [(g, p)]) = spC l ++ [.int .i64 (g : Int), .int .i64 (p : Int)] := by simp [spC]

/-- One spot more at a frame. -/
def addS (S : Int → List (Nat × Nat)) (f : Int) (x : Nat × Nat) (f' : Int) : List (Nat × Nat) := if f' = f then S f ++ [x] else S f'
theorem addS_same (S : Int → List (Nat × Nat)) (f : Int) (x : Nat × Nat) : addS S f x f = S f ++ [x] := if_pos rfl
theorem addS_other (S : Int → List (Nat × Nat)) {f f' : Int} (x : Nat × Nat) (h : f' ≠ f) : addS S f x f' = S f' := if_neg h

def Who (w : World) (lo r : Nat) (S : Int → List (Nat × Nat)) : Prop :=
  ∃ es clock, w.heap[r]? = some (.map es clock) ∧
    (∀ (i j : Nat) (e e' : MapEntry), es.toList[i]? = some e → es.toList[j]? = some e' → i ≠ j → e.key ≠ e'.key ∧ e.val.ownBlock ≠ e'.val.ownBlock) ∧
    (∀ e ∈ es.toList, ∃ f g c, e.key = .int .i64 f ∧ (Lit.int .i64 f).wf = true ∧ e.val = .slice (some ⟨g, 0, none⟩) (S f).length c ∧ S f ≠ [] ∧ w.ownsRow lo 121 2 e.val (S f).length (spC (S f))) ∧
    ∀ f, S f ≠ [] → ∃ e ∈ es.toList, e.key = .int .i64 f

theorem keyI : Keyed Try.prog 3 := int_keyed Try.underlying3
theorem zeroSp (w : World) : (zeroValue 108).run Try.prog w = .ok (.slice none 0 0) w := by kernel_rfl

theorem Who.new (w : World) (lo : Nat) : Who (w.alloc (.map #[] 0)) lo w.heap.size (fun _ => []) :=
  ⟨#[], 0, heap_alloc_new w _, fun i j e e' h => by simp at h, fun e he => by simp at he, fun f h => (h rfl).elim⟩
theorem Who.same {w w' : World} {lo r : Nat} {S : Int → List (Nat × Nat)} (h : Who w lo r S) {row : Option Nat} (hg : w.grownBy w' row) (hr : row ≠ some r) (hrow : ∀ T, row = some T → T < lo) : Who w' lo r S := by
  obtain ⟨es, clock, hb, hp, he, hf⟩ := h
  have hlt : r < w.heap.size := by
    rcases Nat.lt_or_ge r w.heap.size with h | h
    · exact h
    · rw [Array.getElem?_eq_none h] at hb; cases hb
  refine ⟨es, clock, (hg.block r hlt (fun e => hr e.symm)).trans hb, hp, fun e hm => ?_, hf⟩
  obtain ⟨f, g, c, e1, e2, e3, e4, e5⟩ := he e hm
  refine ⟨f, g, c, e1, e2, e3, e4, e5.kept hg (Or.inr fun e => ?_)⟩
  have h1 := e5.lt g (by rw [e3]; rfl)
  rw [e3] at e
  have := hrow g e.symm
  omega
theorem Who.lt {w : World} {lo r : Nat} {S : Int → List (Nat × Nat)} (h : Who w lo r S) : r < w.heap.size := by
  obtain ⟨es, clock, hb, _⟩ := h
  rcases Nat.lt_or_ge r w.heap.size with h | h
  · exact h
  · rw [Array.getElem?_eq_none h] at hb; cases hb

theorem keys_of {es : Array MapEntry} {S : Int → List (Nat × Nat)} {w : World} {lo : Nat} (he : ∀ e ∈ es.toList, ∃ f g c, e.key = .int .i64 f ∧ (Lit.int .i64 f).wf = true ∧ e.val = .slice (some ⟨g, 0, none⟩) (S f).length c ∧ S f ≠ [] ∧ w.ownsRow lo 121 2 e.val (S f).length (spC (S f))) :
    ∀ e ∈ es.toList, ∃ l, keyOf Try.prog 3 e.key = some l := fun e hm => by
  obtain ⟨f, g, c, e1, e2, _⟩ := he e hm
  exact ⟨_, by rw [e1]; exact keyOf_int_mk Try.underlying3 e2⟩

theorem grown_set {w1 : World} {r : Nat} {es es' : Array MapEntry} {clock clock' : Nat} (_hb : w1.heap[r]? = some (.map es clock)) : w1.grownBy (setBlock w1 r (.map es' clock')) (some r) :=
  ⟨rfl, rfl, rfl, by simp [setBlock], fun k _ hk => by
    have : r ≠ k := fun e => hk (by rw [e])
    simp [setBlock, Array.getElem?_setIfInBounds_ne this]⟩
theorem set_heap {w1 : World} {r : Nat} {es es' : Array MapEntry} {clock clock' : Nat} (hb : w1.heap[r]? = some (.map es clock)) : (setBlock w1 r (.map es' clock')).heap[r]? = some (.map es' clock') := by
  have hlt : r < w1.heap.size := by
    rcases Nat.lt_or_ge r w1.heap.size with h | h
    · exact h
    · rw [Array.getElem?_eq_none h] at hb; cases hb
  simp [setBlock, hlt]

/-- One look; and what a store at that frame does, behind an append to what was found. -/
theorem Who.look {w : World} {lo r : Nat} {S : Int → List (Nat × Nat)} (h : Who w lo r S) (f : Int) (hf : (Lit.int .i64 f).wf = true) :
    ∃ a c, (∀ w' : World, w'.heap[r]? = w.heap[r]? → (Instr.lookup 106 (.map (some r)) (.int .i64 f) false).run Try.prog w' = .ok (.slice a (S f).length c) w') ∧ w.ownsRow lo 121 2 (.slice a (S f).length c) (S f).length (spC (S f)) ∧
      (Value.slice a (S f).length c).ownBlock ≠ some r ∧
      ∀ (w1 : World) (x : Nat × Nat) (g c' : Nat), w.grownBy w1 (Value.slice a (S f).length c).ownBlock → ((Value.slice a (S f).length c).ownBlock = some g ∨ w.heap.size ≤ g) →
        w1.ownsRow lo 121 2 (.slice (some ⟨g, 0, none⟩) ((S f).length + 1) c') ((S f).length + 1) (spC (S f ++ [x])) →
        ∃ w2, (Instr.mapUpdate 106 (.map (some r)) (.int .i64 f) (.slice (some ⟨g, 0, none⟩) ((S f).length + 1) c')).run Try.prog w1 = .ok () w2 ∧ w1.grownBy w2 (some r) ∧ Who w2 lo r (addS S f x) := by
  have hlt := h.lt
  obtain ⟨es, clock, hb, hp, he, hfa⟩ := h
  have hkey := keyOf_int_mk Try.underlying3 hf
  have hne : ∀ e ∈ es.toList, e.val.ownBlock ≠ some r := fun e hm hc => by
    obtain ⟨f', g, c, e1, e2, e3, e4, e5⟩ := he e hm
    rw [e3] at hc e5
    have hg : g = r := by simpa [Value.ownBlock] using hc
    subst hg
    obtain ⟨_, hd⟩ := e5
    rcases hd with ⟨h0, _⟩ | ⟨g', c', cur, hv, _, hh, _⟩
    · cases h0
    · cases hv
      rw [hb] at hh
      cases hh
  have hold : ∀ e ∈ es.toList, ∃ g, e.val.ownBlock = some g ∧ g < w.heap.size := fun e hm => by
    obtain ⟨f', g, c, e1, e2, e3, e4, e5⟩ := he e hm
    exact ⟨g, by rw [e3]; rfl, (e5.lt g (by rw [e3]; rfl)).2⟩
  rcases keyI.find w hkey es.toList (keys_of he) with ⟨h1, h2⟩ | ⟨j, e0, h1, h2, h3⟩
  · have hS : S f = [] := by
      cases hq : S f with
      | nil => rfl
      | cons x l =>
        obtain ⟨e, hm, hk⟩ := hfa f (by rw [hq]; simp)
        exact (h2 e hm hk).elim
    rw [hS]
    have hlk : ∀ w' : World, w'.heap[r]? = w.heap[r]? → (Instr.lookup 106 (.map (some r)) (.int .i64 f) false).run Try.prog w' = .ok (.slice none 0 0) w' := fun w' hw' => by
      have h1' : (Instr.findKey 3 (.int .i64 f) es.toList).run Try.prog w' = .ok none w' := by
        rcases keyI.find w' hkey es.toList (keys_of he) with h | ⟨j, e0, h1, h2', h3⟩
        · exact h.1
        · exact (h2 e0 (List.mem_of_getElem? h2') h3).elim
      simp [Instr.lookup, run_underlying Try.underlying106, MapKept.run_getObj_map (hw'.trans hb), keyI.check w' _ hkey, h1', zeroSp, Result.andThen]
    refine ⟨none, 0, hlk, World.ownsRow_nil _ _ _ _, by simp [Value.ownBlock], fun w1 x g c' hg hat hown => ?_⟩
    have hgw : w.heap.size ≤ g := by
      rcases hat with hat | hat
      · simp [Value.ownBlock] at hat
      · exact hat
    have hb1 : w1.heap[r]? = some (.map es clock) := by
      rw [hg.block r hlt (by simp [Value.ownBlock])]
      exact hb
    have h1' : (Instr.findKey 3 (.int .i64 f) es.toList).run Try.prog w1 = .ok none w1 := by
      rcases keyI.find w1 hkey es.toList (keys_of he) with h | ⟨j, e0, h1, h2', h3⟩
      · exact h.1
      · exact (h2 e0 (List.mem_of_getElem? h2') h3).elim
    have G2 := grown_set (es' := es.push ⟨.int .i64 f, .slice (some ⟨g, 0, none⟩) 1 c', clock⟩) (clock' := clock + 1) hb1
    refine ⟨setBlock w1 r (.map (es.push ⟨.int .i64 f, .slice (some ⟨g, 0, none⟩) 1 c', clock⟩) (clock + 1)), ?_, G2, ?_⟩
    · simp [Instr.mapUpdate, run_underlying Try.underlying106, MapKept.run_getObj_map hb1, keyI.check w1 false hkey, h1', MapKept.run_setObj_map _ hb1, Result.andThen, setBlock]
    · refine ⟨_, _, set_heap hb1, fun i k e e' hi hk hik => ?_, fun e hm => ?_, fun f' hf' => ?_⟩
      · rw [Array.toList_push] at hi hk
        have hlen : es.toList.length = es.size := by simp
        by_cases hi' : i < es.toList.length
        · rw [List.getElem?_append_left hi'] at hi
          by_cases hk' : k < es.toList.length
          · rw [List.getElem?_append_left hk'] at hk
            exact hp i k e e' hi hk hik
          · rw [List.getElem?_append_right (by omega)] at hk
            have : k - es.toList.length = 0 := by
              have := (List.getElem?_eq_some_iff.1 hk).1
              simp at this
              omega
            rw [this] at hk
            simp at hk
            subst hk
            have hm := List.mem_of_getElem? hi
            obtain ⟨g0, hg0, hl0⟩ := hold e hm
            refine ⟨h2 e hm, ?_⟩
            rw [hg0]
            simp [Value.ownBlock]
            omega
        · rw [List.getElem?_append_right (by omega)] at hi
          have hi0 : i - es.toList.length = 0 := by
            have := (List.getElem?_eq_some_iff.1 hi).1
            simp at this
            omega
          rw [hi0] at hi
          simp at hi
          subst hi
          by_cases hk' : k < es.toList.length
          · rw [List.getElem?_append_left hk'] at hk
            have hm := List.mem_of_getElem? hk
            obtain ⟨g0, hg0, hl0⟩ := hold e' hm
            refine ⟨fun e => h2 e' hm e.symm, ?_⟩
            rw [hg0]
            simp [Value.ownBlock]
            omega
          · have hkl := (List.getElem?_eq_some_iff.1 hk).1
            simp at hkl
            omega
      · rw [Array.toList_push, List.mem_append] at hm
        rcases hm with hm | hm
        · obtain ⟨f', g0, c0, e1, e2, e3, e4, e5⟩ := he e hm
          have hff : f' ≠ f := fun e => h2 _ hm (by rw [e1, e])
          obtain ⟨g1, hg1, hl1⟩ := hold e hm
          refine ⟨f', g0, c0, e1, e2, ?_, ?_, ?_⟩
          · rw [addS_other S x hff]; exact e3
          · rw [addS_other S x hff]; exact e4
          · rw [addS_other S x hff]
            exact (e5.kept hg (Or.inr (by rw [hg1]; simp [Value.ownBlock]))).kept G2 (Or.inr (hne e hm))
        · simp at hm
          subst hm
          refine ⟨f, g, c', rfl, hf, ?_, ?_, ?_⟩
          · rw [addS_same, hS]; rfl
          · rw [addS_same]; simp
          · rw [addS_same, hS]
            exact hown.kept G2 (Or.inr (by simp [Value.ownBlock]; omega))
      · by_cases hff : f' = f
        · exact ⟨_, by rw [Array.toList_push]; exact List.mem_append_right _ (List.mem_singleton.2 rfl), by rw [hff]⟩
        · rw [addS_other S x hff] at hf'
          obtain ⟨e, hm, hk⟩ := hfa f' hf'
          exact ⟨e, by rw [Array.toList_push]; exact List.mem_append_left _ hm, hk⟩
  · have hm0 := List.mem_of_getElem? h2
    obtain ⟨f0, g0, c0, e1, e2, e3, e4, e5⟩ := he e0 hm0
    obtain rfl : f0 = f := by
      rw [h3] at e1
      simp at e1
      exact e1.symm
    have hfind : ∀ w' : World, (Instr.findKey 3 (.int .i64 f0) es.toList).run Try.prog w' = .ok (some (j, e0.val)) w' := fun w' => by
      rcases keyI.find w' hkey es.toList (keys_of he) with h | ⟨j', e', h1, h2', h3'⟩
      · exact (h.2 e0 hm0 h3).elim
      · by_cases hjj : j = j'
        · subst hjj
          rw [h2] at h2'
          cases h2'
          exact h1
        · exact ((hp j j' e0 e' h2 h2' hjj).1 (by rw [h3, h3'])).elim
    have hlk : ∀ w' : World, w'.heap[r]? = w.heap[r]? → (Instr.lookup 106 (.map (some r)) (.int .i64 f0) false).run Try.prog w' = .ok e0.val w' := fun w' hw' => by simp [Instr.lookup, run_underlying Try.underlying106, MapKept.run_getObj_map (hw'.trans hb), keyI.check w' _ hkey, hfind w', Result.andThen]
    have hne0 := hne e0 hm0
    rw [e3] at e5 hne0
    have hlk : ∀ w' : World, w'.heap[r]? = w.heap[r]? → (Instr.lookup 106 (.map (some r)) (.int .i64 f0) false).run Try.prog w' = .ok (.slice (some ⟨g0, 0, none⟩) (S f0).length c0) w' := fun w' hw' => by rw [hlk w' hw', e3]
    refine ⟨some ⟨g0, 0, none⟩, c0, hlk, e5, hne0, fun w1 x g c' hg hat hown => ?_⟩
    have hb1 : w1.heap[r]? = some (.map es clock) := by
      rw [hg.block r hlt (fun e => hne0 e.symm)]
      exact hb
    have h1' := hfind w1
    have hj : es[j]? = some e0 := by simpa using h2
    have hlist : (es.modify j (fun e' => { e' with key := .int .i64 f0, val := .slice (some ⟨g, 0, none⟩) ((S f0).length + 1) c' })).toList = es.toList.set j { e0 with key := .int .i64 f0, val := .slice (some ⟨g, 0, none⟩) ((S f0).length + 1) c' } := by rw [Array.toList_modify, modify_eq_set _ _ _ _ h2]
    have G2 := grown_set (es' := es.modify j (fun e' => { e' with key := .int .i64 f0, val := .slice (some ⟨g, 0, none⟩) ((S f0).length + 1) c' })) (clock' := clock) hb1
    have hjl := (List.getElem?_eq_some_iff.1 h2).1
    refine ⟨setBlock w1 r (.map (es.modify j (fun e' => { e' with key := .int .i64 f0, val := .slice (some ⟨g, 0, none⟩) ((S f0).length + 1) c' })) clock), ?_, G2, ?_⟩
    · simp [Instr.mapUpdate, run_underlying Try.underlying106, MapKept.run_getObj_map hb1, keyI.check w1 false hkey, h1', hj, h3, keyI.stays w1 hkey, MapKept.run_setObj_map _ hb1, Result.andThen, setBlock]
    · have hoth : ∀ (i : Nat) (e : MapEntry), es.toList[i]? = some e → i ≠ j → e.key ≠ .int .i64 f0 ∧ e.val.ownBlock ≠ some g ∧ e.val.ownBlock ≠ (Value.slice (some ⟨g0, 0, none⟩) (S f0).length c0).ownBlock := fun i e hi hij => by
        obtain ⟨k1, k2⟩ := hp i j e e0 hi h2 hij
        rw [h3] at k1
        rw [e3] at k2
        refine ⟨k1, ?_, k2⟩
        rcases hat with hat | hat
        · rw [← hat]; exact k2
        · obtain ⟨g1, hg1, hl1⟩ := hold e (List.mem_of_getElem? hi)
          rw [hg1]
          simp
          omega
      refine ⟨_, _, set_heap hb1, fun i k e e' hi hk hik => ?_, fun e hm => ?_, fun f' hf' => ?_⟩
      · rw [hlist, List.getElem?_set] at hi hk
        by_cases hi' : j = i
        · rw [if_pos hi', if_pos hjl] at hi
          cases hi
          rw [if_neg (by omega)] at hk
          obtain ⟨k1, k2, _⟩ := hoth k e' hk (by omega)
          exact ⟨fun e => k1 e.symm, fun e => k2 e.symm⟩
        · rw [if_neg hi'] at hi
          by_cases hk' : j = k
          · rw [if_pos hk', if_pos hjl] at hk
            cases hk
            obtain ⟨k1, k2, _⟩ := hoth i e hi (by omega)
            exact ⟨k1, k2⟩
          · rw [if_neg hk'] at hk
            exact hp i k e e' hi hk hik
      · rw [hlist] at hm
        obtain ⟨i, hi⟩ := List.getElem?_of_mem hm
        rw [List.getElem?_set] at hi
        by_cases hi' : j = i
        · rw [if_pos hi', if_pos hjl] at hi
          cases hi
          refine ⟨f0, g, c', rfl, hf, ?_, ?_, ?_⟩
          · rw [addS_same]; simp
          · rw [addS_same]; simp
          · rw [addS_same]
            have hgr : (Value.slice (some ⟨g, 0, none⟩) ((S f0).length + 1) c').ownBlock ≠ some r := by
              rcases hat with hat | hat
              · have : (Value.slice (some ⟨g, 0, none⟩) ((S f0).length + 1) c').ownBlock = some g := rfl
                rw [this, ← hat]
                exact hne0
              · simp [Value.ownBlock]; omega
            have := hown.kept G2 (Or.inr hgr)
            rwa [List.length_append]
        · rw [if_neg hi'] at hi
          obtain ⟨k1, k2, k3⟩ := hoth i e hi (by omega)
          have hme := List.mem_of_getElem? hi
          obtain ⟨f', g1, c1, d1, d2, d3, d4, d5⟩ := he e hme
          have hff : f' ≠ f0 := fun e => k1 (by rw [d1, e])
          refine ⟨f', g1, c1, d1, d2, ?_, ?_, ?_⟩
          · rw [addS_other S x hff]; exact d3
          · rw [addS_other S x hff]; exact d4
          · rw [addS_other S x hff]
            exact (d5.kept hg (Or.inr k3)).kept G2 (Or.inr (hne e hme))
      · by_cases hff : f' = f0
        · refine ⟨_, by rw [hlist]; exact List.mem_iff_getElem?.2 ⟨j, by rw [List.getElem?_set, if_pos rfl, if_pos hjl]⟩, by rw [hff]⟩
        · rw [addS_other S x hff] at hf'
          obtain ⟨e, hm, hk⟩ := hfa f' hf'
          obtain ⟨i, hi⟩ := List.getElem?_of_mem hm
          have hij : j ≠ i := fun e' => by
            subst e'
            rw [h2] at hi
            cases hi
            rw [h3] at hk
            simp at hk
            exact hff hk.symm
          exact ⟨e, by rw [hlist]; exact List.mem_iff_getElem?.2 ⟨i, by rw [List.getElem?_set, if_neg hij]; exact hi⟩, hk⟩
end Go.Proofs.Ytahcoklhijjenaa
