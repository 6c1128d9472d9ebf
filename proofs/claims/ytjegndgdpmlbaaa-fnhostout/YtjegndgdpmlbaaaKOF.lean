/-
  Who is in which frame: a map from frames to lists of spots, each list in a row of its own; looked up, and one spot more.
-/
import Derived.Test.YtjegndgdpmlbaaaKOC
import Derived.Maps.Keyed
import Derived.Test.YtjegndgdpmlbaaaKOW
set_option linter.unusedSimpArgs false
namespace Go.Proofs.Ytjegndgdpmlbaaa
open Go.RowKit Go.Maps
open Go.ChangeMaps (setBlock modify_eq_set)

def spC (l : List (Nat × Nat)) : List Value := l.flatMap fun x => [.int .i64 (x.1 : Int), .int .i64 (x.2 : Int)]
theorem spC_snoc (l : List (Nat × Nat)) (g p : Nat) : spC (l ++ [(g, p)]) = spC l ++ [.int .i64 (g : Int), .int .i64 (p : Int)] := by simp [spC]

/-- One spot more at a frame. -/
def addS (S : Int → List (Nat × Nat)) (f : Int) (x : Nat × Nat) (f' : Int) : List (Nat × Nat) := if f' = f then S f ++ [x] else S f'
theorem addS_same (S : Int → List (Nat × Nat)) (f : Int) (x : Nat × Nat) : addS S f x f = S f ++ [x] := if_pos rfl
theorem addS_other (S : Int → List (Nat × Nat)) {f f' : Int} (x : Nat × Nat) (h : f' ≠ f) : addS S f x f' = S f' := if_neg h

def Who (w : World) (lo r : Nat) (S : Int → List (Nat × Nat)) : Prop :=
  ∃ es clock, w.heap[r]? = some (.map es clock) ∧
    (∀ (i j : Nat) (e e' : MapEntry), es.toList[i]? = some e → es.toList[j]? = some e' → i ≠ j → e.key ≠ e'.key ∧ e.val.ownBlock ≠ e'.val.ownBlock) ∧
    (∀ e ∈ es.toList, ∃ f g c, e.key = .int .i64 f ∧ (Lit.int .i64 f).wf = true ∧ e.val = .slice (some ⟨g, 0, none⟩) (S f).length c ∧ S f ≠ [] ∧ w.ownsRow lo 77 2 e.val (S f).length (spC (S f))) ∧
    ∀ f, S f ≠ [] → ∃ e ∈ es.toList, e.key = .int .i64 f

theorem keyI : Keyed Try.prog 3 := int_keyed Try.underlying3
theorem zeroSp (w : World) : (zeroValue 108).run Try.prog w = .ok (.slice none 0 0) w := by kernel_rfl

theorem Who.new (w : World) (lo : Nat) : Who (w.alloc (.map #[] 0)) lo w.heap.size (fun _ => []) :=
  ⟨#[], 0, heap_alloc_new w _, fun i j e e' h => by simp at h, fun e he => by simp at he, fun f h => (h rfl).elim⟩
theorem Who.same {w w' : World} {lo r : Nat} {S : Int → List (Nat × Nat)} (h : Who w lo r S) {row : Option Nat} (hg : w.grownBy w' row) (hr : row ≠ some r) (hrow : ∀ T, row = some T → T < lo) : Who w' lo r S := by
  obtain ⟨es, clock, hb, hp, he, hf⟩ := h
  have hlt : r < w.heap.size := by
    rcases Nat.lt_or_ge r w.heap.size with h | h
    · exact h
    · rw [Array.getElem?_eq_none h] at hb; cases hb
  refine ⟨es, clock, (hg.block r hlt (fun e => hr e.symm)).trans hb, hp, fun e hm => ?_, hf⟩
  obtain ⟨f, g, c, e1, e2, e3, e4, e5⟩ := he e hm
  refine ⟨f, g, c, e1, e2, e3, e4, e5.kept hg (Or.inr fun e => ?_)⟩
  have h1 := e5.lt g (by rw [e3]; rfl)
  rw [e3] at e
  have := hrow g e.symm
  omega
theorem Who.lt {w : World} {lo r : Nat} {S : Int → List (Nat × Nat)} (h : Who w lo r S) : r < w.heap.size := by
  obtain ⟨es, clock, hb, _⟩ := h
  rcases Nat.lt_or_ge r w.heap.size with h | h
  · exact h
  · rw [Array.getElem?_eq_none h] at hb; cases hb

theorem keys_of {es : Array MapEntry} {S : Int → List (Nat × Nat)} {w : World} {lo : Nat} (he : ∀ e ∈ es.toList, ∃ f g c, e.key = .int .i64 f ∧ (Lit.int .i64 f).wf = true ∧ e.val = .slice (some ⟨g, 0, none⟩) (S f).length c ∧ S f ≠ [] ∧ w.ownsRow lo 77 2 e.val (S f).length (spC (S f))) :
    ∀ e ∈ es.toList, ∃ l, keyOf Try.prog 3 e.key = some l := fun e hm => by
  obtain ⟨f, g, c, e1, e2, _⟩ := he e hm
  exact ⟨_, by rw [e1]; exact keyOf_int_mk Try.underlying3 e2⟩

theorem grown_set {w1 : World} {r : Nat} {es es' : Array MapEntry} {clock clock' : Nat} (_hb : w1.heap[r]? = some (.map es clock)) : w1.grownBy (setBlock w1 r (.map es' clock')) (some r) :=
  ⟨rfl, rfl, rfl, by simp [setBlock], fun k _ hk => by
    have : r ≠ k := fun e => hk (by rw [e])
    simp [setBlock, Array.getElem?_setIfInBounds_ne this]⟩
theorem set_heap {w1 : World} {r : Nat} {es es' : Array MapEntry} {clock clock' : Nat} (hb : w1.heap[r]? = some (.map es clock)) : (setBlock w1 r (.map es' clock')).heap[r]? = some (.map es' clock') := by
  have hlt : r < w1.heap.size := by
    rcases Nat.lt_or_ge r w1.heap.size with h | h
    · exact h
    · rw [Array.getElem?_eq_none h] at hb; cases hb
  simp [setBlock, hlt]

/-- One look; and what a store at that frame does, behind an append to what was found. -/
theorem Who.look {w : World} {lo r : Nat} {S : Int → List (Nat × Nat)} (h : Who w lo r S) (f : Int) (hf : (Lit.int .i64 f).wf = true) :
    ∃ a c, (∀ w' : World, w'.heap[r]? = w.heap[r]? → (Instr.lookup 106 (.map (some r)) (.int .i64 f) false).run Try.prog w' = .ok (.slice a (S f).length c) w') ∧ w.ownsRow lo 77 2 (.slice a (S f).length c) (S f).length (spC (S f)) ∧
      (Value.slice a (S f).length c).ownBlock ≠ some r ∧
      ∀ (w1 : World) (x : Nat × Nat) (g c' : Nat), w.grownBy w1 (Value.slice a (S f).length c).ownBlock → ((Value.slice a (S f).length c).ownBlock = some g ∨ w.heap.size ≤ g) →
        w1.ownsRow lo 77 2 (.slice (some ⟨g, 0, none⟩) ((S f).length + 1) c') ((S f).length + 1) (spC (S f ++ [x])) →
        ∃ w2, (Instr.mapUpdate 106 (.map (some r)) (.int .i64 f) (.slice (some ⟨g, 0, none⟩) ((S f).length + 1) c')).run Try.prog w1 = .ok () w2 ∧ w1.grownBy w2 (some r) ∧ Who w2 lo r (addS S f x) := by
  have hlt := h.lt
  obtain ⟨es, clock, hb, hp, he, hfa⟩ := h
  have hkey := keyOf_int_mk Try.underlying3 hf
  have hne : ∀ e ∈ es.toList, e.val.ownBlock ≠ some r := fun e hm hc => by
    obtain ⟨f', g, c, e1, e2, e3, e4, e5⟩ := he e hm
    rw [e3] at hc e5
    have hg : g = r := by simpa [Value.ownBlock] using hc
    subst hg
    obtain ⟨_, hd⟩ := e5
    rcases hd with ⟨h0, _⟩ | ⟨g', c', cur, hv, _, hh, _⟩
    · cases h0
    · cases hv
      rw [hb] at hh
      cases hh
  have hold : ∀ e ∈ es.toList, ∃ g, e.val.ownBlock = some g ∧ g < w.heap.size := fun e hm => by
    obtain ⟨f', g, c, e1, e2, e3, e4, e5⟩ := he e hm
    exact ⟨g, by rw [e3]; rfl, (e5.lt g (by rw [e3]; rfl)).2⟩
  rcases keyI.find w hkey es.toList (keys_of he) with ⟨h1, h2⟩ | ⟨j, e0, h1, h2, h3⟩
  · have hS : S f = [] := by
      cases hq : S f with
      | nil => rfl
      | cons x l =>
        obtain ⟨e, hm, hk⟩ := hfa f (by rw [hq]; simp)
        exact (h2 e hm hk).elim
    rw [hS]
    have hlk : ∀ w' : World, w'.heap[r]? = w.heap[r]? → (Instr.lookup 106 (.map (some r)) (.int .i64 f) false).run Try.prog w' = .ok (.slice none 0 0) w' := fun w' hw' => by
      have h1' : (Instr.findKey 3 (.int .i64 f) es.toList).run Try.prog w' = .ok none w' := by
        rcases keyI.find w' hkey es.toList (keys_of he) with h | ⟨j, e0, h1, h2', h3⟩
        · exact h.1
        · exact (h2 e0 (List.mem_of_getElem? h2') h3).elim
      simp [Instr.lookup, run_underlying Try.underlying106, MapKept.run_getObj_map (hw'.trans hb), keyI.check w' _ hkey, h1', zeroSp, Result.andThen]
    refine ⟨none, 0, hlk, World.ownsRow_nil _ _ _ _, by simp [Value.ownBlock], fun w1 x g c' hg hat hown => ?_⟩
    have hgw : w.heap.size ≤ g := by
      rcases hat with hat | hat
      · simp [Value.ownBlock] at hat
      · exact hat
    have hb1 : w1.heap[r]? = some (.map es clock) := by
      rw [hg.block r hlt (by simp [Value.ownBlock])]
      exact hb
    have h1' : (Instr.findKey 3 (.int .i64 f) es.toList).run Try.prog w1 = .ok none w1 := by
      rcases keyI.find w1 hkey es.toList (keys_of he) with h | ⟨j, e0, h1, h2', h3⟩
      · exact h.1
      · exact (h2 e0 (List.mem_of_getElem? h2') h3).elim
    have G2 := grown_set (es' := es.push ⟨.int .i64 f, .slice (some ⟨g, 0, none⟩) 1 c', clock⟩) (clock' := clock + 1) hb1
    refine ⟨setBlock w1 r (.map (es.push ⟨.int .i64 f, .slice (some ⟨g, 0, none⟩) 1 c', clock⟩) (clock + 1)), ?_, G2, ?_⟩
    · simp [Instr.mapUpdate, run_underlying Try.underlying106, MapKept.run_getObj_map hb1, keyI.check w1 false hkey, h1', MapKept.run_setObj_map _ hb1, Result.andThen, setBlock]
    · refine ⟨_, _, set_heap hb1, fun i k e e' hi hk hik => ?_, fun e hm => ?_, fun f' hf' => ?_⟩
      · rw [Array.toList_push] at hi hk
        have hlen : es.toList.length = es.size := by simp
        by_cases hi' : i < es.toList.length
        · rw [List.getElem?_append_left hi'] at hi
          by_cases hk' : k < es.toList.length
          · rw [List.getElem?_append_left hk'] at hk
            exact hp i k e e' hi hk hik
          · rw [List.getElem?_append_right (by omega)] at hk
            have : k - es.toList.length = 0 := by
              have := (List.getElem?_eq_some_iff.1 hk).1
              simp at this
              omega
            rw [this] at hk
            simp at hk
            subst hk
            have hm := List.mem_of_getElem? hi
            obtain ⟨g0, hg0, hl0⟩ := hold e hm
            refine ⟨h2 e hm, ?_⟩
            rw [hg0]
            simp [Value.ownBlock]
            omega
        · rw [List.getElem?_append_right (by omega)] at hi
          have hi0 : i - es.toList.length = 0 := by
            have := (List.getElem?_eq_some_iff.1 hi).1
            simp at this
            omega
          rw [hi0] at hi
          simp at hi
          subst hi
          by_cases hk' : k < es.toList.length
          · rw [List.getElem?_append_left hk'] at hk
            have hm := List.mem_of_getElem? hk
            obtain ⟨g0, hg0, hl0⟩ := hold e' hm
            refine ⟨fun e => h2 e' hm e.symm, ?_⟩
            rw [hg0]
            simp [Value.ownBlock]
            omega
          · have hkl := (List.getElem?_eq_some_iff.1 hk).1
            simp at hkl
            omega
      · rw [Array.toList_push, List.mem_append] at hm
        rcases hm with hm | hm
        · obtain ⟨f', g0, c0, e1, e2, e3, e4, e5⟩ := he e hm
          have hff : f' ≠ f := fun e => h2 _ hm (by rw [e1, e])
          obtain ⟨g1, hg1, hl1⟩ := hold e hm
          refine ⟨f', g0, c0, e1, e2, ?_, ?_, ?_⟩
          · rw [addS_other S x hff]; exact e3
          · rw [addS_other S x hff]; exact e4
          · rw [addS_other S x hff]
            exact (e5.kept hg (Or.inr (by rw [hg1]; simp [Value.ownBlock]))).kept G2 (Or.inr (hne e hm))
        · simp at hm
          subst hm
          refine ⟨f, g, c', rfl, hf, ?_, ?_, ?_⟩
          · rw [addS_same, hS]; rfl
          · rw [addS_same]; simp
          · rw [addS_same, hS]
            exact hown.kept G2 (Or.inr (by simp [Value.ownBlock]; omega))
      · by_cases hff : f' = f
        · exact ⟨_, by rw [Array.toList_push]; exact List.mem_append_right _ (List.mem_singleton.2 rfl), by rw [hff]⟩
        · rw [addS_other S x hff] at hf'
          obtain ⟨e, hm, hk⟩ := hfa f' hf'
          exact ⟨e, by rw [Array.toList_push]; exact List.mem_append_left _ hm, hk⟩
  · have hm0 := List.mem_of_getElem? h2
    obtain ⟨f0, g0, c0, e1, e2, e3, e4, e5⟩ := he e0 hm0
    obtain rfl : f0 = f := by
      rw [h3] at e1
      simp at e1
      exact e1.symm
    have hfind : ∀ w' : World, (Instr.findKey 3 (.int .i64 f0) es.toList).run Try.prog w' = .ok (some (j, e0.val)) w' := fun w' => by
      rcases keyI.find w' hkey es.toList (keys_of he) with h | ⟨j', e', h1, h2', h3'⟩
      · exact (h.2 e0 hm0 h3).elim
      · by_cases hjj : j = j'
        · subst hjj
          rw [h2] at h2'
          cases h2'
          exact h1
        · exact ((hp j j' e0 e' h2 h2' hjj).1 (by rw [h3, h3'])).elim
    have hlk : ∀ w' : World, w'.heap[r]? = w.heap[r]? → (Instr.lookup 106 (.map (some r)) (.int .i64 f0) false).run Try.prog w' = .ok e0.val w' := fun w' hw' => by simp [Instr.lookup, run_underlying Try.underlying106, MapKept.run_getObj_map (hw'.trans hb), keyI.check w' _ hkey, hfind w', Result.andThen]
    have hne0 := hne e0 hm0
    rw [e3] at e5 hne0
    have hlk : ∀ w' : World, w'.heap[r]? = w.heap[r]? → (Instr.lookup 106 (.map (some r)) (.int .i64 f0) false).run Try.prog w' = .ok (.slice (some ⟨g0, 0, none⟩) (S f0).length c0) w' := fun w' hw' => by rw [hlk w' hw', e3]
    refine ⟨some ⟨g0, 0, none⟩, c0, hlk, e5, hne0, fun w1 x g c' hg hat hown => ?_⟩
    have hb1 : w1.heap[r]? = some (.map es clock) := by
      rw [hg.block r hlt (fun e => hne0 e.symm)]
      exact hb
    have h1' := hfind w1
    have hj : es[j]? = some e0 := by simpa using h2
    have hlist : (es.modify j (fun e' => { e' with key := .int .i64 f0, val := .slice (some ⟨g, 0, none⟩) ((S f0).length + 1) c' })).toList = es.toList.set j { e0 with key := .int .i64 f0, val := .slice (some ⟨g, 0, none⟩) ((S f0).length + 1) c' } := by rw [Array.toList_modify, modify_eq_set _ _ _ _ h2]
    have G2 := grown_set (es' := es.modify j (fun e' => { e' with key := .int .i64 f0, val := .slice (some ⟨g, 0, none⟩) ((S f0).length + 1) c' })) (clock' := clock) hb1
    have hjl := (List.getElem?_eq_some_iff.1 h2).1
    refine ⟨setBlock w1 r (.map (es.modify j (fun e' => { e' with key := .int .i64 f0, val := .slice (some ⟨g, 0, none⟩) ((S f0).length + 1) c' })) clock), ?_, G2, ?_⟩
    · simp [Instr.mapUpdate, run_underlying Try.underlying106, MapKept.run_getObj_map hb1, keyI.check w1 false hkey, h1', hj, h3, keyI.stays w1 hkey, MapKept.run_setObj_map _ hb1, Result.andThen, setBlock]
    · have hoth : ∀ (i : Nat) (e : MapEntry), es.toList[i]? = some e → i ≠ j → e.key ≠ .int .i64 f0 ∧ e.val.ownBlock ≠ some g ∧ e.val.ownBlock ≠ (Value.slice (some ⟨g0, 0, none⟩) (S f0).length c0).ownBlock := fun i e hi hij => by
        obtain ⟨k1, k2⟩ := hp i j e e0 hi h2 hij
        rw [h3] at k1
        rw [e3] at k2
        refine ⟨k1, ?_, k2⟩
        rcases hat with hat | hat
        · rw [← hat]; exact k2
        · obtain ⟨g1, hg1, hl1⟩ := hold e (List.mem_of_getElem? hi)
          rw [hg1]
          simp
          omega
      refine ⟨_, _, set_heap hb1, fun i k e e' hi hk hik => ?_, fun e hm => ?_, fun f' hf' => ?_⟩
      · rw [hlist, List.getElem?_set] at hi hk
        by_cases hi' : j = i
        · rw [if_pos hi', if_pos hjl] at hi
          cases hi
          rw [if_neg (by omega)] at hk
          obtain ⟨k1, k2, _⟩ := hoth k e' hk (by omega)
          exact ⟨fun e => k1 e.symm, fun e => k2 e.symm⟩
        · rw [if_neg hi'] at hi
          by_cases hk' : j = k
          · rw [if_pos hk', if_pos hjl] at hk
            cases hk
            obtain ⟨k1, k2, _⟩ := hoth i e hi (by omega)
            exact ⟨k1, k2⟩
          · rw [if_neg hk'] at hk
            exact hp i k e e' hi hk hik
      · rw [hlist] at hm
        obtain ⟨i, hi⟩ := List.getElem?_of_mem hm
        rw [List.getElem?_set] at hi
        by_cases hi' : j = i
        · rw [if_pos hi', if_pos hjl] at hi
          cases hi
          refine ⟨f0, g, c', rfl, hf, ?_, ?_, ?_⟩
          · rw [addS_same]; simp
          · rw [addS_same]; simp
          · rw [addS_same]
            have hgr : (Value.slice (some ⟨g, 0, none⟩) ((S f0).length + 1) c').ownBlock ≠ some r := by
              rcases hat with hat | hat
              · have : (Value.slice (some ⟨g, 0, none⟩) ((S f0).length + 1) c').ownBlock = some g := rfl
                rw [this, ← hat]
                exact hne0
              · simp [Value.ownBlock]; omega
            have := hown.kept G2 (Or.inr hgr)
            rwa [List.length_append]
        · rw [if_neg hi'] at hi
          obtain ⟨k1, k2, k3⟩ := hoth i e hi (by omega)
          have hme := List.mem_of_getElem? hi
          obtain ⟨f', g1, c1, d1, d2, d3, d4, d5⟩ := he e hme
          have hff : f' ≠ f0 := fun e => k1 (by rw [d1, e])
          refine ⟨f', g1, c1, d1, d2, ?_, ?_, ?_⟩
          · rw [addS_other S x hff]; exact d3
          · rw [addS_other S x hff]; exact d4
          · rw [addS_other S x hff]
            exact (d5.kept hg (Or.inr k3)).kept G2 (Or.inr (hne e hme))
      · by_cases hff : f' = f0
        · refine ⟨_, by rw [hlist]; exact List.mem_iff_getElem?.2 ⟨j, by rw [List.getElem?_set, if_pos rfl, if_pos hjl]⟩, by rw [hff]⟩
        · rw [addS_other S x hff] at hf'
          obtain ⟨e, hm, hk⟩ := hfa f' hf'
          obtain ⟨i, hi⟩ := List.getElem?_of_mem hm
          have hij : j ≠ i := fun e' => by
            subst e'
            rw [h2] at hi
            cases hi
            rw [h3] at hk
            simp at hk
            exact hff hk.symm
          exact ⟨e, by rw [hlist]; exact List.mem_iff_getElem?.2 ⟨i, by rw [List.getElem?_set, if_neg hij]; exact hi⟩, hk⟩
end Go.Proofs.Ytjegndgdpmlbaaa

/-
  Great values kept shut: loads, stores and variables of lodgers and houses, parts of arrays, and maps, each by one hypothesis on it.
-/
namespace Go.Proofs.Ytjegndgdpmlbaaa
open Go.RowKit

theorem exec_mapsA (ρ : Operand → Value) (dst : Option Tmp) (ty : TypeId) (pos : String) (after : Array _) (guard : Option _) (x : Operand) (w : World) :
    (execOp ρ ⟨dst, .load 88 x, ty, pos, after, guard⟩).run Try.prog w = bigNext (bigRun Try.prog 88 (ρ x) w) := by
  unfold bigRun execOp
  simp only [Sem.run_bind]
  cases (Instr.loadAt 88 (ρ x)).run Try.prog w <;> rfl
theorem exec_allocL (ρ : Operand → Value) (dst : Option Tmp) (ty : TypeId) (pos : String) (after : Array _) (guard : Option _) (w : World) :
    (execOp ρ ⟨dst, .alloc 91, ty, pos, after, guard⟩).run Try.prog w = bigNext (bigAlloc Try.prog 91 w) := by
  unfold bigAlloc execOp
  simp only [Sem.run_bind]
  cases (Instr.alloc 91 true (.tuple #[])).run Try.prog w <;> rfl
theorem exec_buildL (ρ : Operand → Value) (dst : Option Tmp) (ty : TypeId) (pos : String) (after : Array _) (guard : Option _) (ps : Array (Nat × Operand)) (w : World) :
    (execOp ρ ⟨dst, .build 91 ps, ty, pos, after, guard⟩).run Try.prog w = bigNext (bigBuild Try.prog 91 (ps.map fun (i, x) => (i, ρ x)) w) := by
  unfold bigBuild execOp
  simp only [Sem.run_bind]
  cases (Instr.build 91 (ps.map fun (i, x) => (i, ρ x))).run Try.prog w <;> rfl
theorem exec_storeL (ρ : Operand → Value) (dst : Option Tmp) (ty : TypeId) (pos : String) (after : Array _) (guard : Option _) (a x : Operand) (w : World) :
    (execOp ρ ⟨dst, .store 91 a x, ty, pos, after, guard⟩).run Try.prog w = bigSkip (bigStore Try.prog 91 (ρ a) (ρ x) w) := by
  unfold bigStore execOp
  simp only [Sem.run_bind]
  cases (Instr.storeAt 91 (ρ a) (ρ x)).run Try.prog w <;> rfl

def idxRun (P : Program) (t : TypeId) (v i : Value) (w : World) : Result Value := (Instr.index t v i).run P w
theorem exec_idxM (ρ : Operand → Value) (dst : Option Tmp) (ty : TypeId) (pos : String) (after : Array _) (guard : Option _) (x y : Operand) (w : World) :
    (execOp ρ ⟨dst, .index 88 x y, ty, pos, after, guard⟩).run Try.prog w = bigNext (idxRun Try.prog 88 (ρ x) (ρ y) w) := by
  unfold idxRun execOp
  simp only [Sem.run_bind]
  cases (Instr.index 88 (ρ x) (ρ y)).run Try.prog w <;> rfl
def lookRun (P : Program) (t : TypeId) (m k : Value) (w : World) : Result Value := (Instr.lookup t m k false).run P w
theorem exec_look (ρ : Operand → Value) (dst : Option Tmp) (ty : TypeId) (pos : String) (after : Array _) (guard : Option _) (x y : Operand) (w : World) :
    (execOp ρ ⟨dst, .lookup 106 x y false, ty, pos, after, guard⟩).run Try.prog w = bigNext (lookRun Try.prog 106 (ρ x) (ρ y) w) := by
  unfold lookRun execOp
  simp only [Sem.run_bind]
  cases (Instr.lookup 106 (ρ x) (ρ y) false).run Try.prog w <;> rfl
def updRun (P : Program) (t : TypeId) (m k v : Value) (w : World) : Result Unit := (Instr.mapUpdate t m k v).run P w
theorem exec_upd (ρ : Operand → Value) (dst : Option Tmp) (ty : TypeId) (pos : String) (after : Array _) (guard : Option _) (m x y : Operand) (w : World) :
    (execOp ρ ⟨dst, .mapUpdate 106 m x y, ty, pos, after, guard⟩).run Try.prog w = bigSkip (updRun Try.prog 106 (ρ m) (ρ x) (ρ y) w) := by
  unfold updRun execOp
  simp only [Sem.run_bind]
  cases (Instr.mapUpdate 106 (ρ m) (ρ x) (ρ y)).run Try.prog w <;> rfl

/-- A new variable, written whole, is one that was made so. -/
theorem setAll_alloc (w : World) (t : TypeId) : ∀ (cs : List Value) (o : Nat) (z : Array Value), o + cs.length = z.size → ∃ z' : Array Value, (w.alloc (.cells z t)).setCells w.heap.size o cs = w.alloc (.cells z' t) ∧ z'.size = z.size ∧ (∀ i, i < o → z'[i]? = z[i]?) ∧ ∀ i, i < cs.length → z'[o + i]? = cs[i]?
  | [], o, z, _ => ⟨z, rfl, rfl, fun _ _ => rfl, fun i hi => by simp at hi⟩
  | v :: r, o, z, h => by
    obtain ⟨z', e1, e2, e3, e4⟩ := setAll_alloc w t r (o + 1) (z.setIfInBounds o v) (by simp at h ⊢; omega)
    refine ⟨z', ?_, by rw [e2]; simp, fun i hi => ?_, fun i hi => ?_⟩
    · rw [World.setCells, World.setCell_alloc_new, e1]
    · rw [e3 i (by omega), Array.getElem?_setIfInBounds_ne (by omega)]
    · cases i with
      | zero =>
        have hlt : o < z.size := by simp at h; omega
        rw [Nat.add_zero, e3 o (by omega), Array.getElem?_setIfInBounds_self_of_lt hlt]; rfl
      | succ i =>
        have := e4 i (by simpa using hi)
        rw [show o + (i + 1) = o + 1 + i by omega, this]; rfl
theorem alloc_setCells (w : World) (t : TypeId) (cs : List Value) (z : Array Value) (h : z.size = cs.length) : (w.alloc (.cells z t)).setCells w.heap.size 0 cs = w.alloc (.cells cs.toArray t) := by
  obtain ⟨z', e1, e2, _, e4⟩ := setAll_alloc w t cs 0 z (by omega)
  rw [e1]
  have : z' = cs.toArray := by
    apply Array.ext_getElem?
    intro i
    by_cases hi : i < cs.length
    · have := e4 i hi
      rw [Nat.zero_add] at this
      rw [this]
      simp
    · rw [Array.getElem?_eq_none (by omega), Array.getElem?_eq_none (by simp; omega)]
  rw [this]

/-- Variables of lodgers: made, and written. -/
theorem lod_var : ∃ zL : Array Value, (∀ w : World, bigAlloc Try.prog 91 w = .ok (.pointer (some ⟨w.heap.size, 0, none⟩)) (w.alloc (.cells zL 91))) ∧
    ∀ (w : World) (cs : List Value), cs.length = 66 → (∀ v ∈ cs, v.oneCell' = true) → bigStore Try.prog 91 (.pointer (some ⟨w.heap.size, 0, none⟩)) (.agg cs.toArray) (w.alloc (.cells zL 91)) = .ok () (w.alloc (.cells cs.toArray 91)) := by
  obtain ⟨zL, hz, hal⟩ := alloc_any 91 66 (by kernel_rfl)
  refine ⟨zL, hal, fun w cs hl h1 => ?_⟩
  have hth := there_new w zL 91
  rw [hz] at hth
  have := run_storeAt_mid (P := Try.prog) (w.alloc (.cells zL 91)) w.heap.size 0 91 cs.toArray (by rw [show cs.toArray.size = 66 by simp [hl]]; exact hth) (by rw [show cs.toArray.size = 66 by simp [hl]]; kernel_rfl) (all_oneCell_toArray h1)
  rw [List.toList_toArray, alloc_setCells w 91 cs zL (by omega)] at this
  exact this
/-- Variables of houses: made, and written. -/
theorem house_var : ∃ zH : Array Value, zH.size = 34 ∧ (∀ w : World, bigAlloc Try.prog 60 w = .ok (.pointer (some ⟨w.heap.size, 0, none⟩)) (w.alloc (.cells zH 60))) ∧
    ∀ (w : World) (cs : List Value), cs.length = 34 → (∀ v ∈ cs, v.oneCell' = true) → bigStore Try.prog 60 (.pointer (some ⟨w.heap.size, 0, none⟩)) (.agg cs.toArray) (w.alloc (.cells zH 60)) = .ok () (w.alloc (.cells cs.toArray 60)) := by
  obtain ⟨zH, hz, hal⟩ := alloc_any 60 34 (by kernel_rfl)
  refine ⟨zH, hz, hal, fun w cs hl h1 => ?_⟩
  have hth := there_new w zH 60
  rw [hz] at hth
  have := run_storeAt_mid (P := Try.prog) (w.alloc (.cells zH 60)) w.heap.size 0 60 cs.toArray (by rw [show cs.toArray.size = 34 by simp [hl]]; exact hth) (by rw [show cs.toArray.size = 34 by simp [hl]]; kernel_rfl) (all_oneCell_toArray h1)
  rw [List.toList_toArray, alloc_setCells w 60 cs zH (by omega)] at this
  exact this

/-- A map out of an array of maps. -/
theorem idx_at0 (m0 m1 m2 m3 m4 m5 : E3) (w : World) : idxRun Try.prog 88 (.agg (flat [m0, m1, m2, m3, m4, m5]).toArray) (.int .i64 0) w = .ok (.agg #[.bool m0.1, .int .i64 m0.2.1, .bool m0.2.2]) w := by kernel_rfl
theorem idx_at1 (m0 m1 m2 m3 m4 m5 : E3) (w : World) : idxRun Try.prog 88 (.agg (flat [m0, m1, m2, m3, m4, m5]).toArray) (.int .i64 1) w = .ok (.agg #[.bool m1.1, .int .i64 m1.2.1, .bool m1.2.2]) w := by kernel_rfl
theorem idx_at2 (m0 m1 m2 m3 m4 m5 : E3) (w : World) : idxRun Try.prog 88 (.agg (flat [m0, m1, m2, m3, m4, m5]).toArray) (.int .i64 2) w = .ok (.agg #[.bool m2.1, .int .i64 m2.2.1, .bool m2.2.2]) w := by kernel_rfl
theorem idx_at3 (m0 m1 m2 m3 m4 m5 : E3) (w : World) : idxRun Try.prog 88 (.agg (flat [m0, m1, m2, m3, m4, m5]).toArray) (.int .i64 3) w = .ok (.agg #[.bool m3.1, .int .i64 m3.2.1, .bool m3.2.2]) w := by kernel_rfl
theorem idx_at4 (m0 m1 m2 m3 m4 m5 : E3) (w : World) : idxRun Try.prog 88 (.agg (flat [m0, m1, m2, m3, m4, m5]).toArray) (.int .i64 4) w = .ok (.agg #[.bool m4.1, .int .i64 m4.2.1, .bool m4.2.2]) w := by kernel_rfl
theorem idx_at5 (m0 m1 m2 m3 m4 m5 : E3) (w : World) : idxRun Try.prog 88 (.agg (flat [m0, m1, m2, m3, m4, m5]).toArray) (.int .i64 5) w = .ok (.agg #[.bool m5.1, .int .i64 m5.2.1, .bool m5.2.2]) w := by kernel_rfl
theorem idx_maps (ms : List E3) (hm : ms.length = 6) (k : Nat) (hk : k < 6) (w : World) : idxRun Try.prog 88 (.agg (flat ms).toArray) (.int .i64 k) w = .ok (.agg #[.bool (ms.getD k noM).1, .int .i64 (ms.getD k noM).2.1, .bool (ms.getD k noM).2.2]) w := by
  match ms, hm with
  | [m0, m1, m2, m3, m4, m5], _ =>
    match k, hk with
    | 0, _ => exact idx_at0 m0 m1 m2 m3 m4 m5 w
    | 1, _ => exact idx_at1 m0 m1 m2 m3 m4 m5 w
    | 2, _ => exact idx_at2 m0 m1 m2 m3 m4 m5 w
    | 3, _ => exact idx_at3 m0 m1 m2 m3 m4 m5 w
    | 4, _ => exact idx_at4 m0 m1 m2 m3 m4 m5 w
    | 5, _ => exact idx_at5 m0 m1 m2 m3 m4 m5 w
end Go.Proofs.Ytjegndgdpmlbaaa
