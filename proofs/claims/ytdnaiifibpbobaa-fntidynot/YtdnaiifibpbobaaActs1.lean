/-
  What the program's own ActsTidy does: a map from guests to their last acts.
-/
import Derived.Test.YtdnaiifibpbobaaActs0
import Derived.Maps.Keyed
set_option linter.unusedSimpArgs false
namespace Go.Proofs.Ytdnaiifibpbobaa
open Go.RowKit Go.Maps
open Go.ChangeMaps (setBlock modify_eq_set)

def actV (a : A5) : Value := .agg #[.int .i64 a.1, .int .i64 a.2.1, .int .i64 a.2.2.1, .int .i64 a.2.2.2.1, .int .i64 a.2.2.2.2]
/-- A map from numbers to acts; what is not there is nothing. -/
def MapA (w : World) (r : Nat) (L : Int → A5) : Prop :=
  ∃ es clock, w.heap[r]? = some (.map es clock) ∧ (∀ (i j : Nat) (e e' : MapEntry), es.toList[i]? = some e → es.toList[j]? = some e' → i ≠ j → e.key ≠ e'.key) ∧
    (∀ e ∈ es.toList, ∃ f, e.key = .int .i64 f ∧ (Lit.int .i64 f).wf = true ∧ e.val = actV (L f)) ∧ ∀ f, L f ≠ noA → ∃ e ∈ es.toList, e.key = .int .i64 f
theorem keyA : Keyed Try.prog 3 := int_keyed Try.underlying3
theorem zeroAct (w : World) : (zeroValue 27).run Try.prog w = .ok (actV noA) w := by kernel_rfl
theorem MapA.lt {w : World} {r : Nat} {L : Int → A5} (h : MapA w r L) : r < w.heap.size := by
  obtain ⟨es, clock, hb, _⟩ := h
  rcases Nat.lt_or_ge r w.heap.size with h | h
  · exact h
  · rw [Array.getElem?_eq_none h] at hb; cases hb
theorem MapA.below {N : Nat} {w w' : World} {r : Nat} {L : Int → A5} (h : MapA w r L) (hB : Below N w w') (hN : r < N) : MapA w' r L := by
  obtain ⟨es, clock, hb, h⟩ := h
  exact ⟨es, clock, (hB.block r hN).trans hb, h⟩
theorem MapA.new (w : World) : MapA (w.alloc (.map #[] 0)) w.heap.size (fun _ => noA) :=
  ⟨#[], 0, by simp only [World.alloc]; exact Array.getElem?_push_size, fun i j e e' h => by simp at h, fun e he => by simp at he, fun f h => (h rfl).elim⟩
theorem keys_act {es : Array MapEntry} {L : Int → A5} (he : ∀ e ∈ es.toList, ∃ f, e.key = .int .i64 f ∧ (Lit.int .i64 f).wf = true ∧ e.val = actV (L f)) : ∀ e ∈ es.toList, ∃ l, keyOf Try.prog 3 e.key = some l := fun e hm => by
  obtain ⟨f, e1, e2, _⟩ := he e hm
  exact ⟨_, by rw [e1]; exact keyOf_int_mk Try.underlying3 e2⟩
theorem find_act {es : Array MapEntry} {L : Int → A5} (hp : ∀ (i j : Nat) (e e' : MapEntry), es.toList[i]? = some e → es.toList[j]? = some e' → i ≠ j → e.key ≠ e'.key)
    (he : ∀ e ∈ es.toList, ∃ f, e.key = .int .i64 f ∧ (Lit.int .i64 f).wf = true ∧ e.val = actV (L f)) (hfa : ∀ f, L f ≠ noA → ∃ e ∈ es.toList, e.key = .int .i64 f) (f : Int) (hf : (Lit.int .i64 f).wf = true) :
    ((∀ w, (Instr.findKey 3 (.int .i64 f) es.toList).run Try.prog w = .ok none w) ∧ L f = noA ∧ ∀ e ∈ es.toList, e.key ≠ .int .i64 f) ∨
    ∃ j e0, (∀ w, (Instr.findKey 3 (.int .i64 f) es.toList).run Try.prog w = .ok (some (j, actV (L f))) w) ∧ es.toList[j]? = some e0 ∧ e0.key = .int .i64 f ∧ e0.val = actV (L f) := by
  have hkey := keyOf_int_mk Try.underlying3 hf
  by_cases hx : ∃ e ∈ es.toList, e.key = .int .i64 f
  · obtain ⟨e0, hm0, hk0⟩ := hx
    obtain ⟨j, hj⟩ := List.getElem?_of_mem hm0
    obtain ⟨f0, e1, _, e3⟩ := he e0 hm0
    obtain rfl : f0 = f := by rw [hk0] at e1; simp at e1; exact e1.symm
    refine Or.inr ⟨j, e0, fun w => ?_, hj, hk0, e3⟩
    rcases keyA.find w hkey es.toList (keys_act he) with h | ⟨j', e', h1, h2', h3'⟩
    · exact (h.2 e0 hm0 hk0).elim
    · by_cases hjj : j = j'
      · subst hjj
        rw [hj] at h2'
        cases h2'
        rw [← e3]
        exact h1
      · exact (hp j j' e0 e' hj h2' hjj (by rw [hk0, h3'])).elim
  · have hno : ∀ e ∈ es.toList, e.key ≠ .int .i64 f := fun e hm hk => hx ⟨e, hm, hk⟩
    refine Or.inl ⟨fun w => ?_, ?_, hno⟩
    · rcases keyA.find w hkey es.toList (keys_act he) with h | ⟨j, e0, h1, h2', h3⟩
      · exact h.1
      · exact (hno e0 (List.mem_of_getElem? h2') h3).elim
    · by_cases hl : L f = noA
      · exact hl
      · exact (hx (hfa f hl)).elim

def lookA (P : Program) (t : TypeId) (m k : Value) (w : World) : Result Value := (Instr.lookup t m k false).run P w
def updAR (P : Program) (t : TypeId) (m k v : Value) (w : World) : Result Unit := (Instr.mapUpdate t m k v).run P w
def nextAR : Result Value → Result Next
  | .ok v w => .ok (.value v) w
  | .halt h w => .halt h w
theorem nextAR_ok (v : Value) (w : World) : nextAR (.ok v w) = .ok (.value v) w := rfl
def skipAR : Result Unit → Result Next
  | .ok _ w => .ok .skip w
  | .halt h w => .halt h w
theorem skipAR_ok (v : Unit) (w : World) : skipAR (.ok v w) = .ok .skip w := rfl
theorem exec_lookA (ρ : Operand → Value) (dst : Option Tmp) (ty : TypeId) (pos : String) (after : Array _) (guard : Option _) (x y : Operand) (w : World) :
    (execOp ρ ⟨dst, .lookup 36 x y false, ty, pos, after, guard⟩).run Try.prog w = nextAR (lookA Try.prog 36 (ρ x) (ρ y) w) := by
  unfold lookA execOp
  simp only [Sem.run_bind]
  cases (Instr.lookup 36 (ρ x) (ρ y) false).run Try.prog w <;> rfl
theorem exec_updA (ρ : Operand → Value) (dst : Option Tmp) (ty : TypeId) (pos : String) (after : Array _) (guard : Option _) (m x y : Operand) (w : World) :
    (execOp ρ ⟨dst, .mapUpdate 36 m x y, ty, pos, after, guard⟩).run Try.prog w = skipAR (updAR Try.prog 36 (ρ m) (ρ x) (ρ y) w) := by
  unfold updAR execOp
  simp only [Sem.run_bind]
  cases (Instr.mapUpdate 36 (ρ m) (ρ x) (ρ y)).run Try.prog w <;> rfl

theorem MapA.look {w : World} {r : Nat} {L : Int → A5} (h : MapA w r L) (f : Int) (hf : (Lit.int .i64 f).wf = true) : lookA Try.prog 36 (.map (some r)) (.int .i64 f) w = .ok (actV (L f)) w := by
  obtain ⟨es, clock, hb, hp, he, hfa⟩ := h
  have hkey := keyOf_int_mk Try.underlying3 hf
  unfold lookA
  rcases find_act hp he hfa f hf with ⟨h1, h2, _⟩ | ⟨j, e0, h1, _⟩
  · simp [Instr.lookup, run_underlying Try.underlying36, MapKept.run_getObj_map hb, keyA.check w _ hkey, h1 w, zeroAct, Result.andThen]
    rw [h2]
    rfl
  · simp [Instr.lookup, run_underlying Try.underlying36, MapKept.run_getObj_map hb, keyA.check w _ hkey, h1 w, Result.andThen]

theorem set_map {w : World} {r : Nat} {es es' : Array MapEntry} {clock clock' : Nat} (hb : w.heap[r]? = some (.map es clock)) : (setBlock w r (.map es' clock')).heap[r]? = some (.map es' clock') := by
  have hlt : r < w.heap.size := by
    rcases Nat.lt_or_ge r w.heap.size with h | h
    · exact h
    · rw [Array.getElem?_eq_none h] at hb; cases hb
  simp [setBlock, hlt]
theorem below_set {N : Nat} {w : World} {r : Nat} {es' : Array MapEntry} {clock' : Nat} (hN : N ≤ r) : Below N w (setBlock w r (.map es' clock')) :=
  ⟨rfl, rfl, rfl, by simp [setBlock], fun k hk => by
    have : r ≠ k := by omega
    simp [setBlock, Array.getElem?_setIfInBounds_ne this]⟩
theorem MapA.put {w : World} {r : Nat} {L : Int → A5} (h : MapA w r L) (f : Int) (hf : (Lit.int .i64 f).wf = true) (a : A5) :
    ∃ w', updAR Try.prog 36 (.map (some r)) (.int .i64 f) (actV a) w = .ok () w' ∧ MapA w' r (updA L f a) ∧ w'.heap.size = w.heap.size ∧ ∀ N, N ≤ r → Below N w w' := by
  obtain ⟨es, clock, hb, hp, he, hfa⟩ := h
  have hkey := keyOf_int_mk Try.underlying3 hf
  unfold updAR
  rcases find_act hp he hfa f hf with ⟨h1, h2, hno⟩ | ⟨j, e0, h1, hj0, hk0, _⟩
  · refine ⟨setBlock w r (.map (es.push ⟨.int .i64 f, actV a, clock⟩) (clock + 1)), ?_, ⟨_, _, set_map hb, fun i k e e' hi hk hik => ?_, fun e hm => ?_, fun f' hf' => ?_⟩, by simp [setBlock], fun N hN => below_set hN⟩
    · simp [Instr.mapUpdate, run_underlying Try.underlying36, MapKept.run_getObj_map hb, keyA.check w false hkey, h1 w, MapKept.run_setObj_map _ hb, Result.andThen, setBlock]
    · rw [Array.toList_push] at hi hk
      have hlen : es.toList.length = es.size := by simp
      by_cases hi' : i < es.toList.length
      · rw [List.getElem?_append_left hi'] at hi
        by_cases hk' : k < es.toList.length
        · rw [List.getElem?_append_left hk'] at hk
          exact hp i k e e' hi hk hik
        · rw [List.getElem?_append_right (by omega)] at hk
          have : k - es.toList.length = 0 := by
            have := (List.getElem?_eq_some_iff.1 hk).1
            simp at this
            omega
          rw [this] at hk
          simp at hk
          subst hk
          exact hno e (List.mem_of_getElem? hi)
      · rw [List.getElem?_append_right (by omega)] at hi
        have hi0 : i - es.toList.length = 0 := by
          have := (List.getElem?_eq_some_iff.1 hi).1
          simp at this
          omega
        rw [hi0] at hi
        simp at hi
        subst hi
        by_cases hk' : k < es.toList.length
        · rw [List.getElem?_append_left hk'] at hk
          exact fun e => hno e' (List.mem_of_getElem? hk) e.symm
        · have hkl := (List.getElem?_eq_some_iff.1 hk).1
          simp at hkl
          omega
    · rw [Array.toList_push, List.mem_append] at hm
      rcases hm with hm | hm
      · obtain ⟨f', e1, e2, e3⟩ := he e hm
        have hff : f' ≠ f := fun e' => hno e hm (by rw [e1, e'])
        exact ⟨f', e1, e2, by rw [updA_other L a hff]; exact e3⟩
      · simp at hm
        subst hm
        exact ⟨f, rfl, hf, by rw [updA_same]⟩
    · by_cases hff : f' = f
      · exact ⟨_, by rw [Array.toList_push]; exact List.mem_append_right _ (List.mem_singleton.2 rfl), by rw [hff]⟩
      · rw [updA_other L a hff] at hf'
        obtain ⟨e, hm, hk⟩ := hfa f' hf'
        exact ⟨e, by rw [Array.toList_push]; exact List.mem_append_left _ hm, hk⟩
  · have hj : es[j]? = some e0 := by simpa using hj0
    have hlist : (es.modify j (fun e' => { e' with key := .int .i64 f, val := actV a })).toList = es.toList.set j { e0 with key := .int .i64 f, val := actV a } := by rw [Array.toList_modify, modify_eq_set _ _ _ _ hj0]
    have hjl := (List.getElem?_eq_some_iff.1 hj0).1
    have hoth : ∀ (i : Nat) (e : MapEntry), es.toList[i]? = some e → i ≠ j → e.key ≠ .int .i64 f := fun i e hi hij => by
      have k1 := hp i j e e0 hi hj0 hij
      rwa [hk0] at k1
    refine ⟨setBlock w r (.map (es.modify j (fun e' => { e' with key := .int .i64 f, val := actV a })) clock), ?_, ⟨_, _, set_map hb, fun i k e e' hi hk hik => ?_, fun e hm => ?_, fun f' hf' => ?_⟩, by simp [setBlock], fun N hN => below_set hN⟩
    · simp [Instr.mapUpdate, run_underlying Try.underlying36, MapKept.run_getObj_map hb, keyA.check w false hkey, h1 w, hj, hk0, keyA.stays w hkey, MapKept.run_setObj_map _ hb, Result.andThen, setBlock]
    · rw [hlist, List.getElem?_set] at hi hk
      by_cases hi' : j = i
      · rw [if_pos hi', if_pos hjl] at hi
        cases hi
        rw [if_neg (by omega)] at hk
        exact fun e => hoth k e' hk (by omega) e.symm
      · rw [if_neg hi'] at hi
        by_cases hk' : j = k
        · rw [if_pos hk', if_pos hjl] at hk
          cases hk
          exact hoth i e hi (by omega)
        · rw [if_neg hk'] at hk
          exact hp i k e e' hi hk hik
    · rw [hlist] at hm
      obtain ⟨i, hi⟩ := List.getElem?_of_mem hm
      rw [List.getElem?_set] at hi
      by_cases hi' : j = i
      · rw [if_pos hi', if_pos hjl] at hi
        cases hi
        exact ⟨f, rfl, hf, by rw [updA_same]⟩
      · rw [if_neg hi'] at hi
        have hme := List.mem_of_getElem? hi
        obtain ⟨f', d1, d2, d3⟩ := he e hme
        have hff : f' ≠ f := fun e' => hoth i e hi (by omega) (by rw [d1, e'])
        exact ⟨f', d1, d2, by rw [updA_other L a hff]; exact d3⟩
    · by_cases hff : f' = f
      · refine ⟨_, by rw [hlist]; exact List.mem_iff_getElem?.2 ⟨j, by rw [List.getElem?_set, if_pos rfl, if_pos hjl]⟩, by rw [hff]⟩
      · rw [updA_other L a hff] at hf'
        obtain ⟨e, hm, hk⟩ := hfa f' hf'
        obtain ⟨i, hi⟩ := List.getElem?_of_mem hm
        have hij : j ≠ i := fun e' => by
          subst e'
          rw [hj0] at hi
          cases hi
          rw [hk0] at hk
          simp at hk
          exact hff hk.symm
        exact ⟨e, by rw [hlist]; exact List.mem_iff_getElem?.2 ⟨i, by rw [List.getElem?_set, if_neg hij]; exact hi⟩, hk⟩

set_option maxHeartbeats 400000 in
theorem implGuestsOwn (a0 a1 a2 a3 a4 : Int) (w : World) :
    Calls Try.prog 13 #[.agg #[.int .i64 a0, .int .i64 a1, .int .i64 a2, .int .i64 a3, .int .i64 a4]] w fun e w' => e = .returned (.bool (ownA (a0, a1, a2, a3, a4))) ∧ Below w.heap.size w w' := by
  by_cases h1 : a0 ≥ 1
  · by_cases h5 : a0 ≤ 5
    · rw [show ownA (a0, a1, a2, a3, a4) = true by simp [ownA, h5]; omega]
      go_enter Try.func13, Try.ntmps13
      go_wp2
      go_ret
      refine ⟨rfl, ?_⟩
      (repeat' (with_reducible (first | exact Below.refl _ _ | apply Below.setCell | apply Below.alloc | apply below_drewN | apply Below.drew | refine Below.trans ?_ (Below.mono (by assumption) ?_)))) <;> (first | exact Nat.le_refl _ | (simp; done) | (simp; omega) | (simp at *; omega))
    · rw [show ownA (a0, a1, a2, a3, a4) = false by simp [ownA, h5]]
      go_enter Try.func13, Try.ntmps13
      go_wp2
      go_ret
      refine ⟨rfl, ?_⟩
      (repeat' (with_reducible (first | exact Below.refl _ _ | apply Below.setCell | apply Below.alloc | apply below_drewN | apply Below.drew | refine Below.trans ?_ (Below.mono (by assumption) ?_)))) <;> (first | exact Nat.le_refl _ | (simp; done) | (simp; omega) | (simp at *; omega))
  · rw [show ownA (a0, a1, a2, a3, a4) = false by simp [ownA]; omega]
    go_enter Try.func13, Try.ntmps13
    go_wp2
    go_ret
    refine ⟨rfl, ?_⟩
    (repeat' (with_reducible (first | exact Below.refl _ _ | apply Below.setCell | apply Below.alloc | apply below_drewN | apply Below.drew | refine Below.trans ?_ (Below.mono (by assumption) ?_)))) <;> (first | exact Nat.le_refl _ | (simp; done) | (simp; omega) | (simp at *; omega))
set_option maxHeartbeats 400000 in
theorem implToTable (a0 a1 a2 a3 a4 : Int) (w : World) :
    Calls Try.prog 14 #[.agg #[.int .i64 a0, .int .i64 a1, .int .i64 a2, .int .i64 a3, .int .i64 a4]] w fun e w' => e = .returned (.bool (toTab (a0, a1, a2, a3, a4))) ∧ Below w.heap.size w w' := by
  cases h1 : a0 == 2
  · rw [show toTab (a0, a1, a2, a3, a4) = false by rw [toTab, h1]; rfl]
    go_enter Try.func14, Try.ntmps14
    go_wp2
    go_ret
    refine ⟨rfl, ?_⟩
    (repeat' (with_reducible (first | exact Below.refl _ _ | apply Below.setCell | apply Below.alloc | apply below_drewN | apply Below.drew | refine Below.trans ?_ (Below.mono (by assumption) ?_)))) <;> (first | exact Nat.le_refl _ | (simp; done) | (simp; omega) | (simp at *; omega))
  · by_cases h2 : a2 < 2
    · rw [show toTab (a0, a1, a2, a3, a4) = true by rw [toTab, h1]; simpa using h2]
      go_enter Try.func14, Try.ntmps14
      go_wp2
      go_ret
      refine ⟨rfl, ?_⟩
      (repeat' (with_reducible (first | exact Below.refl _ _ | apply Below.setCell | apply Below.alloc | apply below_drewN | apply Below.drew | refine Below.trans ?_ (Below.mono (by assumption) ?_)))) <;> (first | exact Nat.le_refl _ | (simp; done) | (simp; omega) | (simp at *; omega))
    · rw [show toTab (a0, a1, a2, a3, a4) = false by rw [toTab, h1]; simpa using h2]
      go_enter Try.func14, Try.ntmps14
      go_wp2
      go_ret
      refine ⟨rfl, ?_⟩
      (repeat' (with_reducible (first | exact Below.refl _ _ | apply Below.setCell | apply Below.alloc | apply below_drewN | apply Below.drew | refine Below.trans ?_ (Below.mono (by assumption) ?_)))) <;> (first | exact Nat.le_refl _ | (simp; done) | (simp; omega) | (simp at *; omega))
theorem runA_skip {x : A5} {l : List A5} {L : Int → A5} (h : ownA x = false) : runA L (x :: l) = runA L l := by rw [runA, h]; rfl
theorem runA_stop {x : A5} {l : List A5} {L : Int → A5} (h : ownA x = true) (h1 : toTab (L x.2.1) = true) (h2 : (x.1 == 5) = false) : runA L (x :: l) = false := by rw [runA, h, h1, h2]; rfl
theorem runA_go {x : A5} {l : List A5} {L : Int → A5} (h : ownA x = true) (h1 : (toTab (L x.2.1) && !(x.1 == 5)) = false) : runA L (x :: l) = runA (updA L x.2.1 x) l := by rw [runA, h, h1]; rfl

section
attribute [local go_sem ↓] exec_lookA exec_updA
attribute [local go_sem] nextAR_ok skipAR_ok
set_option maxHeartbeats 2000000 in
theorem implActsTidy (b o len cap : Nat) (xs : List A5) (w : World) (hl : xs.length = len) (hm : len ≤ 2000000) (hb : b < w.heap.size) (hc : Acts w b o xs) (hwf : ∀ x ∈ xs, (Lit.int .i64 x.2.1).wf = true) :
    Calls Try.prog 7 #[.slice (some ⟨b, o, none⟩) len cap] w fun e w' => e = .returned (.bool (tidyA xs)) ∧ Below w.heap.size w w' := by
  have hmm := @run_makeMap Try.prog
  rw [← runA_tidy]
  go_enter Try.func7, Try.ntmps7
  go_wp2_with (fail)
  clear hmm
  go_loopw [9] (fun i wr => ∃ k : Nat, ∃ L, k ≤ len ∧ i = .int .i64 k ∧ Hid (runA (fun _ => noA) xs = runA L (xs.drop k)) ∧ Hid (MapA wr w.heap.size L) ∧ Below w.heap.size w wr) (fun i _ => len - (intOf i).toNat)
  case atStart => exact ⟨0, _, Nat.zero_le _, rfl, rfl, MapA.new w, (Below.refl _ _).alloc (Nat.le_refl _) _⟩
  case round =>
    obtain ⟨k, L, hk, rfl, hok, hM, hB⟩ := hrel
    have hs := hB.size
    by_cases hlt : k < len
    · have hki : (k : Int) < (len : Int) := by omega
      have hd := getD_drop xs k (by omega)
      rcases hE : xs.getD k noA with ⟨a0, a1, a2, a3, a4⟩
      obtain ⟨c0, c1, c2, c3, c4⟩ := hc.at hB hb (by omega) hE
      have hw1 : (Lit.int .i64 a1).wf = true := by
        have := hwf (xs.getD k noA) (by rw [List.getD_eq_getElem?_getD, List.getElem?_eq_getElem (by omega)]; exact List.getElem_mem _)
        rw [hE] at this
        exact this
      rw [hE] at hd
      clear hE
      have hML := hM.out.lt
      have hMl : ∀ w' : World, Below wr.heap.size wr w' → MapA w' w.heap.size L := fun w' h => hM.out.below h hML
      have hcell : ∀ (w' : World), Below (wr.heap.size + 1) (wr.alloc (.cells #[.int .i64 a0, .int .i64 a1, .int .i64 a2, .int .i64 a3, .int .i64 a4] 27)) w' → ∀ (j : Nat) v, (#[.int .i64 a0, .int .i64 a1, .int .i64 a2, .int .i64 a3, .int .i64 a4] : Array Value)[j]? = some v → w'.cell? ⟨wr.heap.size, j, none⟩ = some v := fun w' h j v hv => by
        rw [h.cell (p := ⟨wr.heap.size, j, none⟩) (Nat.lt_succ_self _)]
        simpa using hv
      cases h2 : ownA (a0, a1, a2, a3, a4)
      · have HN : Hid (runA (fun _ => noA) xs = runA L (xs.drop (k + 1))) := by
          show _ = _
          rw [hok.out, hd]
          exact runA_skip h2
        clear hok hd
        go_wp2_with (go_at_call 13; refine (implGuestsOwn _ _ _ _ _ _).mono ?_; rw [h2]; rintro e w' ⟨rfl, hB'⟩)
        have hBw : Below wr.heap.size wr w' := ((Below.refl wr.heap.size wr).alloc (Nat.le_refl _) _).trans (hB'.mono (by simp))
        refine ⟨⟨k + 1, L, by omega, by go_num, HN, hMl _ hBw, hB.trans (hBw.mono hs)⟩, ?_⟩
        simp [intOf]; omega
      · rcases hL : L a1 with ⟨l0, l1, l2, l3, l4⟩
        have hLk : ∀ w' : World, Below wr.heap.size wr w' → lookA Try.prog 36 (.map (some w.heap.size)) (.int .i64 a1) w' = .ok (.agg #[.int .i64 l0, .int .i64 l1, .int .i64 l2, .int .i64 l3, .int .i64 l4]) w' := fun w' h => by
          have := (hMl w' h).look a1 hw1
          rw [hL] at this
          exact this
        have hBw : ∀ w', Below (wr.heap.size + 1) (wr.alloc (.cells #[.int .i64 a0, .int .i64 a1, .int .i64 a2, .int .i64 a3, .int .i64 a4] 27)) w' → Below wr.heap.size wr w' := fun w' h => ((Below.refl wr.heap.size wr).alloc (Nat.le_refl _) _).trans (h.mono (Nat.le_succ _))
        have hPut : ∀ w', Below wr.heap.size wr w' → ∃ w2, updAR Try.prog 36 (.map (some w.heap.size)) (.int .i64 a1) (.agg #[.int .i64 a0, .int .i64 a1, .int .i64 a2, .int .i64 a3, .int .i64 a4]) w' = .ok () w2 ∧ Hid (MapA w2 w.heap.size (updA L a1 (a0, a1, a2, a3, a4))) ∧ Hid (Below w.heap.size w w2) := fun w' h => by
          obtain ⟨w2, q1, q2, q3, q4⟩ := (hMl w' h).put a1 hw1 (a0, a1, a2, a3, a4)
          exact ⟨w2, q1, q2, (hB.trans (h.mono hs)).trans (q4 _ (Nat.le_refl _))⟩
        have HG : (toTab (l0, l1, l2, l3, l4) && !(a0 == 5)) = false → Hid (runA (fun _ => noA) xs = runA (updA L a1 (a0, a1, a2, a3, a4)) (xs.drop (k + 1))) := fun h => by
          show _ = _
          rw [hok.out, hd]
          refine runA_go h2 ?_
          show (toTab (L a1) && _) = false
          rw [hL]
          exact h
        have HS : toTab (l0, l1, l2, l3, l4) = true → (a0 == 5) = false → Hid (runA (fun _ => noA) xs = false) := fun h h' => by
          show _ = _
          rw [hok.out, hd]
          refine runA_stop h2 ?_ h'
          show toTab (L a1) = true
          rw [hL]
          exact h
        clear hok hd hMl hM hL
        cases h3 : toTab (l0, l1, l2, l3, l4)
        · have HN := HG (by rw [h3]; rfl)
          clear HG HS
          go_wp2_with (first | (go_at_call 13; refine (implGuestsOwn _ _ _ _ _ _).mono ?_; rw [h2]; rintro e w' ⟨rfl, hB'⟩; rw [World.size_alloc] at hB'; have d0 := hcell _ hB' 0 _ rfl; have d1 := hcell _ hB' 1 _ rfl; have d2 := hcell _ hB' 2 _ rfl; have d3 := hcell _ hB' 3 _ rfl; have d4 := hcell _ hB' 4 _ rfl; have hk1 := hLk _ (hBw _ hB')) | (go_at_call 14; refine (implToTable _ _ _ _ _ _).mono ?_; rw [h3]; rintro e w2 ⟨rfl, hB2⟩; have hB2 := hB'.trans (hB2.mono (by have := hB'.size; rw [World.size_alloc] at this; omega)); have d0 := hcell _ hB2 0 _ rfl; have d1 := hcell _ hB2 1 _ rfl; have d2 := hcell _ hB2 2 _ rfl; have d3 := hcell _ hB2 3 _ rfl; have d4 := hcell _ hB2 4 _ rfl; obtain ⟨w3, hup, HM, HB⟩ := hPut _ (hBw _ hB2)) | fail)
          refine ⟨⟨k + 1, _, by omega, by go_num, HN, HM, HB.out⟩, ?_⟩
          simp [intOf]; omega
        · cases h4 : a0 == 5
          · have HN := HS h3 h4
            clear HG HS
            have h4' : (a0 != 5) = true := by simpa using h4
            go_wp2_with (first | (go_at_call 13; refine (implGuestsOwn _ _ _ _ _ _).mono ?_; rw [h2]; rintro e w' ⟨rfl, hB'⟩; rw [World.size_alloc] at hB'; have d0 := hcell _ hB' 0 _ rfl; have d1 := hcell _ hB' 1 _ rfl; have d2 := hcell _ hB' 2 _ rfl; have d3 := hcell _ hB' 3 _ rfl; have d4 := hcell _ hB' 4 _ rfl; have hk1 := hLk _ (hBw _ hB')) | (go_at_call 14; refine (implToTable _ _ _ _ _ _).mono ?_; rw [h3]; rintro e w2 ⟨rfl, hB2⟩; have hB2 := hB'.trans (hB2.mono (by have := hB'.size; rw [World.size_alloc] at this; omega)); have d0 := hcell _ hB2 0 _ rfl; have d1 := hcell _ hB2 1 _ rfl; have d2 := hcell _ hB2 2 _ rfl; have d3 := hcell _ hB2 3 _ rfl; have d4 := hcell _ hB2 4 _ rfl; obtain ⟨w3, hup, HM, HB⟩ := hPut _ (hBw _ hB2)) | fail)
            go_ret
            refine ⟨by rw [HN.out]; rfl, ?_⟩
            exact hB.trans ((hBw _ hB2).mono hs)
          · have HN := HG (by rw [h3, h4]; rfl)
            clear HG HS
            have h4' : (a0 != 5) = false := by simpa using h4
            go_wp2_with (first | (go_at_call 13; refine (implGuestsOwn _ _ _ _ _ _).mono ?_; rw [h2]; rintro e w' ⟨rfl, hB'⟩; rw [World.size_alloc] at hB'; have d0 := hcell _ hB' 0 _ rfl; have d1 := hcell _ hB' 1 _ rfl; have d2 := hcell _ hB' 2 _ rfl; have d3 := hcell _ hB' 3 _ rfl; have d4 := hcell _ hB' 4 _ rfl; have hk1 := hLk _ (hBw _ hB')) | (go_at_call 14; refine (implToTable _ _ _ _ _ _).mono ?_; rw [h3]; rintro e w2 ⟨rfl, hB2⟩; have hB2 := hB'.trans (hB2.mono (by have := hB'.size; rw [World.size_alloc] at this; omega)); have d0 := hcell _ hB2 0 _ rfl; have d1 := hcell _ hB2 1 _ rfl; have d2 := hcell _ hB2 2 _ rfl; have d3 := hcell _ hB2 3 _ rfl; have d4 := hcell _ hB2 4 _ rfl; obtain ⟨w3, hup, HM, HB⟩ := hPut _ (hBw _ hB2)) | fail)
            refine ⟨⟨k + 1, _, by omega, by go_num, HN, HM, HB.out⟩, ?_⟩
            simp [intOf]; omega
    · have HA : Hid (runA (fun _ => noA) xs = true) := by
        show _ = _
        rw [hok.out, List.drop_eq_nil_of_le (by omega)]
        rfl
      clear hok
      go_wp2
      go_ret
      exact ⟨by rw [HA.out]; rfl, hB⟩
end
end Go.Proofs.Ytdnaiifibpbobaa
