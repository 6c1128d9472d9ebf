/-
  Copying rows whose elements are more than one cell wide; what a row of cells that is written leaves as it was; a guest that is a call's own.
-/
import Derived.Test.YtahcoklhijjenaaHostVal0
namespace Go.Proofs.Ytahcoklhijjenaa
open Go.RowKit

/-- 'copy' of n elements of s cells each. -/
theorem run_copy_wide {P : Program} (w : World) (dT sT ty elem : TypeId) (b o dLen dCap : Nat) (a : Addr) (sLen sCap n s : Nat) (cs : List Value)
    (hu : P.underlying dT = some (.slice elem)) (hs : (P.info? elem).map (·.size) = some s) (hm : Nat.min sLen dLen = n) (hn : cs.length = n * s)
    (hsrc : ∀ j v, cs[j]? = some v → w.cell? (a.add j) = some v) (hc : ∀ j, j < cs.length → (w.cell? ⟨b, o + j, none⟩).isSome = true) (hf : ∀ j, j < cs.length → w.frozen? ⟨b, o + j, none⟩ = false) (h1 : ∀ v ∈ cs, v.oneCell' = true) :
    (Builtin.copy_ #[dT, sT] ty #[.slice (some ⟨b, o, none⟩) dLen dCap, .slice (some a) sLen sCap]).run P w = .ok (goInt n) (w.setCells b o cs) := by
  have hl := run_loadCells_list (P := P) w a cs hsrc
  have hst := run_storeCells_cells (P := P) b o cs 0 w (by simpa using hc) (by simpa using hf) h1
  cases hq : P.info? elem with
  | none => simp [hq] at hs
  | some i =>
    have hi : i.size = s := by simpa [hq] using hs
    simp [Builtin.copy_, run_underlying hu, Builtin.lenOf, Builtin.firstCells, sizeOf, typeInfo, hq, hi, hm, ← hn, hl, hst]

/-- A new variable of a type whose value is many cells. -/
theorem alloc_any (t : TypeId) (n : Nat) (h : (Try.prog.info? t).map (fun i => (i.zero.map (fun v => v.cells.size))) = some (some n)) : ∃ zL : Array Value, zL.size = n ∧ ∀ w : World, (Instr.alloc t true (.tuple #[])).run Try.prog w = .ok (.pointer (some ⟨w.heap.size, 0, none⟩)) (w.alloc (.cells zL t)) := by
  cases hi : Try.prog.info? t with
  | none => rw [hi] at h; simp at h
  | some i =>
    cases hz : i.zero with
    | none => rw [hi] at h; simp [hz] at h
    | some v =>
      refine ⟨v.cells, ?_, fun w => ?_⟩
      · rw [hi] at h; simpa [hz] using h
      · simp [Instr.alloc, zeroValue, typeInfo, hi, hz, newVar, newRow]
theorem there_new (w : World) (cs : Array Value) (t : TypeId) : (w.alloc (.cells cs t)).there w.heap.size 0 cs.size := fun j hj => by
  rw [Nat.zero_add]
  exact ⟨by simp [hj], by simp⟩

theorem heap_setCells (b : Nat) : ∀ (vs : List Value) (o : Nat) (w : World) (k : Nat), k ≠ b → (w.setCells b o vs).heap[k]? = w.heap[k]?
  | [], _, _, _, _ => rfl
  | v :: r, o, w, k, h => by
    rw [World.setCells, heap_setCells b r (o + 1) _ k h]
    exact Below.heap_setCell _ _ _ _ (by simpa using h)
theorem size_setCells (b : Nat) : ∀ (vs : List Value) (o : Nat) (w : World), (w.setCells b o vs).heap.size = w.heap.size
  | [], _, _ => rfl
  | v :: r, o, w => by rw [World.setCells, size_setCells b r (o + 1) _, World.size_setCell]
theorem below_setCells {N : Nat} {w w' : World} (h : Below N w w') {b : Nat} (hb : N ≤ b) (vs : List Value) (o : Nat) : Below N w (w'.setCells b o vs) := by
  induction vs generalizing o w' with
  | nil => exact h
  | cons v r ih => exact ih (h.setCell (p := ⟨b, o, none⟩) hb v) (o + 1)
theorem amid_setCells {lo hi : Nat} {w w' : World} (h : Amid lo hi w w') {b : Nat} (hl : lo ≤ b) (hh : b < hi) (vs : List Value) (o : Nat) : Amid lo hi w (w'.setCells b o vs) := by
  induction vs generalizing o w' with
  | nil => exact h
  | cons v r ih => exact ih (h.put hl hh o v) (o + 1)
theorem sameIn_setCells {lo hi b : Nat} (hb : b < lo ∨ hi ≤ b) (w : World) (vs : List Value) (o : Nat) : SameIn lo hi w (w.setCells b o vs) := fun k h1 h2 => heap_setCells b vs o w k (by omega)
theorem Room.setCells {w : World} {b n : Nat} (h : Room w b n) (b' o : Nat) (vs : List Value) : Room (w.setCells b' o vs) b n := by
  induction vs generalizing o w with
  | nil => exact h
  | cons v r ih =>
    refine ih (w := w.setCell ⟨b', o, none⟩ v) ?_ (o + 1)
    by_cases hb : b = b'
    · subst hb; exact h.put _
    · exact fun i hi => ⟨by rw [cell_off hb]; exact (h i hi).1, by rw [frozen_put]; exact (h i hi).2⟩
theorem room_there {w : World} {b n : Nat} (h : Room w b n) : w.there b 0 n := fun j hj => by
  obtain ⟨⟨v, hv⟩, hf⟩ := h j hj
  rw [Nat.zero_add, hv]
  exact ⟨rfl, hf⟩
theorem range_cell {w : World} {b o b' : Nat} {vs : List Value} {i : Nat} {u : Value} (h : w.cell? ⟨b, i, none⟩ = some u) (hb : b ≠ b') : (w.setCells b' o vs).cell? ⟨b, i, none⟩ = some u :=
  (World.cell?_of_block (a := ⟨b, i, none⟩) (heap_setCells b' vs o w b hb)).trans h

/-- A load of a great struct, kept shut: by one hypothesis on it, not cell by cell. -/
def bigRun (P : Program) (t : TypeId) (v : Value) (w : World) : Result Value := (Instr.loadAt t v).run P w
def bigNext : Result Value → Result Next
  | .ok v w => .ok (.value v) w
  | .halt h w => .halt h w
theorem bigNext_ok (v : Value) (w : World) : bigNext (.ok v w) = .ok (.value v) w := rfl
theorem exec_lod (ρ : Operand → Value) (dst : Option Tmp) (ty : TypeId) (pos : String) (after : Array _) (guard : Option _) (x : Operand) (w : World) :
    (execOp ρ ⟨dst, .load 87 x, ty, pos, after, guard⟩).run Try.prog w = bigNext (bigRun Try.prog 87 (ρ x) w) := by
  unfold bigRun execOp
  simp only [Sem.run_bind]
  cases (Instr.loadAt 87 (ρ x)).run Try.prog w <;> rfl
theorem exec_house (ρ : Operand → Value) (dst : Option Tmp) (ty : TypeId) (pos : String) (after : Array _) (guard : Option _) (x : Operand) (w : World) :
    (execOp ρ ⟨dst, .load 72 x, ty, pos, after, guard⟩).run Try.prog w = bigNext (bigRun Try.prog 72 (ρ x) w) := by
  unfold bigRun execOp
  simp only [Sem.run_bind]
  cases (Instr.loadAt 72 (ρ x)).run Try.prog w <;> rfl
theorem big_load {t : TypeId} {d : TypeDesc} (hu : Try.prog.underlying t = some d) (hd : d.isRow = true) {cs : List Value} (hi : (Try.prog.info? t).map (·.size) = some cs.length) (b o : Nat) (w : World) (h : w.rangeAt b o cs) : bigRun Try.prog t (.pointer (some ⟨b, o, none⟩)) w = .ok (.agg cs.toArray) w :=
  run_loadAt_mid w b o t cs d h hu hd hi

/-- A guest that is a call's own: its three lists lie in memory of their own, between two blocks. -/
def OwnGuest (w : World) (lo hi : Nat) (vm vd vs : Value) (g : Gst) : Prop :=
  ∃ bm bs cm cs ad cd d0 d1, vm = .slice (some ⟨bm, 0, none⟩) g.maps.length cm ∧ vd = .slice ad g.disk.length cd ∧ vs = .slice (some ⟨bs, 0, none⟩) g.shades.length cs ∧
    Ents w bm 0 g.maps ∧ Room w bm (g.maps.length * 3) ∧ Quads w bs 0 g.shades ∧ Room w bs (g.shades.length * 4) ∧ OwnMem w d0 d1 ad g.disk.length g.disk ∧
    (lo ≤ bm ∧ bm < hi ∧ lo ≤ bs ∧ bs < hi ∧ lo ≤ d0 ∧ d1 ≤ hi ∧ bm ≠ bs ∧ (bm < d0 ∨ d1 ≤ bm) ∧ (bs < d0 ∨ d1 ≤ bs))
theorem SameIn.part {lo hi lo' hi' : Nat} {w w' : World} (s : SameIn lo hi w w') (h1 : lo ≤ lo') (h2 : hi' ≤ hi) : SameIn lo' hi' w w' := fun k a b => s k (by omega) (by omega)
theorem Room.same {lo hi : Nat} {w w' : World} (s : SameIn lo hi w w') {b n : Nat} (h : Room w b n) (h1 : lo ≤ b) (h2 : b < hi) : Room w' b n := fun j hj => by
  rw [s.cell h1 h2, s.frozen h1 h2]; exact h j hj
theorem OwnGuest.same {lo hi : Nat} {w w' : World} (s : SameIn lo hi w w') {vm vd vs : Value} {g : Gst} (h : OwnGuest w lo hi vm vd vs g) : OwnGuest w' lo hi vm vd vs g := by
  obtain ⟨bm, bs, cm, cs, ad, cd, d0, d1, e1, e2, e3, h1, h2, h3, h4, h5, n1, n2, n3, n4, n5, n6, n7⟩ := h
  exact ⟨bm, bs, cm, cs, ad, cd, d0, d1, e1, e2, e3, h1.sameH s n1 n2, h2.same s n1 n2, h3.same s n3 n4, h4.same s n3 n4, h5.same (s.part n5 n6), n1, n2, n3, n4, n5, n6, n7⟩
theorem OwnGuest.wide {lo hi lo' hi' : Nat} {w : World} {vm vd vs : Value} {g : Gst} (h : OwnGuest w lo hi vm vd vs g) (k1 : lo' ≤ lo) (k2 : hi ≤ hi') : OwnGuest w lo' hi' vm vd vs g := by
  obtain ⟨bm, bs, cm, cs, ad, cd, d0, d1, e1, e2, e3, h1, h2, h3, h4, h5, n1, n2, n3, n4, n5, n6, n7⟩ := h
  exact ⟨bm, bs, cm, cs, ad, cd, d0, d1, e1, e2, e3, h1, h2, h3, h4, h5, by omega, by omega, by omega, by omega, by omega, by omega, n7⟩
theorem OwnGuest.guest {lo hi : Nat} {w : World} {vm vd vs : Value} {g : Gst} (h : OwnGuest w lo hi vm vd vs g) : GuestIn w lo hi vm vd vs g := by
  obtain ⟨bm, bs, cm, cs, ad, cd, d0, d1, e1, e2, e3, h1, h2, h3, h4, h5, n1, n2, n3, n4, n5, n6, n7⟩ := h
  exact ⟨⟨_, _, e1, rfl, Or.inr ⟨bm, 0, rfl, n1, n2, h1⟩⟩, ⟨_, _, e2, h5.mem.wide n5 n6⟩, _, _, e3, rfl, Or.inr ⟨bs, 0, rfl, n3, n4, h3⟩⟩
end Go.Proofs.Ytahcoklhijjenaa
