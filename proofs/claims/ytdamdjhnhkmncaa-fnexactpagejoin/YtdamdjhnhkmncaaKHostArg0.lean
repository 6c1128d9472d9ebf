/-
  What a host that came in as an argument is told to the walk as.
-/
import Derived.Test.YtdamdjhnhkmncaaKQ
import Derived.Test.YtdamdjhnhkmncaaKG
import Derived.Test.YtdamdjhnhkmncaaKMemIn
import Derived.Lib.SmallJoins
import Derived.ProofKit
import Derived.OpenShut
namespace Go.Proofs.Ytdamdjhnhkmncaa
open Go.ChangeShapes Go.WideShapes Go.ChangeAt Go.RowKit Go.Joins Go.Deep

theorem cellsBh : Try.prog.cellsOf 4 = 1 := by kernel_rfl
theorem cellsZh : Try.prog.cellsOf 3 = 1 := by kernel_rfl
theorem cellsMM : Try.prog.cellsOf 163 = 3 := by kernel_rfl
theorem cellsQQ : Try.prog.cellsOf 165 = 4 := by kernel_rfl
theorem cellsGG : Try.prog.cellsOf 125 = 3 := by kernel_rfl
theorem cellsHH : Try.prog.cellsOf 38 = 3 := by kernel_rfl
theorem cellsM1 : Try.prog.cellsOf 122 = 1 := by kernel_rfl
theorem cellsM2 : Try.prog.cellsOf 123 = 1 := by kernel_rfl
theorem cellsM3 : Try.prog.cellsOf 23 = 1 := by kernel_rfl
def wfZ (z : Int) : Prop := (Lit.int .i64 z).wf = true
theorem wfZ_zero : wfZ 0 := by show (Lit.int .i64 0).wf = true; decide

set_option maxRecDepth 100000 in
theorem maps_of {H : Type} {enc : TypeId × Value → H} {W : World} {fuel : Nat} {c0 : Value} {d : DataW H} {p : List MemPlace}
    (hf : DataW.trod enc Try.prog W 0 (fun _ => true) true fuel 122 [c0] = some (d, p)) : ∃ a c es, c0 = .slice a es.length c ∧ IsMaps W 0 W.heap.size a es.length es ∧ es.length ≤ maxLen ∧ ∀ i, wfZ (es.getD i noM).2.1 := by
  rcases open_slice Try.underlying122 hf with ⟨hcs, _⟩ | ⟨x, len, c, m, n, D, Pl, hcs, _, hl, hm, hmm, _, hx⟩
  · simp at hcs
    exact ⟨none, 0, [], hcs, ⟨rfl, Or.inl rfl⟩, by simp [maxLen], fun i => by simpa [noM] using wfZ_zero⟩
  · simp at hcs
    have hlm : len ≤ m := by rw [hmm]; simpa using hl
    have each : ∀ i, i < len → ∃ e : E3, W.cell? (x.add (i * 3)) = some (.bool e.1) ∧ W.cell? (x.add (i * 3 + 1)) = some (.int .i64 e.2.1) ∧ W.cell? (x.add (i * 3 + 2)) = some (.bool e.2.2) ∧ wfZ e.2.1 := by
      intro i hi
      obtain ⟨cs', h1, h2⟩ := hx i (by omega)
      rw [cellsMM] at h1
      obtain ⟨_, hlen, hcell⟩ := World.cells?_some h1
      obtain ⟨y0, y1, y2, k, _, _, g0, g1, g2⟩ := trod_struct3 Try.underlying163 h2
      match cs', hlen with
      | [c0, c1, c2], _ =>
        obtain ⟨e0, b0⟩ : ∃ e0, c0 = .bool e0 := by
          obtain ⟨x, e, _⟩ := DataW.trod_bool Try.underlying4 (cs := [c0]) (by simpa [cellsBh] using g0)
          simp at e
          exact ⟨x, e⟩
        obtain ⟨e1, b1, wf1⟩ : ∃ e1, c1 = .int .i64 e1 ∧ wfZ e1 := by
          obtain ⟨x, e, _, hw⟩ := DataW.trod_int Try.underlying3 (cs := [c1]) (by simpa [cellsZh] using g1)
          simp at e
          exact ⟨x, e, hw⟩
        obtain ⟨e2, b2⟩ : ∃ e2, c2 = .bool e2 := by
          obtain ⟨x, e, _⟩ := DataW.trod_bool Try.underlying4 (cs := [c2]) (by simpa [cellsBh] using g2)
          simp at e
          exact ⟨x, e⟩
        have d0 := hcell 0 (by omega)
        have d1 := hcell 1 (by omega)
        have d2 := hcell 2 (by omega)
        rw [add_add] at d0 d1 d2
        exact ⟨(e0, e1, e2), by simpa [b0] using d0, by simpa [b1] using d1, by simpa [b2] using d2, wf1⟩
    by_cases h0 : len = 0
    · subst h0
      exact ⟨some x, c, [], hcs, ⟨rfl, Or.inl rfl⟩, by simp [maxLen], fun i => by simpa [noM] using wfZ_zero⟩
    · obtain ⟨f, hf'⟩ := choose_lt (α := E3) each
      obtain ⟨b, off, spot⟩ := x
      have hz := (hf' 0 (by omega)).1
      have hspot : spot = none := by simpa [Addr.add] using World.cell?_spot hz
      subst hspot
      have ad : ∀ j, (⟨b, off, none⟩ : Addr).add j = ⟨b, off + j, none⟩ := fun j => by by_cases h : j = 0 <;> simp [Addr.add, h]
      have hll : ((List.range len).map f).length = len := by simp
      refine ⟨some ⟨b, off, none⟩, c, (List.range len).map f, by rw [hll]; exact hcs, ?_, by rw [hll]; exact Nat.le_trans hl hm, fun i => ?_⟩
      · rw [hll]
        refine ⟨hll, Or.inr ⟨b, off, rfl, Nat.zero_le _, World.block_lt_of_cell? _ _ hz, fun i hi => ?_⟩⟩
        simp at hi
        have hgi : ((List.range len).map f).getD i (false, 0, false) = f i := by simp [List.getD_eq_getElem?_getD, hi]
        rw [hgi]
        have := hf' i hi
        rw [ad, ad, ad] at this
        exact ⟨this.1, this.2.1, this.2.2.1⟩
      · by_cases hi : i < len
        · have hgi : ((List.range len).map f).getD i noM = f i := by simp [List.getD_eq_getElem?_getD, hi]
          rw [hgi]
          exact (hf' i hi).2.2.2
        · have hgi : ((List.range len).map f).getD i noM = noM := by simp [List.getD_eq_getElem?_getD, hi]
          rw [hgi]
          exact wfZ_zero

set_option maxRecDepth 100000 in
theorem shades_of {H : Type} {enc : TypeId × Value → H} {W : World} {fuel : Nat} {c0 : Value} {d : DataW H} {p : List MemPlace}
    (hf : DataW.trod enc Try.prog W 0 (fun _ => true) true fuel 123 [c0] = some (d, p)) : ∃ a c ss, c0 = .slice a ss.length c ∧ IsShades W 0 W.heap.size a ss.length ss ∧ ss.length ≤ maxLen := by
  rcases open_slice Try.underlying123 hf with ⟨hcs, _⟩ | ⟨x, len, c, m, n, D, Pl, hcs, _, hl, hm, hmm, _, hx⟩
  · simp at hcs
    exact ⟨none, 0, [], hcs, ⟨rfl, Or.inl rfl⟩, by simp [maxLen]⟩
  · simp at hcs
    have hlm : len ≤ m := by rw [hmm]; simpa using hl
    have each : ∀ i, i < len → ∃ e : S4, W.cell? (x.add (i * 4)) = some (.bool e.1) ∧ W.cell? (x.add (i * 4 + 1)) = some (.int .i64 e.2.1) ∧ W.cell? (x.add (i * 4 + 2)) = some (.int .i64 e.2.2.1) ∧ W.cell? (x.add (i * 4 + 3)) = some (.bool e.2.2.2) := by
      intro i hi
      obtain ⟨cs', h1, h2⟩ := hx i (by omega)
      rw [cellsQQ] at h1
      obtain ⟨_, hlen, hcell⟩ := World.cells?_some h1
      obtain ⟨y0, y1, y2, y3, k, _, _, g0, g1, g2, g3⟩ := trod_struct4 Try.underlying165 h2
      match cs', hlen with
      | [c0, c1, c2, c3], _ =>
        obtain ⟨e0, b0⟩ : ∃ e0, c0 = .bool e0 := by
          obtain ⟨x, e, _⟩ := DataW.trod_bool Try.underlying4 (cs := [c0]) (by simpa [cellsBh] using g0)
          simp at e
          exact ⟨x, e⟩
        obtain ⟨e1, b1⟩ : ∃ e1, c1 = .int .i64 e1 := by
          obtain ⟨x, e, _, hw⟩ := DataW.trod_int Try.underlying3 (cs := [c1]) (by simpa [cellsZh] using g1)
          simp at e
          exact ⟨x, e⟩
        obtain ⟨e2, b2⟩ : ∃ e2, c2 = .int .i64 e2 := by
          obtain ⟨x, e, _, hw⟩ := DataW.trod_int Try.underlying3 (cs := [c2]) (by simpa [cellsZh] using g2)
          simp at e
          exact ⟨x, e⟩
        obtain ⟨e3, b3⟩ : ∃ e3, c3 = .bool e3 := by
          obtain ⟨x, e, _⟩ := DataW.trod_bool Try.underlying4 (cs := [c3]) (by simpa [cellsBh] using g3)
          simp at e
          exact ⟨x, e⟩
        have d0 := hcell 0 (by omega)
        have d1 := hcell 1 (by omega)
        have d2 := hcell 2 (by omega)
        have d3 := hcell 3 (by omega)
        rw [add_add] at d0 d1 d2 d3
        exact ⟨(e0, e1, e2, e3), by simpa [b0] using d0, by simpa [b1] using d1, by simpa [b2] using d2, by simpa [b3] using d3⟩
    by_cases h0 : len = 0
    · subst h0
      exact ⟨some x, c, [], hcs, ⟨rfl, Or.inl rfl⟩, by simp [maxLen]⟩
    · obtain ⟨f, hf'⟩ := choose_lt (α := S4) each
      obtain ⟨b, off, spot⟩ := x
      have hz := (hf' 0 (by omega)).1
      have hspot : spot = none := by simpa [Addr.add] using World.cell?_spot hz
      subst hspot
      have ad : ∀ j, (⟨b, off, none⟩ : Addr).add j = ⟨b, off + j, none⟩ := fun j => by by_cases h : j = 0 <;> simp [Addr.add, h]
      have hll : ((List.range len).map f).length = len := by simp
      refine ⟨some ⟨b, off, none⟩, c, (List.range len).map f, by rw [hll]; exact hcs, ?_, by rw [hll]; exact Nat.le_trans hl hm⟩
      rw [hll]
      refine ⟨hll, Or.inr ⟨b, off, rfl, Nat.zero_le _, World.block_lt_of_cell? _ _ hz, fun i hi => ?_⟩⟩
      simp at hi
      have hgi : ((List.range len).map f).getD i noS = f i := by simp [List.getD_eq_getElem?_getD, hi]
      rw [hgi]
      have := hf' i hi
      rw [ad, ad, ad, ad] at this
      exact this

set_option maxRecDepth 100000 in
theorem memc_of {H : Type} {enc : TypeId × Value → H} {W : World} {fuel : Nat} {c0 : Value} {d : DataW H} {p : List MemPlace}
    (hf : DataW.trod enc Try.prog W 0 (fun _ => true) true fuel 23 [c0] = some (d, p)) : ∃ a c ms, c0 = .slice a ms.length c ∧ IsMem W 0 W.heap.size a ms.length ms ∧ ms.length ≤ maxLen ∧ ∀ i, i < ms.length → (ms.getD i []).length ≤ maxLen := by
  obtain ⟨a, l, c, rfl⟩ : ∃ a l c, c0 = .slice a l c := by
    rcases open_slice Try.underlying23 hf with ⟨hcs, _⟩ | ⟨x, l, c, m, n, D, Pl, hcs, _⟩
    · simp at hcs; exact ⟨_, _, _, hcs⟩
    · simp at hcs; exact ⟨_, _, _, hcs⟩
  obtain ⟨ms, hM, h1, h2⟩ := mem_of (a := a) (len := l) (cap := c) ⟨fuel, by simpa [Value.cells] using hf⟩
  have hl := hM.1
  subst hl
  exact ⟨a, c, ms, rfl, hM, h1, h2⟩

set_option maxRecDepth 100000 in
theorem guest_of {H : Type} {enc : TypeId × Value → H} {W : World} {fuel : Nat} {c0 c1 c2 : Value} {x : DataW H × List MemPlace}
    (hf : DataW.trod enc Try.prog W 0 (fun _ => true) true fuel 125 [c0, c1, c2] = some x) : ∃ g, GuestIn W 0 W.heap.size c0 c1 c2 g ∧ LenG g ∧ ∀ i, wfZ (g.maps.getD i noM).2.1 := by
  obtain ⟨⟨d0, p0⟩, ⟨d1, p1⟩, ⟨d2, p2⟩, k, _, _, g0, g1, g2⟩ := trod_struct3 Try.underlying125 hf
  obtain ⟨a0, k0, es, rfl, hM, l0, hw⟩ := maps_of (c0 := c0) (by simpa [cellsM1] using g0)
  obtain ⟨a1, k1, ms, rfl, hD, l1, l1'⟩ := memc_of (c0 := c1) (by simpa [cellsM3] using g1)
  obtain ⟨a2, k2, ss, rfl, hS, l2⟩ := shades_of (c0 := c2) (by simpa [cellsM2] using g2)
  exact ⟨⟨es, ms, ss⟩, ⟨⟨_, _, rfl, hM⟩, ⟨_, _, rfl, hD⟩, _, _, rfl, hS⟩, ⟨l0, l2, l1, l1'⟩, hw⟩

set_option maxRecDepth 100000 in
theorem guests_of {H : Type} {enc : TypeId × Value → H} {W : World} {fuel : Nat} {c0 : Value} {d : DataW H} {p : List MemPlace}
    (hf : DataW.trod enc Try.prog W 0 (fun _ => true) true fuel 36 [c0] = some (d, p)) : ∃ a c gs, c0 = .slice a gs.length c ∧ IsGuests W 0 W.heap.size a gs.length gs ∧ gs.length ≤ maxLen ∧ ∀ i, i < gs.length → LenG (gs.getD i noG) ∧ ∀ p, wfZ ((gs.getD i noG).maps.getD p noM).2.1 := by
  rcases open_slice Try.underlying36 hf with ⟨hcs, _⟩ | ⟨x, len, c, m, n, D, Pl, hcs, _, hl, hm, hmm, _, hx⟩
  · simp at hcs
    exact ⟨none, 0, [], hcs, ⟨rfl, Or.inl rfl⟩, by simp [maxLen], fun i hi => by simp at hi⟩
  · simp at hcs
    have hlm : len ≤ m := by rw [hmm]; simpa using hl
    have each : ∀ i, i < len → ∃ g : Gst, (∃ vm vd vs, W.cell? (x.add (i * 3)) = some vm ∧ W.cell? (x.add (i * 3 + 1)) = some vd ∧ W.cell? (x.add (i * 3 + 2)) = some vs ∧ GuestIn W 0 W.heap.size vm vd vs g) ∧ LenG g ∧ ∀ p, wfZ (g.maps.getD p noM).2.1 := by
      intro i hi
      obtain ⟨cs', h1, h2⟩ := hx i (by omega)
      rw [cellsGG] at h1
      obtain ⟨_, hlen, hcell⟩ := World.cells?_some h1
      match cs', hlen with
      | [c0, c1, c2], _ =>
        obtain ⟨g, hG, hL, hw⟩ := guest_of h2
        have d0 := hcell 0 (by omega)
        have d1 := hcell 1 (by omega)
        have d2 := hcell 2 (by omega)
        rw [add_add] at d0 d1 d2
        exact ⟨g, ⟨c0, c1, c2, by simpa using d0, by simpa using d1, by simpa using d2, hG⟩, hL, hw⟩
    by_cases h0 : len = 0
    · subst h0
      exact ⟨some x, c, [], hcs, ⟨rfl, Or.inl rfl⟩, by simp [maxLen], fun i hi => by simp at hi⟩
    · have inhG : Inhabited Gst := ⟨noG⟩
      obtain ⟨f, hf'⟩ := choose_lt (α := Gst) each
      obtain ⟨b, off, spot⟩ := x
      obtain ⟨vm0, _, _, hz, _⟩ := (hf' 0 (by omega)).1
      have hspot : spot = none := by simpa [Addr.add] using World.cell?_spot hz
      subst hspot
      have ad : ∀ j, (⟨b, off, none⟩ : Addr).add j = ⟨b, off + j, none⟩ := fun j => by by_cases h : j = 0 <;> simp [Addr.add, h]
      have hll : ((List.range len).map f).length = len := by simp
      have hgi : ∀ i, i < len → ((List.range len).map f).getD i noG = f i := fun i hi => by simp [List.getD_eq_getElem?_getD, hi]
      refine ⟨some ⟨b, off, none⟩, c, (List.range len).map f, by rw [hll]; exact hcs, ?_, by rw [hll]; exact Nat.le_trans hl hm, fun i hi => ?_⟩
      · rw [hll]
        refine ⟨hll, Or.inr ⟨b, off, rfl, Nat.zero_le _, World.block_lt_of_cell? _ _ hz, fun i hi => ?_⟩⟩
        rw [hgi i hi]
        obtain ⟨vm, vd, vs, e0, e1, e2, hG⟩ := (hf' i hi).1
        rw [ad] at e0 e1 e2
        exact ⟨vm, vd, vs, e0, e1, e2, hG⟩
      · rw [hll] at hi
        rw [hgi i hi]
        exact (hf' i hi).2

/-- A host that came in as an argument. -/
def ArgHost (w : World) (vf vg : Value) (h : Hst) : Prop := HostIn w 0 w.heap.size vf vg h ∧ LenH h ∧ WfGs h.guests.length h.guests
set_option maxRecDepth 100000 in
theorem host_of {H : Type} {enc : TypeId × Value → H} {W : World} {base : Nat} {v : Value} {d : DataW H} {p : List MemPlace} (hv : Value.okWide Try.prog W .any base 38 v)
    (h : DataW.Trod enc Try.prog W 0 (fun _ => true) true 38 v d p) : ∃ vf vg hst, v = .agg #[vf, vg, .int .i64 hst.hand] ∧ ArgHost W vf vg hst := by
  obtain ⟨c0, c1, c2, ⟨d0, p0⟩, ⟨d1, p1⟩, ⟨d2, p2⟩, m, rfl, _, _, hy0, hy1, hy2⟩ := open_agg3 Try.underlying38 (by kernel_rfl) cellsHH hv h
  obtain ⟨a0, k0, ms, rfl, hF, l0, l0'⟩ := memc_of (c0 := c0) hy0
  obtain ⟨a1, k1, gs, rfl, hG, l1, l1'⟩ := guests_of (c0 := c1) hy1
  obtain ⟨n, e2, _⟩ := DataW.trod_int Try.underlying3 hy2
  simp at e2
  subst e2
  exact ⟨_, _, ⟨ms, gs, n⟩, rfl, ⟨⟨_, _, rfl, hF⟩, _, _, rfl, hG⟩, ⟨l0, l0', l1, fun i hi => (l1' i hi).1⟩, fun i hi p _ => (l1' i hi).2 p⟩
end Go.Proofs.Ytdamdjhnhkmncaa
