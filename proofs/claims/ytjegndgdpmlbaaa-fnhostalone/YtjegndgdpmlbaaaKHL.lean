/-
  What the drawing of hosts, guests and pages gives.
-/
import Derived.Test.YtjegndgdpmlbaaaKHostDraw4
import Derived.Test.YtjegndgdpmlbaaaKHD
import Derived.Test.YtjegndgdpmlbaaaKPC
set_option linter.unusedSimpArgs false
namespace Go.Proofs.Ytjegndgdpmlbaaa
open Go.RowKit
attribute [local go_sem ↓] Go.wp_at_zero Go.wp_at_succ

/-- A host that a law draws. -/
def HostD (w w' : World) (vf vg : Value) (h : Hst) : Prop := HostIn w' w.heap.size w'.heap.size vf vg h ∧ SmallH h ∧ WfGs h.guests.length h.guests ∧ 1 ≤ h.guests.length ∧ h.guests.length ≤ 4
theorem HostD.parts {w w' : World} {vf vg : Value} {h : Hst} (d : HostD w w' vf vg h) : ∃ af cf ag cg, vf = .slice af h.frames.length cf ∧ vg = .slice ag h.guests.length cg := by
  obtain ⟨⟨⟨a, c, e, _⟩, a', c', e', _⟩, _⟩ := d
  exact ⟨a, c, a', c', e, e'⟩

end Go.Proofs.Ytjegndgdpmlbaaa

/-
  Hosts that a law holds in its variables, and what of them is read.
-/
set_option linter.unusedSimpArgs false
namespace Go.Proofs.Ytjegndgdpmlbaaa
open Go.RowKit

/-- A host in a variable. -/
def HV (W : World) (b : Nat) (vf vg : Value) (lo hi : Nat) (h : Hst) : Prop :=
  (W.cell? ⟨b, 0, none⟩ = some vf ∧ W.cell? ⟨b, 1, none⟩ = some vg ∧ W.cell? ⟨b, 2, none⟩ = some (.int .i64 h.hand)) ∧ b < W.heap.size ∧ HostIn W lo hi vf vg h ∧ hi ≤ W.heap.size
theorem HV.below {W W' : World} {b : Nat} {vf vg : Value} {lo hi : Nat} {h : Hst} (k : HV W b vf vg lo hi h) (B : Below W.heap.size W W') : HV W' b vf vg lo hi h := by
  obtain ⟨⟨c0, c1, c2⟩, l, i, s⟩ := k
  exact ⟨⟨(B.cell (p := ⟨b, 0, none⟩) l).trans c0, (B.cell (p := ⟨b, 1, none⟩) l).trans c1, (B.cell (p := ⟨b, 2, none⟩) l).trans c2⟩, Nat.lt_of_lt_of_le l B.size, i.same (below_sameIn B s), Nat.le_trans s B.size⟩
theorem HV.new {W : World} {vf vg : Value} {lo hi : Nat} {h : Hst} (k : HostIn W lo hi vf vg h) (hh : hi ≤ W.heap.size) (t : TypeId) : HV (W.alloc (.cells #[vf, vg, .int .i64 h.hand] t)) W.heap.size vf vg lo hi h :=
  ⟨by simp, by simp, k.same (below_sameIn ((Below.refl _ _).alloc (Nat.le_refl _) _) hh), Nat.le_trans hh (by simp)⟩
theorem HV.drew {W : World} {b : Nat} {vf vg : Value} {lo hi : Nat} {h : Hst} (k : HV W b vf vg lo hi h) : HV W.drew b vf vg lo hi h := k.below ((Below.refl _ _).drew)

/-- A map of a host in memory. -/
theorem host_map {W : World} {lo hi : Nat} {af ag : Option Addr} {lf cf n cg : Nat} {h : Hst} (k : HostIn W lo hi (.slice af lf cf) (.slice ag n cg) h) (kk : OkH h) (hn : h.guests.length = n) {g p : Nat} (hg : g < n) (hp : p < 6) :
    ∃ T o bm om c, ag = some ⟨T, o, none⟩ ∧ T < hi ∧ bm < hi ∧ W.cell? ⟨T, o + g * 3, none⟩ = some (.slice (some ⟨bm, om, none⟩) 6 c) ∧ W.cell? ⟨bm, om + p * 3, none⟩ = some (.bool (mAt h g p).1) ∧ W.cell? ⟨bm, om + p * 3 + 1, none⟩ = some (.int .i64 (mAt h g p).2.1) ∧ W.cell? ⟨bm, om + p * 3 + 2, none⟩ = some (.bool (mAt h g p).2.2) := by
  obtain ⟨_, hG⟩ := k.parts
  obtain ⟨hl, hG⟩ := hG
  rcases hG with h0 | ⟨T, o, rfl, t1, t2, hG⟩
  · omega
  obtain ⟨vm, vd, vs, c0, _, _, ⟨⟨a1, c1, rfl, hm⟩, _, _⟩⟩ := hG g hg
  obtain ⟨s1, _, _⟩ := kk.six g (by omega)
  have s1' : (h.guests.getD g noG).maps.length = 6 := s1
  rw [s1'] at c0 hm
  obtain ⟨_, hm⟩ := hm
  rcases hm with h0 | ⟨bm, om, rfl, m1, m2, hm⟩
  · omega
  obtain ⟨e0, e1, e2⟩ := hm p (by rw [s1']; exact hp)
  exact ⟨T, o, bm, om, c1, rfl, t2, m2, c0, e0, e1, e2⟩
end Go.Proofs.Ytjegndgdpmlbaaa
