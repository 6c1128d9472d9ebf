/-
  What the drawing of hosts, guests and pages gives.
-/
import Derived.Test.YtjegndgdpmlbaaaKOHostDraw4
import Derived.Test.YtjegndgdpmlbaaaKOHD
import Derived.Test.YtjegndgdpmlbaaaKOPC
set_option linter.unusedSimpArgs false
namespace Go.Proofs.Ytjegndgdpmlbaaa
open Go.RowKit
attribute [local go_sem ↓] Go.wp_at_zero Go.wp_at_succ

/-- A host that a law draws. -/
def HostD (w w' : World) (vf vg : Value) (h : Hst) : Prop := HostIn w' w.heap.size w'.heap.size vf vg h ∧ SmallH h ∧ WfGs h.guests.length h.guests ∧ 1 ≤ h.guests.length ∧ h.guests.length ≤ 4
theorem HostD.parts {w w' : World} {vf vg : Value} {h : Hst} (d : HostD w w' vf vg h) : ∃ af cf ag cg, vf = .slice af h.frames.length cf ∧ vg = .slice ag h.guests.length cg := by
  obtain ⟨⟨⟨a, c, e, _⟩, a', c', e', _⟩, _⟩ := d
  exact ⟨a, c, a', c', e, e'⟩

theorem wrap_near {x : Int} (h1 : -1000 ≤ x) (h2 : x ≤ 1000) : IntKind.i64.wrap x = x := by
  unfold IntKind.wrap
  have e1 : (2 : Int) ^ IntKind.i64.bits = 18446744073709551616 := by decide
  have e2 : (2 : Int) ^ (IntKind.i64.bits - 1) = 9223372036854775808 := by decide
  rw [e1, e2]
  have e3 : IntKind.i64.signed = true := rfl
  rw [e3]
  simp only [Bool.true_and, decide_eq_true_eq]
  split <;> omega

set_option maxRecDepth 100000 in
set_option maxHeartbeats 4000000 in
theorem drawWho (rb k0 : Nat) (vf : Value) (ag : Option Addr) (n cg : Nat) (z : Int) (w : World) (hr0 : Rd w rb k0) (hk0 : k0 ≤ 500000) (h1 : 1 ≤ n) (h4 : n ≤ 4) :
    Calls Try.prog 53 #[.pointer (some ⟨rb, 0, none⟩), .agg #[vf, .slice ag n cg, .int .i64 z]] w fun e w' => ∃ G : Int, e = .returned (.int .i64 G) ∧ -1 ≤ G ∧ G ≤ 10 ∧ (∃ k', Rd w' rb k' ∧ k' ≤ k0 + 3) ∧ Adv rb w w' := by
  have hlt := hr0.lt
  obtain ⟨W0, hW0⟩ : ∃ W0, W0 = w.alloc (.cells #[vf, .slice ag n cg, .int .i64 z] 26) := ⟨_, rfl⟩
  have a0 : Adv rb w W0 := by rw [hW0]; exact (Adv.refl _ _).alloc _
  have hr := hr0.alloc (.cells #[vf, .slice ag n cg, .int .i64 z] 26)
  rw [← hW0] at hr
  have x1 : W0.cell? ⟨w.heap.size, 1, none⟩ = some (.slice ag n cg) := by rw [hW0]; simp
  go_enter Try.func53, Try.ntmps53
  go_wp2_with (fail)
  rw [← hW0]
  clear hW0
  refine (pickA rb _ n W0 hr (by omega) (by omega) (by omega)).mono ?_
  rintro e w1 ⟨v1, rfl, g1, hr1, ha1⟩
  go_wp2_with (fail)
  refine (pickA rb _ 24 w1 hr1 (by omega) (by omega) (by omega)).mono ?_
  rintro e w2 ⟨v2, rfl, g2, hr2, ha2⟩
  go_wp2_with (fail)
  refine (pickA rb _ 24 w2 hr2 (by omega) (by omega) (by omega)).mono ?_
  rintro e w3 ⟨v3, rfl, g3, hr3, ha3⟩
  have hA := hidE (((a0.trans ha1).trans ha2).trans ha3)
  have hR := hidE hr3
  clear a0 ha1 ha2 ha3 hr hr1 hr2 hr3 x1
  have e9 : IntKind.i64.wrap ((v1 : Int) + (v2 : Int) / 23 * 3 - (v3 : Int) / 23) = (v1 : Int) + (v2 : Int) / 23 * 3 - (v3 : Int) / 23 := wrap_near (by omega) (by omega)
  go_wp2_with (fail)
  refine bodyPost_ret (v := .int .i64 ((v1 : Int) + (v2 : Int) / 23 * 3 - (v3 : Int) / 23)) (by simp [results, Try.results53, go_sem]) rfl ?_
  exact ⟨_, rfl, by omega, by omega, ⟨_, hR.out, by omega⟩, hA.out⟩

end Go.Proofs.Ytjegndgdpmlbaaa

/-
  Hosts that a law holds in its variables, and what of them is read.
-/
set_option linter.unusedSimpArgs false
namespace Go.Proofs.Ytjegndgdpmlbaaa
open Go.RowKit

/-- A host in a variable. -/
def HV (W : World) (b : Nat) (vf vg : Value) (lo hi : Nat) (h : Hst) : Prop :=
  (W.cell? ⟨b, 0, none⟩ = some vf ∧ W.cell? ⟨b, 1, none⟩ = some vg ∧ W.cell? ⟨b, 2, none⟩ = some (.int .i64 h.hand)) ∧ b < W.heap.size ∧ HostIn W lo hi vf vg h ∧ hi ≤ W.heap.size
theorem HV.below {W W' : World} {b : Nat} {vf vg : Value} {lo hi : Nat} {h : Hst} (k : HV W b vf vg lo hi h) (B : Below W.heap.size W W') : HV W' b vf vg lo hi h := by
  obtain ⟨⟨c0, c1, c2⟩, l, i, s⟩ := k
  exact ⟨⟨(B.cell (p := ⟨b, 0, none⟩) l).trans c0, (B.cell (p := ⟨b, 1, none⟩) l).trans c1, (B.cell (p := ⟨b, 2, none⟩) l).trans c2⟩, Nat.lt_of_lt_of_le l B.size, i.same (below_sameIn B s), Nat.le_trans s B.size⟩
theorem HV.new {W : World} {vf vg : Value} {lo hi : Nat} {h : Hst} (k : HostIn W lo hi vf vg h) (hh : hi ≤ W.heap.size) (t : TypeId) : HV (W.alloc (.cells #[vf, vg, .int .i64 h.hand] t)) W.heap.size vf vg lo hi h :=
  ⟨by simp, by simp, k.same (below_sameIn ((Below.refl _ _).alloc (Nat.le_refl _) _) hh), Nat.le_trans hh (by simp)⟩
theorem HV.drew {W : World} {b : Nat} {vf vg : Value} {lo hi : Nat} {h : Hst} (k : HV W b vf vg lo hi h) : HV W.drew b vf vg lo hi h := k.below ((Below.refl _ _).drew)

/-- A map of a host in memory. -/
theorem host_map {W : World} {lo hi : Nat} {af ag : Option Addr} {lf cf n cg : Nat} {h : Hst} (k : HostIn W lo hi (.slice af lf cf) (.slice ag n cg) h) (kk : OkH h) (hn : h.guests.length = n) {g p : Nat} (hg : g < n) (hp : p < 6) :
    ∃ T o bm om c, ag = some ⟨T, o, none⟩ ∧ T < hi ∧ bm < hi ∧ W.cell? ⟨T, o + g * 3, none⟩ = some (.slice (some ⟨bm, om, none⟩) 6 c) ∧ W.cell? ⟨bm, om + p * 3, none⟩ = some (.bool (mAt h g p).1) ∧ W.cell? ⟨bm, om + p * 3 + 1, none⟩ = some (.int .i64 (mAt h g p).2.1) ∧ W.cell? ⟨bm, om + p * 3 + 2, none⟩ = some (.bool (mAt h g p).2.2) := by
  obtain ⟨_, hG⟩ := k.parts
  obtain ⟨hl, hG⟩ := hG
  rcases hG with h0 | ⟨T, o, rfl, t1, t2, hG⟩
  · omega
  obtain ⟨vm, vd, vs, c0, _, _, ⟨⟨a1, c1, rfl, hm⟩, _, _⟩⟩ := hG g hg
  obtain ⟨s1, _, _⟩ := kk.six g (by omega)
  have s1' : (h.guests.getD g noG).maps.length = 6 := s1
  rw [s1'] at c0 hm
  obtain ⟨_, hm⟩ := hm
  rcases hm with h0 | ⟨bm, om, rfl, m1, m2, hm⟩
  · omega
  obtain ⟨e0, e1, e2⟩ := hm p (by rw [s1']; exact hp)
  exact ⟨T, o, bm, om, c1, rfl, t2, m2, c0, e0, e1, e2⟩
end Go.Proofs.Ytjegndgdpmlbaaa
