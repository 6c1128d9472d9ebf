/-
  A host in memory each of whose rows lies in a block of its own, all to be written: places, and what each holds.
-/
import Derived.Test.YtjegndgdpmlbaaaKOM
import Derived.Test.YtjegndgdpmlbaaaKOSpecCopy0
namespace Go.Proofs.Ytjegndgdpmlbaaa
open Go.RowKit

/-- The rows of a host: the row of frames, the row of guests, frames, and of each guest its maps, its row of pages, its shades, its pages. -/
abbrev Pl := Sum Unit (Sum Unit (Sum Nat (Sum Nat (Sum Nat (Sum Nat (Nat × Nat))))))
def Pl.fr : Pl := Sum.inl ()
def Pl.gs : Pl := Sum.inr (Sum.inl ())
def Pl.page (i : Nat) : Pl := Sum.inr (Sum.inr (Sum.inl i))
def Pl.maps (g : Nat) : Pl := Sum.inr (Sum.inr (Sum.inr (Sum.inl g)))
def Pl.row (g : Nat) : Pl := Sum.inr (Sum.inr (Sum.inr (Sum.inr (Sum.inl g))))
def Pl.shd (g : Nat) : Pl := Sum.inr (Sum.inr (Sum.inr (Sum.inr (Sum.inr (Sum.inl g)))))
def Pl.dsk (g p : Nat) : Pl := Sum.inr (Sum.inr (Sum.inr (Sum.inr (Sum.inr (Sum.inr (g, p))))))
theorem Pl.seven {M : Pl → Prop} (x : Pl) (fr : M Pl.fr) (gs : M Pl.gs) (page : ∀ i, M (Pl.page i)) (maps : ∀ g, M (Pl.maps g)) (row : ∀ g, M (Pl.row g)) (shd : ∀ g, M (Pl.shd g)) (dsk : ∀ g p, M (Pl.dsk g p)) : M x :=
  match x with
  | Sum.inl () => fr
  | Sum.inr (Sum.inl ()) => gs
  | Sum.inr (Sum.inr (Sum.inl i)) => page i
  | Sum.inr (Sum.inr (Sum.inr (Sum.inl g))) => maps g
  | Sum.inr (Sum.inr (Sum.inr (Sum.inr (Sum.inl g)))) => row g
  | Sum.inr (Sum.inr (Sum.inr (Sum.inr (Sum.inr (Sum.inl g))))) => shd g
  | Sum.inr (Sum.inr (Sum.inr (Sum.inr (Sum.inr (Sum.inr (g, p)))))) => dsk g p
def Pl.ok (n : Nat) (x : Pl) : Prop :=
  match x with
  | Sum.inl () => True
  | Sum.inr (Sum.inl ()) => True
  | Sum.inr (Sum.inr (Sum.inl i)) => i < 8
  | Sum.inr (Sum.inr (Sum.inr (Sum.inl g))) => g < n
  | Sum.inr (Sum.inr (Sum.inr (Sum.inr (Sum.inl g)))) => g < n
  | Sum.inr (Sum.inr (Sum.inr (Sum.inr (Sum.inr (Sum.inl g))))) => g < n
  | Sum.inr (Sum.inr (Sum.inr (Sum.inr (Sum.inr (Sum.inr (g, p)))))) => g < n ∧ p < 6
def plEq : DecidableEq Pl := @instDecidableEqSum _ _ _ (@instDecidableEqSum _ _ _ (@instDecidableEqSum _ _ _ (@instDecidableEqSum _ _ _ (@instDecidableEqSum _ _ _ (@instDecidableEqSum _ _ _ _)))))
def gOf (h : Hst) (g : Nat) : Gst := h.guests.getD g noG
def Held (w : World) (A : Pl → Nat) (h : Hst) (x : Pl) : Prop :=
  match x with
  | Sum.inl () => ∀ i, i < 8 → (∃ c, w.cell? ⟨A Pl.fr, i, none⟩ = some (.slice (some ⟨A (Pl.page i), 0, none⟩) 4 c)) ∧ w.frozen? ⟨A Pl.fr, i, none⟩ = false
  | Sum.inr (Sum.inl ()) => (∀ g, g < h.guests.length → (∃ c, w.cell? ⟨A Pl.gs, g * 3, none⟩ = some (.slice (some ⟨A (Pl.maps g), 0, none⟩) 6 c)) ∧ (∃ c, w.cell? ⟨A Pl.gs, g * 3 + 1, none⟩ = some (.slice (some ⟨A (Pl.row g), 0, none⟩) 6 c)) ∧ ∃ c, w.cell? ⟨A Pl.gs, g * 3 + 2, none⟩ = some (.slice (some ⟨A (Pl.shd g), 0, none⟩) 6 c)) ∧ Room w (A Pl.gs) (h.guests.length * 3 + A (Pl.maps 9))
  | Sum.inr (Sum.inr (Sum.inl i)) => Ints w (A (Pl.page i)) 0 (h.frames.getD i []) ∧ Room w (A (Pl.page i)) 4
  | Sum.inr (Sum.inr (Sum.inr (Sum.inl g))) => Ents w (A (Pl.maps g)) 0 (gOf h g).maps ∧ Room w (A (Pl.maps g)) 18
  | Sum.inr (Sum.inr (Sum.inr (Sum.inr (Sum.inl g)))) => ∀ p, p < 6 → (∃ c, w.cell? ⟨A (Pl.row g), p, none⟩ = some (.slice (some ⟨A (Pl.dsk g p), 0, none⟩) 4 c)) ∧ w.frozen? ⟨A (Pl.row g), p, none⟩ = false
  | Sum.inr (Sum.inr (Sum.inr (Sum.inr (Sum.inr (Sum.inl g))))) => Quads w (A (Pl.shd g)) 0 (gOf h g).shades ∧ Room w (A (Pl.shd g)) 24
  | Sum.inr (Sum.inr (Sum.inr (Sum.inr (Sum.inr (Sum.inr (g, p)))))) => Ints w (A (Pl.dsk g p)) 0 ((gOf h g).disk.getD p []) ∧ Room w (A (Pl.dsk g p)) 4
structure SepH (w : World) (N : Nat) (A : Pl → Nat) (h : Hst) : Prop where
  n2 : h.guests.length ≤ 2
  f8 : h.frames.length = 8
  f4 : ∀ i, i < 8 → (h.frames.getD i []).length = 4
  sz : ∀ g, g < h.guests.length → Sized (gOf h g)
  inj : ∀ x y, x.ok h.guests.length → y.ok h.guests.length → A x = A y → x = y
  low : ∀ x, x.ok h.guests.length → N ≤ A x ∧ A x < w.heap.size
  held : ∀ x, x.ok h.guests.length → Held w A h x

theorem same_block {w w' : World} {b : Nat} (e : w'.heap[b]? = w.heap[b]?) : SameIn b (b + 1) w w' := fun j j1 j2 => by rw [show j = b by omega]; exact e
theorem Held.same {w w' : World} {A : Pl → Nat} {h : Hst} {x : Pl} (k : Held w A h x) (e : w'.heap[A x]? = w.heap[A x]?) : Held w' A h x := by
  have s := same_block e
  have c : ∀ o, w'.cell? ⟨A x, o, none⟩ = w.cell? ⟨A x, o, none⟩ := fun o => World.cell?_of_block (a := ⟨A x, o, none⟩) e
  have f : ∀ o, w'.frozen? ⟨A x, o, none⟩ = w.frozen? ⟨A x, o, none⟩ := fun o => World.frozen?_of_block (a := ⟨A x, o, none⟩) e
  have hR : ∀ n, Room w (A x) n → Room w' (A x) n := fun n r => r.same s (Nat.le_refl _) (Nat.lt_succ_self _)
  have hI : ∀ zs, Ints w (A x) 0 zs → Ints w' (A x) 0 zs := fun zs r => r.same s (Nat.le_refl _) (Nat.lt_succ_self _)
  cases x using Pl.seven with
  | fr => exact fun i hi => by rw [c, f]; exact k i hi
  | gs => exact ⟨fun g hg => by rw [c, c, c]; exact k.1 g hg, hR _ k.2⟩
  | page i => exact ⟨hI _ k.1, hR _ k.2⟩
  | maps g => exact ⟨k.1.sameH s (Nat.le_refl _) (Nat.lt_succ_self _), hR _ k.2⟩
  | row g => exact fun i hi => by rw [c, f]; exact k i hi
  | shd g => exact ⟨k.1.same s (Nat.le_refl _) (Nat.lt_succ_self _), hR _ k.2⟩
  | dsk g p => exact ⟨hI _ k.1, hR _ k.2⟩
theorem SepH.keep {w w' : World} {N : Nat} {A : Pl → Nat} {h : Hst} (k : SepH w N A h) (hs : w.heap.size ≤ w'.heap.size) (e : ∀ x, x.ok h.guests.length → w'.heap[A x]? = w.heap[A x]?) : SepH w' N A h :=
  ⟨k.n2, k.f8, k.f4, k.sz, k.inj, fun x hx => ⟨(k.low x hx).1, Nat.lt_of_lt_of_le (k.low x hx).2 hs⟩, fun x hx => (k.held x hx).same (e x hx)⟩
theorem SepH.belowK {w w' : World} {N : Nat} {A : Pl → Nat} {h : Hst} (k : SepH w N A h) (hB : Below w.heap.size w w') : SepH w' N A h := k.keep hB.size (fun x hx => hB.block _ (k.low x hx).2)
/-- Behind a store into a variable that is none of its rows. -/
theorem SepH.off {w : World} {N : Nat} {A : Pl → Nat} {h : Hst} (k : SepH w N A h) {b j : Nat} (hb : ∀ x, x.ok h.guests.length → A x ≠ b) (u : Value) : SepH (w.setCell ⟨b, j, none⟩ u) N A h :=
  k.keep (by simp) (fun x hx => Below.heap_setCell _ _ _ _ (by simpa using hb x hx))
/-- One row written, the host being another one by that alone. -/
theorem SepH.put {w w' : World} {N : Nat} {A : Pl → Nat} {h h' : Hst} (k : SepH w N A h) (x0 : Pl) (hx0 : x0.ok h.guests.length) (hl : h'.guests.length = h.guests.length) (hf8 : h'.frames.length = 8) (hf4 : ∀ i, i < 8 → (h'.frames.getD i []).length = 4) (hsz : ∀ g, g < h.guests.length → Sized (gOf h' g))
    (hs : w.heap.size = w'.heap.size) (hw : ∀ j, j ≠ A x0 → w'.heap[j]? = w.heap[j]?) (hother : ∀ x, x.ok h.guests.length → x ≠ x0 → Held w A h x → Held w A h' x) (h0 : Held w' A h' x0) : SepH w' N A h' := by
  refine ⟨by rw [hl]; exact k.n2, hf8, hf4, fun g hg => hsz g (by rw [← hl]; exact hg), fun x y hx hy => k.inj x y (by rw [← hl]; exact hx) (by rw [← hl]; exact hy), fun x hx => ?_, fun x hx => ?_⟩
  · have := k.low x (by rw [← hl]; exact hx)
    exact ⟨this.1, by omega⟩
  · rw [hl] at hx
    by_cases e : x = x0
    · rw [e]; exact h0
    · exact (hother x hx e (k.held x hx)).same (hw _ (fun e2 => e (k.inj x x0 hx hx0 e2)))
theorem gOf_set_same {h : Hst} {g : Nat} {g' : Gst} (hg : g < h.guests.length) : gOf (setG h g g') g = g' := getD_set_same _ _ _ _ hg
theorem gOf_set_ne {h : Hst} {g i : Nat} {g' : Gst} (hi : i ≠ g) : gOf (setG h g g') i = gOf h i := getD_set_ne _ _ _ hi
theorem setG_len (h : Hst) (g : Nat) (g' : Gst) : (setG h g g').guests.length = h.guests.length := List.length_set
/-- A guest changed: what of the others, and of its own other rows, is as it was. -/
theorem held_setG {w : World} {A : Pl → Nat} {h : Hst} {g : Nat} {g' : Gst} (hg : g < h.guests.length) (x : Pl) (k : Held w A h x)
    (h1 : x = Pl.maps g → g'.maps = (gOf h g).maps) (h2 : x = Pl.shd g → g'.shades = (gOf h g).shades) (h3 : ∀ p, x = Pl.dsk g p → g'.disk.getD p [] = (gOf h g).disk.getD p []) : Held w A (setG h g g') x := by
  cases x using Pl.seven with
  | fr => exact k
  | gs => exact ⟨by rw [setG_len]; exact k.1, by rw [setG_len]; exact k.2⟩
  | page i => exact k
  | maps i =>
    by_cases e : i = g
    · subst e
      show Ents w (A (Pl.maps i)) 0 (gOf (setG h i g') i).maps ∧ _
      rw [gOf_set_same hg, h1 rfl]; exact k
    · show Ents w (A (Pl.maps i)) 0 (gOf (setG h g g') i).maps ∧ _
      rw [gOf_set_ne e]; exact k
  | row i => exact k
  | shd i =>
    by_cases e : i = g
    · subst e
      show Quads w (A (Pl.shd i)) 0 (gOf (setG h i g') i).shades ∧ _
      rw [gOf_set_same hg, h2 rfl]; exact k
    · show Quads w (A (Pl.shd i)) 0 (gOf (setG h g g') i).shades ∧ _
      rw [gOf_set_ne e]; exact k
  | dsk i p =>
    by_cases e : i = g
    · subst e
      show Ints w (A (Pl.dsk i p)) 0 ((gOf (setG h i g') i).disk.getD p []) ∧ _
      rw [gOf_set_same hg, h3 p rfl]; exact k
    · show Ints w (A (Pl.dsk i p)) 0 ((gOf (setG h g g') i).disk.getD p []) ∧ _
      rw [gOf_set_ne e]; exact k
/-- As the other functions read it. -/
theorem SepH.hostIn {w : World} {N : Nat} {A : Pl → Nat} {h : Hst} (k : SepH w N A h) (cf cg : Nat) : HostIn w N w.heap.size (.slice (some ⟨A Pl.fr, 0, none⟩) 8 cf) (.slice (some ⟨A Pl.gs, 0, none⟩) h.guests.length cg) h := by
  refine ⟨⟨_, cf, by rw [k.f8], by rw [k.f8], Or.inr ⟨A Pl.fr, 0, rfl, (k.low Pl.fr trivial).1, (k.low Pl.fr trivial).2, fun i hi => ?_⟩⟩, _, cg, rfl, rfl, Or.inr ⟨A Pl.gs, 0, rfl, (k.low Pl.gs trivial).1, (k.low Pl.gs trivial).2, fun g hg => ?_⟩⟩
  · rw [k.f8] at hi
    obtain ⟨⟨c, q⟩, _⟩ := (k.held Pl.fr trivial) i hi
    have hp := k.held (Pl.page i) hi
    have hl := k.low (Pl.page i) hi
    exact ⟨_, 4, c, by simpa using q, k.f4 i hi, Or.inr ⟨A (Pl.page i), 0, rfl, hl.1, hl.2, hp.1⟩⟩
  · obtain ⟨⟨c1, q1⟩, ⟨c2, q2⟩, c3, q3⟩ := (k.held Pl.gs trivial).1 g hg
    obtain ⟨s1, s2, s3, s4⟩ := k.sz g hg
    have hm := k.held (Pl.maps g) hg
    have hlm := k.low (Pl.maps g) hg
    have hq := k.held (Pl.shd g) hg
    have hlq := k.low (Pl.shd g) hg
    have hlr := k.low (Pl.row g) hg
    refine ⟨_, _, _, by simpa using q1, by simpa using q2, by simpa using q3, ⟨_, c1, by rw [show (h.guests.getD g noG).maps.length = 6 from s1], by rw [show (h.guests.getD g noG).maps.length = 6 from s1], Or.inr ⟨A (Pl.maps g), 0, rfl, hlm.1, hlm.2, hm.1⟩⟩, ⟨_, c2, by rw [show (h.guests.getD g noG).disk.length = 6 from s2], by rw [show (h.guests.getD g noG).disk.length = 6 from s2], Or.inr ⟨A (Pl.row g), 0, rfl, hlr.1, hlr.2, fun p hp => ?_⟩⟩, _, c3, by rw [show (h.guests.getD g noG).shades.length = 6 from s4], by rw [show (h.guests.getD g noG).shades.length = 6 from s4], Or.inr ⟨A (Pl.shd g), 0, rfl, hlq.1, hlq.2, hq.1⟩⟩
    rw [show (h.guests.getD g noG).disk.length = 6 from s2] at hp
    obtain ⟨⟨c, q⟩, _⟩ := (k.held (Pl.row g) hg) p hp
    have hd := k.held (Pl.dsk g p) ⟨hg, hp⟩
    have hld := k.low (Pl.dsk g p) ⟨hg, hp⟩
    exact ⟨_, 4, c, by simpa using q, s3 p hp, Or.inr ⟨A (Pl.dsk g p), 0, rfl, hld.1, hld.2, hd.1⟩⟩
end Go.Proofs.Ytjegndgdpmlbaaa

/-
  A host that was copied has each row in a block of its own.
-/
namespace Go.Proofs.Ytjegndgdpmlbaaa
open Go.RowKit

theorem ints_room {w : World} {b : Nat} {zs : List Int} (h : Ints w b 0 zs) (hl : zs.length = 4) (hf : ∀ j, j < zs.length → w.frozen? ⟨b, j, none⟩ = false) : Room w b 4 := fun j hj => by
  have := h j (by omega)
  rw [Nat.zero_add] at this
  exact ⟨⟨_, this⟩, hf j (by omega)⟩
/-- What a guest's own memory is, block by block. -/
def GFacts (w : World) (T lo hi g : Nat) (x : Gst) (bm bs td : Nat) (pd : Nat → Nat) : Prop :=
  ((∃ c, w.cell? ⟨T, g * 3, none⟩ = some (.slice (some ⟨bm, 0, none⟩) 6 c)) ∧ (∃ c, w.cell? ⟨T, g * 3 + 1, none⟩ = some (.slice (some ⟨td, 0, none⟩) 6 c)) ∧ ∃ c, w.cell? ⟨T, g * 3 + 2, none⟩ = some (.slice (some ⟨bs, 0, none⟩) 6 c)) ∧
  (Ents w bm 0 x.maps ∧ Room w bm 18) ∧ (Quads w bs 0 x.shades ∧ Room w bs 24) ∧ (lo ≤ bm ∧ bm < hi ∧ lo ≤ bs ∧ bs < hi ∧ lo ≤ td ∧ td < hi ∧ bm ≠ bs ∧ bm ≠ td ∧ bs ≠ td) ∧
  ∀ p, p < 6 → ((∃ c, w.cell? ⟨td, p, none⟩ = some (.slice (some ⟨pd p, 0, none⟩) 4 c)) ∧ w.frozen? ⟨td, p, none⟩ = false) ∧ (Ints w (pd p) 0 (x.disk.getD p []) ∧ Room w (pd p) 4) ∧ lo ≤ pd p ∧ pd p < hi ∧ pd p ≠ td ∧ pd p ≠ bm ∧ pd p ≠ bs ∧ ∀ p', p' < p → pd p' ≠ pd p
theorem gfacts {w : World} {T lo hi g : Nat} {x : Gst} {vm vd vs : Value} (hs : Sized x) (h : OwnGuest w lo hi vm vd vs x) (c0 : w.cell? ⟨T, g * 3, none⟩ = some vm) (c1 : w.cell? ⟨T, g * 3 + 1, none⟩ = some vd) (c2 : w.cell? ⟨T, g * 3 + 2, none⟩ = some vs) : ∃ bm bs td pd, GFacts w T lo hi g x bm bs td pd := by
  obtain ⟨bm, bs, cm, cs, ad, cd, d0, d1, rfl, rfl, rfl, h1, h2, h3, h4, ⟨_, hd⟩, n1, n2, n3, n4, n5, n6, n7, n8, n9⟩ := h
  obtain ⟨s1, s2, s3, s4⟩ := hs
  rw [s1] at c0 h2
  rw [s2] at c1 hd
  rw [s4] at c2 h4
  rcases hd with h0 | ⟨td, rfl, t1, t2, pd, u1, u2⟩
  · omega
  refine ⟨bm, bs, td, pd, ⟨⟨_, c0⟩, ⟨_, c1⟩, _, c2⟩, ⟨h1, h2⟩, ⟨h3, h4⟩, ⟨n1, n2, n3, n4, by omega, by omega, n7, by omega, by omega⟩, fun p hp => ?_⟩
  obtain ⟨a1, a2, a3, ⟨c, a4⟩, a5, a6, a7⟩ := u2 p hp
  rw [s3 p hp] at a4
  refine ⟨⟨⟨c, a4⟩, a5⟩, ⟨a6, ints_room a6 (s3 p hp) a7⟩, by omega, by omega, a3, by omega, by omega, fun p' hp' => ?_⟩
  have := u1 p' p hp' hp
  omega
theorem sep_of_ownS {w : World} {N hi n s : Nat} {vf : Value} {T cg : Nat} {h : Hst} (hO : OwnHost w N hi vf (.slice (some ⟨T, 0, none⟩) n cg) h) (hR : Room w T (n * 3 + s)) (ho : okHost h = true) (hn : h.guests.length = n) (hh : hi ≤ w.heap.size) :
    ∃ A cf, vf = .slice (some ⟨A Pl.fr, 0, none⟩) 8 cf ∧ A Pl.gs = T ∧ A (.maps 9) = s ∧ SepH w N A h := by
  obtain ⟨hf8, hf4, hg1, hg2, _⟩ := okHost_frames ho
  have hsz := fun g (hg : g < h.guests.length) => (okHost_guest ho hg).1
  obtain ⟨af, cf, m0, m1, rfl, ⟨_, hM⟩, l1, l2, ag, cg', e2, hG⟩ := hO
  rw [hf8] at hM ⊢
  rcases hM with h0 | ⟨F, rfl, f1, f2, bf, w1, w2⟩
  · omega
  rcases hG with h0 | ⟨T', g0, e, t1, t2, t3, t4, t5, ps, qs, u1, u2, u3⟩
  · omega
  rw [e] at e2
  cases e2
  clear hn
  obtain ⟨n, hn⟩ : ∃ n, h.guests.length = n := ⟨_, rfl⟩
  rw [hn] at u1 u2 u3 hR
  obtain ⟨Z, hZ⟩ := Classical.axiomOfChoice (r := fun (g : Nat) (z : Nat × Nat × Nat × (Nat → Nat)) => (g < n → GFacts w T (ps g) (qs g) g (gOf h g) z.1 z.2.1 z.2.2.1 z.2.2.2) ∧ (g = 9 → z.1 = s)) (fun g => by
    by_cases hg : g < n
    · obtain ⟨vm, vd, vs, c0, c1, c2, hU⟩ := u3 g hg
      obtain ⟨bm, bs, td, pd, k⟩ := gfacts (hsz g (by omega)) hU c0 c1 c2
      exact ⟨(bm, bs, td, pd), fun _ => k, fun e => by omega⟩
    · exact ⟨(s, 0, 0, fun _ => 0), fun k => (hg k).elim, fun _ => rfl⟩)
  have h9 : (Z 9).1 = s := (hZ 9).2 rfl
  replace hZ := fun g => (hZ g).1
  obtain ⟨A, hA⟩ : ∃ A : Pl → Nat, A = fun x => match x with
    | Sum.inl () => F
    | Sum.inr (Sum.inl ()) => T
    | Sum.inr (Sum.inr (Sum.inl i)) => bf i
    | Sum.inr (Sum.inr (Sum.inr (Sum.inl g))) => (Z g).1
    | Sum.inr (Sum.inr (Sum.inr (Sum.inr (Sum.inl g)))) => (Z g).2.2.1
    | Sum.inr (Sum.inr (Sum.inr (Sum.inr (Sum.inr (Sum.inl g))))) => (Z g).2.1
    | Sum.inr (Sum.inr (Sum.inr (Sum.inr (Sum.inr (Sum.inr (g, p)))))) => (Z g).2.2.2 p := ⟨_, rfl⟩
  have aF : A Pl.fr = F := by rw [hA]; rfl
  have aG : A Pl.gs = T := by rw [hA]; rfl
  have aP : ∀ i, A (Pl.page i) = bf i := fun i => by rw [hA]; rfl
  have aM : ∀ g, A (Pl.maps g) = (Z g).1 := fun i => by rw [hA]; rfl
  have aR : ∀ g, A (Pl.row g) = (Z g).2.2.1 := fun i => by rw [hA]; rfl
  have aS : ∀ g, A (Pl.shd g) = (Z g).2.1 := fun i => by rw [hA]; rfl
  have aD : ∀ g p, A (Pl.dsk g p) = (Z g).2.2.2 p := fun i p => by rw [hA]; rfl
  clear hA
  have pg : ∀ i, i < 8 → m0 ≤ A (Pl.page i) ∧ A (Pl.page i) < m1 ∧ A (Pl.page i) ≠ F := fun i hi => by rw [aP]; obtain ⟨a, b, c, _⟩ := w2 i hi; exact ⟨a, b, c⟩
  have pm : ∀ i j, i < j → j < 8 → A (Pl.page i) < A (Pl.page j) := fun i j h1 h2 => by rw [aP, aP]; exact w1 i j h1 h2
  have zn : ∀ g, g < n → m1 ≤ ps g ∧ qs g ≤ hi ∧ (T < ps g ∨ qs g ≤ T) := fun g hg => by obtain ⟨a, b, c⟩ := u1 g hg; exact ⟨by omega, b, c⟩
  have zg : ∀ g, g < n → ps g ≤ A (Pl.maps g) ∧ A (Pl.maps g) < qs g ∧ ps g ≤ A (Pl.shd g) ∧ A (Pl.shd g) < qs g ∧ ps g ≤ A (Pl.row g) ∧ A (Pl.row g) < qs g ∧ A (Pl.maps g) ≠ A (Pl.shd g) ∧ A (Pl.maps g) ≠ A (Pl.row g) ∧ A (Pl.shd g) ≠ A (Pl.row g) := fun g hg => by rw [aM, aS, aR]; exact (hZ g hg).2.2.2.1
  have zd : ∀ g p, g < n → p < 6 → ps g ≤ A (Pl.dsk g p) ∧ A (Pl.dsk g p) < qs g ∧ A (Pl.dsk g p) ≠ A (Pl.row g) ∧ A (Pl.dsk g p) ≠ A (Pl.maps g) ∧ A (Pl.dsk g p) ≠ A (Pl.shd g) := fun g p hg hp => by rw [aD, aR, aM, aS]; obtain ⟨_, _, a, b, c, d, e, _⟩ := (hZ g hg).2.2.2.2 p hp; exact ⟨a, b, c, d, e⟩
  have zp : ∀ g p p', g < n → p < 6 → p' < p → A (Pl.dsk g p') ≠ A (Pl.dsk g p) := fun g p p' hg hp hp' => by rw [aD, aD]; exact ((hZ g hg).2.2.2.2 p hp).2.2.2.2.2.2.2 p' hp'
  have zz : ∀ g g', g < n → g' < n → g ≠ g' → qs g ≤ ps g' ∨ qs g' ≤ ps g := fun g g' h1 h2 hne => by
    rcases Nat.lt_or_gt_of_ne hne with hl | hl
    · exact Or.inl (u2 g g' hl h2)
    · exact Or.inr (u2 g' g hl h1)
  refine ⟨A, cf, by rw [aF], aG, by rw [aM]; exact h9, by omega, hf8, hf4, hsz, ?_, ?_, ?_⟩
  · rw [hn]
    intro x y hx hy e
    cases x using Pl.seven with
    | fr =>
      cases y using Pl.seven with
      | fr =>
        rfl
      | gs =>
        exfalso
        omega
      | page iy =>
        have fy := pg iy hy
        exfalso
        omega
      | maps gy =>
        have fy := zg gy hy
        have ny := zn gy hy
        exfalso
        omega
      | row gy =>
        have fy := zg gy hy
        have ny := zn gy hy
        exfalso
        omega
      | shd gy =>
        have fy := zg gy hy
        have ny := zn gy hy
        exfalso
        omega
      | dsk gy py =>
        have dy := zd gy py hy.1 hy.2
        have fy := zg gy hy.1
        have ny := zn gy hy.1
        exfalso
        omega
    | gs =>
      cases y using Pl.seven with
      | fr =>
        exfalso
        omega
      | gs =>
        rfl
      | page iy =>
        have fy := pg iy hy
        exfalso
        omega
      | maps gy =>
        have fy := zg gy hy
        have ny := zn gy hy
        exfalso
        omega
      | row gy =>
        have fy := zg gy hy
        have ny := zn gy hy
        exfalso
        omega
      | shd gy =>
        have fy := zg gy hy
        have ny := zn gy hy
        exfalso
        omega
      | dsk gy py =>
        have dy := zd gy py hy.1 hy.2
        have fy := zg gy hy.1
        have ny := zn gy hy.1
        exfalso
        omega
    | page ix =>
      cases y using Pl.seven with
      | fr =>
        have fx := pg ix hx
        exfalso
        omega
      | gs =>
        have fx := pg ix hx
        exfalso
        omega
      | page iy =>
        have fx := pg ix hx
        have fy := pg iy hy
        by_cases hij : ix = iy
        · rw [hij]
        · exfalso
          rcases Nat.lt_or_gt_of_ne hij with hl | hl
          · have := pm ix iy hl hy
            omega
          · have := pm iy ix hl hx
            omega
      | maps gy =>
        have fx := pg ix hx
        have fy := zg gy hy
        have ny := zn gy hy
        exfalso
        omega
      | row gy =>
        have fx := pg ix hx
        have fy := zg gy hy
        have ny := zn gy hy
        exfalso
        omega
      | shd gy =>
        have fx := pg ix hx
        have fy := zg gy hy
        have ny := zn gy hy
        exfalso
        omega
      | dsk gy py =>
        have fx := pg ix hx
        have dy := zd gy py hy.1 hy.2
        have fy := zg gy hy.1
        have ny := zn gy hy.1
        exfalso
        omega
    | maps gx =>
      cases y using Pl.seven with
      | fr =>
        have fx := zg gx hx
        have nx := zn gx hx
        exfalso
        omega
      | gs =>
        have fx := zg gx hx
        have nx := zn gx hx
        exfalso
        omega
      | page iy =>
        have fx := zg gx hx
        have nx := zn gx hx
        have fy := pg iy hy
        exfalso
        omega
      | maps gy =>
        have fx := zg gx hx
        have nx := zn gx hx
        have fy := zg gy hy
        have ny := zn gy hy
        by_cases hgg : gx = gy
        · rw [hgg]
        · exfalso
          have := zz gx gy hx hy hgg
          omega
      | row gy =>
        have fx := zg gx hx
        have nx := zn gx hx
        have fy := zg gy hy
        have ny := zn gy hy
        by_cases hgg : gx = gy
        · subst hgg
          exfalso
          omega
        · exfalso
          have := zz gx gy hx hy hgg
          omega
      | shd gy =>
        have fx := zg gx hx
        have nx := zn gx hx
        have fy := zg gy hy
        have ny := zn gy hy
        by_cases hgg : gx = gy
        · subst hgg
          exfalso
          omega
        · exfalso
          have := zz gx gy hx hy hgg
          omega
      | dsk gy py =>
        have fx := zg gx hx
        have nx := zn gx hx
        have dy := zd gy py hy.1 hy.2
        have fy := zg gy hy.1
        have ny := zn gy hy.1
        by_cases hgg : gx = gy
        · subst hgg
          exfalso
          omega
        · exfalso
          have := zz gx gy hx hy.1 hgg
          omega
    | row gx =>
      cases y using Pl.seven with
      | fr =>
        have fx := zg gx hx
        have nx := zn gx hx
        exfalso
        omega
      | gs =>
        have fx := zg gx hx
        have nx := zn gx hx
        exfalso
        omega
      | page iy =>
        have fx := zg gx hx
        have nx := zn gx hx
        have fy := pg iy hy
        exfalso
        omega
      | maps gy =>
        have fx := zg gx hx
        have nx := zn gx hx
        have fy := zg gy hy
        have ny := zn gy hy
        by_cases hgg : gx = gy
        · subst hgg
          exfalso
          omega
        · exfalso
          have := zz gx gy hx hy hgg
          omega
      | row gy =>
        have fx := zg gx hx
        have nx := zn gx hx
        have fy := zg gy hy
        have ny := zn gy hy
        by_cases hgg : gx = gy
        · rw [hgg]
        · exfalso
          have := zz gx gy hx hy hgg
          omega
      | shd gy =>
        have fx := zg gx hx
        have nx := zn gx hx
        have fy := zg gy hy
        have ny := zn gy hy
        by_cases hgg : gx = gy
        · subst hgg
          exfalso
          omega
        · exfalso
          have := zz gx gy hx hy hgg
          omega
      | dsk gy py =>
        have fx := zg gx hx
        have nx := zn gx hx
        have dy := zd gy py hy.1 hy.2
        have fy := zg gy hy.1
        have ny := zn gy hy.1
        by_cases hgg : gx = gy
        · subst hgg
          exfalso
          omega
        · exfalso
          have := zz gx gy hx hy.1 hgg
          omega
    | shd gx =>
      cases y using Pl.seven with
      | fr =>
        have fx := zg gx hx
        have nx := zn gx hx
        exfalso
        omega
      | gs =>
        have fx := zg gx hx
        have nx := zn gx hx
        exfalso
        omega
      | page iy =>
        have fx := zg gx hx
        have nx := zn gx hx
        have fy := pg iy hy
        exfalso
        omega
      | maps gy =>
        have fx := zg gx hx
        have nx := zn gx hx
        have fy := zg gy hy
        have ny := zn gy hy
        by_cases hgg : gx = gy
        · subst hgg
          exfalso
          omega
        · exfalso
          have := zz gx gy hx hy hgg
          omega
      | row gy =>
        have fx := zg gx hx
        have nx := zn gx hx
        have fy := zg gy hy
        have ny := zn gy hy
        by_cases hgg : gx = gy
        · subst hgg
          exfalso
          omega
        · exfalso
          have := zz gx gy hx hy hgg
          omega
      | shd gy =>
        have fx := zg gx hx
        have nx := zn gx hx
        have fy := zg gy hy
        have ny := zn gy hy
        by_cases hgg : gx = gy
        · rw [hgg]
        · exfalso
          have := zz gx gy hx hy hgg
          omega
      | dsk gy py =>
        have fx := zg gx hx
        have nx := zn gx hx
        have dy := zd gy py hy.1 hy.2
        have fy := zg gy hy.1
        have ny := zn gy hy.1
        by_cases hgg : gx = gy
        · subst hgg
          exfalso
          omega
        · exfalso
          have := zz gx gy hx hy.1 hgg
          omega
    | dsk gx px =>
      cases y using Pl.seven with
      | fr =>
        have dx := zd gx px hx.1 hx.2
        have fx := zg gx hx.1
        have nx := zn gx hx.1
        exfalso
        omega
      | gs =>
        have dx := zd gx px hx.1 hx.2
        have fx := zg gx hx.1
        have nx := zn gx hx.1
        exfalso
        omega
      | page iy =>
        have dx := zd gx px hx.1 hx.2
        have fx := zg gx hx.1
        have nx := zn gx hx.1
        have fy := pg iy hy
        exfalso
        omega
      | maps gy =>
        have dx := zd gx px hx.1 hx.2
        have fx := zg gx hx.1
        have nx := zn gx hx.1
        have fy := zg gy hy
        have ny := zn gy hy
        by_cases hgg : gx = gy
        · subst hgg
          exfalso
          omega
        · exfalso
          have := zz gx gy hx.1 hy hgg
          omega
      | row gy =>
        have dx := zd gx px hx.1 hx.2
        have fx := zg gx hx.1
        have nx := zn gx hx.1
        have fy := zg gy hy
        have ny := zn gy hy
        by_cases hgg : gx = gy
        · subst hgg
          exfalso
          omega
        · exfalso
          have := zz gx gy hx.1 hy hgg
          omega
      | shd gy =>
        have dx := zd gx px hx.1 hx.2
        have fx := zg gx hx.1
        have nx := zn gx hx.1
        have fy := zg gy hy
        have ny := zn gy hy
        by_cases hgg : gx = gy
        · subst hgg
          exfalso
          omega
        · exfalso
          have := zz gx gy hx.1 hy hgg
          omega
      | dsk gy py =>
        have dx := zd gx px hx.1 hx.2
        have fx := zg gx hx.1
        have nx := zn gx hx.1
        have dy := zd gy py hy.1 hy.2
        have fy := zg gy hy.1
        have ny := zn gy hy.1
        by_cases hgg : gx = gy
        · subst hgg
          by_cases hpp : px = py
          · rw [hpp]
          · exfalso
            rcases Nat.lt_or_gt_of_ne hpp with hl | hl
            · exact zp gx py px hx.1 hy.2 hl e
            · exact zp gx px py hx.1 hx.2 hl e.symm
        · exfalso
          have := zz gx gy hx.1 hy.1 hgg
          omega
  · rw [hn]
    intro x hx
    cases x using Pl.seven with
    | fr =>
      omega
    | gs =>
      omega
    | page ix =>
      have fx := pg ix hx
      omega
    | maps gx =>
      have fx := zg gx hx
      have nx := zn gx hx
      omega
    | row gx =>
      have fx := zg gx hx
      have nx := zn gx hx
      omega
    | shd gx =>
      have fx := zg gx hx
      have nx := zn gx hx
      omega
    | dsk gx px =>
      have dx := zd gx px hx.1 hx.2
      have fx := zg gx hx.1
      have nx := zn gx hx.1
      omega
  · rw [hn]
    intro x hx
    cases x using Pl.seven with
    | fr =>
      intro i hi
      obtain ⟨_, _, _, ⟨c, a⟩, b, _⟩ := w2 i hi
      rw [hf4 i hi] at a
      rw [aF, aP]
      exact ⟨⟨c, a⟩, b⟩
    | gs =>
      refine ⟨fun g hg => ?_, by rw [aG, hn, aM, h9]; exact hR⟩
      rw [hn] at hg
      rw [aG, aM, aR, aS]
      exact (hZ g hg).1
    | page i =>
      obtain ⟨_, _, _, _, _, a, b⟩ := w2 i hx
      show Ints w (A (Pl.page i)) 0 _ ∧ Room w (A (Pl.page i)) 4
      rw [aP]
      exact ⟨a, ints_room a (hf4 i hx) b⟩
    | maps g =>
      show Ents w (A (Pl.maps g)) 0 _ ∧ Room w (A (Pl.maps g)) 18
      rw [aM]
      exact (hZ g hx).2.1
    | row g =>
      intro p hp
      rw [aR, aD]
      exact ((hZ g hx).2.2.2.2 p hp).1
    | shd g =>
      show Quads w (A (Pl.shd g)) 0 _ ∧ Room w (A (Pl.shd g)) 24
      rw [aS]
      exact (hZ g hx).2.2.1
    | dsk g p =>
      show Ints w (A (Pl.dsk g p)) 0 _ ∧ Room w (A (Pl.dsk g p)) 4
      rw [aD]
      exact ((hZ g hx.1).2.2.2.2 p hx.2).2.1
end Go.Proofs.Ytjegndgdpmlbaaa
