/-
  Hosts as they lie in memory: maps, shades, guests, hosts; what is kept of them.
-/
import Derived.Test.YtahcoklhijjenaaMem0
namespace Go.Proofs.Ytahcoklhijjenaa
open Go.RowKit

/-- A shade: whether there is one, its page, its frame, whether it may be written. -/
abbrev S4 := Bool × Int × Int × Bool
def noS : S4 := (false, 0, 0, false)
def noM : E3 := (false, 0, false)
/-- A guest, a host. -/
structure Gst where
  maps : List E3
  disk : List (List Int)
  shades : List S4
structure Hst where
  frames : List (List Int)
  guests : List Gst
  hand : Int
def noG : Gst := ⟨[], [], []⟩

/-- Shades from a place of a block on. -/
def Quads (w : World) (b o : Nat) (ss : List S4) : Prop := ∀ i, i < ss.length →
  w.cell? ⟨b, o + i * 4, none⟩ = some (.bool (ss.getD i noS).1) ∧ w.cell? ⟨b, o + i * 4 + 1, none⟩ = some (.int .i64 (ss.getD i noS).2.1) ∧
  w.cell? ⟨b, o + i * 4 + 2, none⟩ = some (.int .i64 (ss.getD i noS).2.2.1) ∧ w.cell? ⟨b, o + i * 4 + 3, none⟩ = some (.bool (ss.getD i noS).2.2.2)

/-- Lists of maps, of shades, all of them between two blocks. -/
def IsMaps (w : World) (lo hi : Nat) (a : Option Addr) (len : Nat) (es : List E3) : Prop := es.length = len ∧ (len = 0 ∨ ∃ b o, a = some ⟨b, o, none⟩ ∧ lo ≤ b ∧ b < hi ∧ Ents w b o es)
def IsShades (w : World) (lo hi : Nat) (a : Option Addr) (len : Nat) (ss : List S4) : Prop := ss.length = len ∧ (len = 0 ∨ ∃ b o, a = some ⟨b, o, none⟩ ∧ lo ≤ b ∧ b < hi ∧ Quads w b o ss)

/-- A guest's three lists, as a value's parts and as cells. -/
def GuestIn (w : World) (lo hi : Nat) (vm vd vs : Value) (g : Gst) : Prop :=
  (∃ a c, vm = .slice a g.maps.length c ∧ IsMaps w lo hi a g.maps.length g.maps) ∧ (∃ a c, vd = .slice a g.disk.length c ∧ IsMem w lo hi a g.disk.length g.disk) ∧
  (∃ a c, vs = .slice a g.shades.length c ∧ IsShades w lo hi a g.shades.length g.shades)
def GuestAt (w : World) (lo hi b o : Nat) (g : Gst) : Prop :=
  ∃ vm vd vs, w.cell? ⟨b, o, none⟩ = some vm ∧ w.cell? ⟨b, o + 1, none⟩ = some vd ∧ w.cell? ⟨b, o + 2, none⟩ = some vs ∧ GuestIn w lo hi vm vd vs g
def IsGuests (w : World) (lo hi : Nat) (a : Option Addr) (len : Nat) (gs : List Gst) : Prop := gs.length = len ∧ (len = 0 ∨ ∃ b o, a = some ⟨b, o, none⟩ ∧ lo ≤ b ∧ b < hi ∧ ∀ i, i < len → GuestAt w lo hi b (o + i * 3) (gs.getD i noG))
/-- A host's parts. -/
def HostIn (w : World) (lo hi : Nat) (vf vg : Value) (h : Hst) : Prop :=
  (∃ a c, vf = .slice a h.frames.length c ∧ IsMem w lo hi a h.frames.length h.frames) ∧ (∃ a c, vg = .slice a h.guests.length c ∧ IsGuests w lo hi a h.guests.length h.guests)

theorem Ents.sameH {lo hi : Nat} {w w' : World} (s : SameIn lo hi w w') {b o : Nat} {es : List E3} (h : Ents w b o es) (hl : lo ≤ b) (hh : b < hi) : Ents w' b o es := fun i hi =>
  ⟨(s.cell hl hh).trans (h i hi).1, (s.cell hl hh).trans (h i hi).2.1, (s.cell hl hh).trans (h i hi).2.2⟩
theorem Quads.same {lo hi : Nat} {w w' : World} (s : SameIn lo hi w w') {b o : Nat} {ss : List S4} (h : Quads w b o ss) (hl : lo ≤ b) (hh : b < hi) : Quads w' b o ss := fun i hi =>
  ⟨(s.cell hl hh).trans (h i hi).1, (s.cell hl hh).trans (h i hi).2.1, (s.cell hl hh).trans (h i hi).2.2.1, (s.cell hl hh).trans (h i hi).2.2.2⟩
theorem IsMaps.same {lo hi : Nat} {w w' : World} (s : SameIn lo hi w w') {a : Option Addr} {len : Nat} {es : List E3} (h : IsMaps w lo hi a len es) : IsMaps w' lo hi a len es := by
  obtain ⟨h1, h2⟩ := h
  rcases h2 with h2 | ⟨b, o, e, g1, g2, g3⟩
  · exact ⟨h1, Or.inl h2⟩
  · exact ⟨h1, Or.inr ⟨b, o, e, g1, g2, g3.sameH s g1 g2⟩⟩
theorem IsShades.same {lo hi : Nat} {w w' : World} (s : SameIn lo hi w w') {a : Option Addr} {len : Nat} {ss : List S4} (h : IsShades w lo hi a len ss) : IsShades w' lo hi a len ss := by
  obtain ⟨h1, h2⟩ := h
  rcases h2 with h2 | ⟨b, o, e, g1, g2, g3⟩
  · exact ⟨h1, Or.inl h2⟩
  · exact ⟨h1, Or.inr ⟨b, o, e, g1, g2, g3.same s g1 g2⟩⟩
theorem IsMaps.wide {lo hi lo' hi' : Nat} {w : World} {a : Option Addr} {len : Nat} {es : List E3} (h : IsMaps w lo hi a len es) (k1 : lo' ≤ lo) (k2 : hi ≤ hi') : IsMaps w lo' hi' a len es := by
  obtain ⟨h1, h2⟩ := h
  rcases h2 with h2 | ⟨b, o, e, g1, g2, g3⟩
  · exact ⟨h1, Or.inl h2⟩
  · exact ⟨h1, Or.inr ⟨b, o, e, by omega, by omega, g3⟩⟩
theorem IsShades.wide {lo hi lo' hi' : Nat} {w : World} {a : Option Addr} {len : Nat} {ss : List S4} (h : IsShades w lo hi a len ss) (k1 : lo' ≤ lo) (k2 : hi ≤ hi') : IsShades w lo' hi' a len ss := by
  obtain ⟨h1, h2⟩ := h
  rcases h2 with h2 | ⟨b, o, e, g1, g2, g3⟩
  · exact ⟨h1, Or.inl h2⟩
  · exact ⟨h1, Or.inr ⟨b, o, e, by omega, by omega, g3⟩⟩
theorem GuestIn.same {lo hi : Nat} {w w' : World} (s : SameIn lo hi w w') {vm vd vs : Value} {g : Gst} (h : GuestIn w lo hi vm vd vs g) : GuestIn w' lo hi vm vd vs g := by
  obtain ⟨⟨a1, c1, e1, h1⟩, ⟨a2, c2, e2, h2⟩, a3, c3, e3, h3⟩ := h
  exact ⟨⟨a1, c1, e1, h1.same s⟩, ⟨a2, c2, e2, h2.same s⟩, a3, c3, e3, h3.same s⟩
theorem GuestIn.wide {lo hi lo' hi' : Nat} {w : World} {vm vd vs : Value} {g : Gst} (h : GuestIn w lo hi vm vd vs g) (k1 : lo' ≤ lo) (k2 : hi ≤ hi') : GuestIn w lo' hi' vm vd vs g := by
  obtain ⟨⟨a1, c1, e1, h1⟩, ⟨a2, c2, e2, h2⟩, a3, c3, e3, h3⟩ := h
  exact ⟨⟨a1, c1, e1, h1.wide k1 k2⟩, ⟨a2, c2, e2, h2.wide k1 k2⟩, a3, c3, e3, h3.wide k1 k2⟩
theorem GuestAt.same {lo hi : Nat} {w w' : World} (s : SameIn lo hi w w') {b o : Nat} {g : Gst} (h : GuestAt w lo hi b o g) (hl : lo ≤ b) (hh : b < hi) : GuestAt w' lo hi b o g := by
  obtain ⟨vm, vd, vs, h1, h2, h3, h4⟩ := h
  exact ⟨vm, vd, vs, (s.cell hl hh).trans h1, (s.cell hl hh).trans h2, (s.cell hl hh).trans h3, h4.same s⟩
theorem IsGuests.same {lo hi : Nat} {w w' : World} (s : SameIn lo hi w w') {a : Option Addr} {len : Nat} {gs : List Gst} (h : IsGuests w lo hi a len gs) : IsGuests w' lo hi a len gs := by
  obtain ⟨h1, h2⟩ := h
  rcases h2 with h2 | ⟨b, o, e, g1, g2, g3⟩
  · exact ⟨h1, Or.inl h2⟩
  · exact ⟨h1, Or.inr ⟨b, o, e, g1, g2, fun i hi => (g3 i hi).same s g1 g2⟩⟩
theorem IsGuests.wide {lo hi lo' hi' : Nat} {w : World} {a : Option Addr} {len : Nat} {gs : List Gst} (h : IsGuests w lo hi a len gs) (k1 : lo' ≤ lo) (k2 : hi ≤ hi') : IsGuests w lo' hi' a len gs := by
  obtain ⟨h1, h2⟩ := h
  rcases h2 with h2 | ⟨b, o, e, g1, g2, g3⟩
  · exact ⟨h1, Or.inl h2⟩
  · refine ⟨h1, Or.inr ⟨b, o, e, by omega, by omega, fun i hi => ?_⟩⟩
    obtain ⟨vm, vd, vs, q1, q2, q3, q4⟩ := g3 i hi
    exact ⟨vm, vd, vs, q1, q2, q3, q4.wide k1 k2⟩
theorem HostIn.same {lo hi : Nat} {w w' : World} (s : SameIn lo hi w w') {vf vg : Value} {h : Hst} (k : HostIn w lo hi vf vg h) : HostIn w' lo hi vf vg h := by
  obtain ⟨⟨a1, c1, e1, h1⟩, a2, c2, e2, h2⟩ := k
  exact ⟨⟨a1, c1, e1, h1.same s⟩, a2, c2, e2, h2.same s⟩
theorem HostIn.wide {lo hi lo' hi' : Nat} {w : World} {vf vg : Value} {h : Hst} (k : HostIn w lo hi vf vg h) (k1 : lo' ≤ lo) (k2 : hi ≤ hi') : HostIn w lo' hi' vf vg h := by
  obtain ⟨⟨a1, c1, e1, h1⟩, a2, c2, e2, h2⟩ := k
  exact ⟨⟨a1, c1, e1, h1.wide k1 k2⟩, a2, c2, e2, h2.wide k1 k2⟩

/-- One guest of a host, as cells; one map of it. -/
theorem IsGuests.get {w : World} {lo hi : Nat} {a : Option Addr} {len : Nat} {gs : List Gst} (h : IsGuests w lo hi a len gs) {i : Nat} (hi' : i < len) :
    ∃ b o am cm ad cd aS cs, a = some ⟨b, o, none⟩ ∧ lo ≤ b ∧ b < hi ∧ w.cell? ⟨b, o + i * 3, none⟩ = some (.slice am (gs.getD i noG).maps.length cm) ∧ w.cell? ⟨b, o + i * 3 + 1, none⟩ = some (.slice ad (gs.getD i noG).disk.length cd) ∧
      w.cell? ⟨b, o + i * 3 + 2, none⟩ = some (.slice aS (gs.getD i noG).shades.length cs) ∧ IsMaps w lo hi am (gs.getD i noG).maps.length (gs.getD i noG).maps ∧ IsMem w lo hi ad (gs.getD i noG).disk.length (gs.getD i noG).disk ∧ IsShades w lo hi aS (gs.getD i noG).shades.length (gs.getD i noG).shades := by
  obtain ⟨_, h2⟩ := h
  rcases h2 with h2 | ⟨b, o, rfl, g1, g2, g3⟩
  · omega
  obtain ⟨vm, vd, vs, q1, q2, q3, ⟨am, cm, e1, h1⟩, ⟨ad, cd, e2, h2⟩, aS, cs, e3, h3⟩ := g3 i hi'
  subst e1 e2 e3
  exact ⟨b, o, am, cm, ad, cd, aS, cs, rfl, g1, g2, q1, q2, q3, h1, h2, h3⟩
theorem IsMem.get {w : World} {lo hi : Nat} {a : Option Addr} {len : Nat} {ms : List (List Int)} (h : IsMem w lo hi a len ms) {i : Nat} (hi' : i < len) :
    ∃ b o a' l c, a = some ⟨b, o, none⟩ ∧ lo ≤ b ∧ b < hi ∧ w.cell? ⟨b, o + i, none⟩ = some (.slice a' l c) ∧ IsInts w lo hi a' l (ms.getD i []) := by
  obtain ⟨_, h2⟩ := h
  rcases h2 with h2 | ⟨b, o, rfl, g1, g2, g3⟩
  · omega
  obtain ⟨a', l, c, q, hI⟩ := g3 i hi'
  exact ⟨b, o, a', l, c, rfl, g1, g2, q, hI⟩
theorem IsMaps.get {w : World} {lo hi : Nat} {a : Option Addr} {len : Nat} {es : List E3} (h : IsMaps w lo hi a len es) {i : Nat} (hi' : i < len) :
    ∃ b o, a = some ⟨b, o, none⟩ ∧ lo ≤ b ∧ b < hi ∧ w.cell? ⟨b, o + i * 3, none⟩ = some (.bool (es.getD i noM).1) ∧ w.cell? ⟨b, o + i * 3 + 1, none⟩ = some (.int .i64 (es.getD i noM).2.1) ∧ w.cell? ⟨b, o + i * 3 + 2, none⟩ = some (.bool (es.getD i noM).2.2) := by
  obtain ⟨h1, h2⟩ := h
  rcases h2 with h2 | ⟨b, o, rfl, g1, g2, g3⟩
  · omega
  obtain ⟨q1, q2, q3⟩ := g3 i (by omega)
  exact ⟨b, o, rfl, g1, g2, q1, q2, q3⟩
theorem IsShades.get {w : World} {lo hi : Nat} {a : Option Addr} {len : Nat} {ss : List S4} (h : IsShades w lo hi a len ss) {i : Nat} (hi' : i < len) :
    ∃ b o, a = some ⟨b, o, none⟩ ∧ lo ≤ b ∧ b < hi ∧ w.cell? ⟨b, o + i * 4, none⟩ = some (.bool (ss.getD i noS).1) ∧ w.cell? ⟨b, o + i * 4 + 1, none⟩ = some (.int .i64 (ss.getD i noS).2.1) ∧
      w.cell? ⟨b, o + i * 4 + 2, none⟩ = some (.int .i64 (ss.getD i noS).2.2.1) ∧ w.cell? ⟨b, o + i * 4 + 3, none⟩ = some (.bool (ss.getD i noS).2.2.2) := by
  obtain ⟨h1, h2⟩ := h
  rcases h2 with h2 | ⟨b, o, rfl, g1, g2, g3⟩
  · omega
  obtain ⟨q1, q2, q3, q4⟩ := g3 i (by omega)
  exact ⟨b, o, rfl, g1, g2, q1, q2, q3, q4⟩

/-! What HostOk asks, and what is counted, plainly. -/
def inF (f : Int) (m : E3) : Bool := m.1 && (m.2.1 == f)
def usersG (f : Int) (g : Gst) : Nat := (g.maps.filter (inF f)).length
def usersH (h : Hst) (f : Int) : Nat := (h.guests.map (usersG f)).sum
def blankP (zs : List Int) : Bool := zs.all fun z => z == 0
def okMap (h : Hst) (m : E3) (disk : List Int) : Bool := bif m.1 then (decide (0 ≤ m.2.1) && decide (m.2.1 ≤ 7)) && (blankP disk && (!m.2.2 || (usersH h m.2.1 == 1))) else decide (m = noM)
def okShade (g : Gst) (s : S4) : Bool := bif s.1 then (decide (2 ≤ s.2.1) && decide (s.2.1 ≤ 5)) && ((g.maps.getD s.2.1.toNat noM).1 && (((g.maps.getD s.2.1.toNat noM).2.1 == s.2.2.1) && (!s.2.2.2 || (g.maps.getD s.2.1.toNat noM).2.2))) else decide (s = noS)
def okGuest0 (g : Gst) : Bool := (g.maps.length == 6) && ((g.shades.length == 6) && (okM g.disk && (g.disk.length == 6)))
def okGuest (h : Hst) (g : Gst) : Bool := (List.range 6).all fun p => okMap h (g.maps.getD p noM) (g.disk.getD p []) && okShade g (g.shades.getD p noS)
def okHost0 (h : Hst) : Bool := okM h.frames && ((h.frames.length == 8) && ((decide (1 ≤ h.guests.length) && decide (h.guests.length ≤ 2)) && (decide (0 ≤ h.hand) && decide (h.hand ≤ 7))))
def okHost (h : Hst) : Bool := okHost0 h && (h.guests.all okGuest0 && h.guests.all (okGuest h))
end Go.Proofs.Ytahcoklhijjenaa
