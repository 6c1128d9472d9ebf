/-
  A host in memory each of whose rows lies in a block of its own, all to be written: places, and what each holds.
-/
import Derived.Test.YtdamdjhnhkmncaaKM
import Derived.Test.YtdamdjhnhkmncaaKSpecCopy0
namespace Go.Proofs.Ytdamdjhnhkmncaa
open Go.RowKit

/-- The rows of a host: the row of frames, the row of guests, frames, and of each guest its maps, its row of pages, its shades, its pages. -/
abbrev Pl := Sum Unit (Sum Unit (Sum Nat (Sum Nat (Sum Nat (Sum Nat (Nat × Nat))))))
def Pl.fr : Pl := Sum.inl ()
def Pl.gs : Pl := Sum.inr (Sum.inl ())
def Pl.page (i : Nat) : Pl := Sum.inr (Sum.inr (Sum.inl i))
def Pl.maps (g : Nat) : Pl := Sum.inr (Sum.inr (Sum.inr (Sum.inl g)))
def Pl.row (g : Nat) : Pl := Sum.inr (Sum.inr (Sum.inr (Sum.inr (Sum.inl g))))
def Pl.shd (g : Nat) : Pl := Sum.inr (Sum.inr (Sum.inr (Sum.inr (Sum.inr (Sum.inl g)))))
def Pl.dsk (g p : Nat) : Pl := Sum.inr (Sum.inr (Sum.inr (Sum.inr (Sum.inr (Sum.inr (g, p))))))
theorem Pl.seven {M : Pl → Prop} (x : Pl) (fr : M Pl.fr) (gs : M Pl.gs) (page : ∀ i, M (Pl.page i)) (maps : ∀ g, M (Pl.maps g)) (row : ∀ g, M (Pl.row g)) (shd : ∀ g, M (Pl.shd g)) (dsk : ∀ g p, M (Pl.dsk g p)) : M x :=
  match x with
  | Sum.inl () => fr
  | Sum.inr (Sum.inl ()) => gs
  | Sum.inr (Sum.inr (Sum.inl i)) => page i
  | Sum.inr (Sum.inr (Sum.inr (Sum.inl g))) => maps g
  | Sum.inr (Sum.inr (Sum.inr (Sum.inr (Sum.inl g)))) => row g
  | Sum.inr (Sum.inr (Sum.inr (Sum.inr (Sum.inr (Sum.inl g))))) => shd g
  | Sum.inr (Sum.inr (Sum.inr (Sum.inr (Sum.inr (Sum.inr (g, p)))))) => dsk g p
def Pl.ok (n : Nat) (x : Pl) : Prop :=
  match x with
  | Sum.inl () => True
  | Sum.inr (Sum.inl ()) => True
  | Sum.inr (Sum.inr (Sum.inl i)) => i < 8
  | Sum.inr (Sum.inr (Sum.inr (Sum.inl g))) => g < n
  | Sum.inr (Sum.inr (Sum.inr (Sum.inr (Sum.inl g)))) => g < n
  | Sum.inr (Sum.inr (Sum.inr (Sum.inr (Sum.inr (Sum.inl g))))) => g < n
  | Sum.inr (Sum.inr (Sum.inr (Sum.inr (Sum.inr (Sum.inr (g, p)))))) => g < n ∧ p < 6
def plEq : DecidableEq Pl := @instDecidableEqSum _ _ _ (@instDecidableEqSum _ _ _ (@instDecidableEqSum _ _ _ (@instDecidableEqSum _ _ _ (@instDecidableEqSum _ _ _ (@instDecidableEqSum _ _ _ _)))))
def gOf (h : Hst) (g : Nat) : Gst := h.guests.getD g noG
def Held (w : World) (A : Pl → Nat) (h : Hst) (x : Pl) : Prop :=
  match x with
  | Sum.inl () => ∀ i, i < 8 → (∃ c, w.cell? ⟨A Pl.fr, i, none⟩ = some (.slice (some ⟨A (Pl.page i), 0, none⟩) 4 c)) ∧ w.frozen? ⟨A Pl.fr, i, none⟩ = false
  | Sum.inr (Sum.inl ()) => (∀ g, g < h.guests.length → (∃ c, w.cell? ⟨A Pl.gs, g * 3, none⟩ = some (.slice (some ⟨A (Pl.maps g), 0, none⟩) 6 c)) ∧ (∃ c, w.cell? ⟨A Pl.gs, g * 3 + 1, none⟩ = some (.slice (some ⟨A (Pl.row g), 0, none⟩) 6 c)) ∧ ∃ c, w.cell? ⟨A Pl.gs, g * 3 + 2, none⟩ = some (.slice (some ⟨A (Pl.shd g), 0, none⟩) 6 c)) ∧ Room w (A Pl.gs) (h.guests.length * 3)
  | Sum.inr (Sum.inr (Sum.inl i)) => Ints w (A (Pl.page i)) 0 (h.frames.getD i []) ∧ Room w (A (Pl.page i)) 4
  | Sum.inr (Sum.inr (Sum.inr (Sum.inl g))) => Ents w (A (Pl.maps g)) 0 (gOf h g).maps ∧ Room w (A (Pl.maps g)) 18
  | Sum.inr (Sum.inr (Sum.inr (Sum.inr (Sum.inl g)))) => ∀ p, p < 6 → (∃ c, w.cell? ⟨A (Pl.row g), p, none⟩ = some (.slice (some ⟨A (Pl.dsk g p), 0, none⟩) 4 c)) ∧ w.frozen? ⟨A (Pl.row g), p, none⟩ = false
  | Sum.inr (Sum.inr (Sum.inr (Sum.inr (Sum.inr (Sum.inl g))))) => Quads w (A (Pl.shd g)) 0 (gOf h g).shades ∧ Room w (A (Pl.shd g)) 24
  | Sum.inr (Sum.inr (Sum.inr (Sum.inr (Sum.inr (Sum.inr (g, p)))))) => Ints w (A (Pl.dsk g p)) 0 ((gOf h g).disk.getD p []) ∧ Room w (A (Pl.dsk g p)) 4
structure SepH (w : World) (N : Nat) (A : Pl → Nat) (h : Hst) : Prop where
  n2 : h.guests.length ≤ 2
  f8 : h.frames.length = 8
  f4 : ∀ i, i < 8 → (h.frames.getD i []).length = 4
  sz : ∀ g, g < h.guests.length → Sized (gOf h g)
  inj : ∀ x y, x.ok h.guests.length → y.ok h.guests.length → A x = A y → x = y
  low : ∀ x, x.ok h.guests.length → N ≤ A x ∧ A x < w.heap.size
  held : ∀ x, x.ok h.guests.length → Held w A h x

theorem same_block {w w' : World} {b : Nat} (e : w'.heap[b]? = w.heap[b]?) : SameIn b (b + 1) w w' := fun j j1 j2 => by rw [show j = b by omega]; exact e
theorem Held.same {w w' : World} {A : Pl → Nat} {h : Hst} {x : Pl} (k : Held w A h x) (e : w'.heap[A x]? = w.heap[A x]?) : Held w' A h x := by
  have s := same_block e
  have c : ∀ o, w'.cell? ⟨A x, o, none⟩ = w.cell? ⟨A x, o, none⟩ := fun o => World.cell?_of_block (a := ⟨A x, o, none⟩) e
  have f : ∀ o, w'.frozen? ⟨A x, o, none⟩ = w.frozen? ⟨A x, o, none⟩ := fun o => World.frozen?_of_block (a := ⟨A x, o, none⟩) e
  have hR : ∀ n, Room w (A x) n → Room w' (A x) n := fun n r => r.same s (Nat.le_refl _) (Nat.lt_succ_self _)
  have hI : ∀ zs, Ints w (A x) 0 zs → Ints w' (A x) 0 zs := fun zs r => r.same s (Nat.le_refl _) (Nat.lt_succ_self _)
  cases x using Pl.seven with
  | fr => exact fun i hi => by rw [c, f]; exact k i hi
  | gs => exact ⟨fun g hg => by rw [c, c, c]; exact k.1 g hg, hR _ k.2⟩
  | page i => exact ⟨hI _ k.1, hR _ k.2⟩
  | maps g => exact ⟨k.1.sameH s (Nat.le_refl _) (Nat.lt_succ_self _), hR _ k.2⟩
  | row g => exact fun i hi => by rw [c, f]; exact k i hi
  | shd g => exact ⟨k.1.same s (Nat.le_refl _) (Nat.lt_succ_self _), hR _ k.2⟩
  | dsk g p => exact ⟨hI _ k.1, hR _ k.2⟩
theorem SepH.keep {w w' : World} {N : Nat} {A : Pl → Nat} {h : Hst} (k : SepH w N A h) (hs : w.heap.size ≤ w'.heap.size) (e : ∀ x, x.ok h.guests.length → w'.heap[A x]? = w.heap[A x]?) : SepH w' N A h :=
  ⟨k.n2, k.f8, k.f4, k.sz, k.inj, fun x hx => ⟨(k.low x hx).1, Nat.lt_of_lt_of_le (k.low x hx).2 hs⟩, fun x hx => (k.held x hx).same (e x hx)⟩
theorem SepH.belowK {w w' : World} {N : Nat} {A : Pl → Nat} {h : Hst} (k : SepH w N A h) (hB : Below w.heap.size w w') : SepH w' N A h := k.keep hB.size (fun x hx => hB.block _ (k.low x hx).2)
/-- Behind a store into a variable that is none of its rows. -/
theorem SepH.off {w : World} {N : Nat} {A : Pl → Nat} {h : Hst} (k : SepH w N A h) {b j : Nat} (hb : ∀ x, x.ok h.guests.length → A x ≠ b) (u : Value) : SepH (w.setCell ⟨b, j, none⟩ u) N A h :=
  k.keep (by simp) (fun x hx => Below.heap_setCell _ _ _ _ (by simpa using hb x hx))
/-- One row written, the host being another one by that alone. -/
theorem SepH.put {w w' : World} {N : Nat} {A : Pl → Nat} {h h' : Hst} (k : SepH w N A h) (x0 : Pl) (hx0 : x0.ok h.guests.length) (hl : h'.guests.length = h.guests.length) (hf8 : h'.frames.length = 8) (hf4 : ∀ i, i < 8 → (h'.frames.getD i []).length = 4) (hsz : ∀ g, g < h.guests.length → Sized (gOf h' g))
    (hs : w.heap.size = w'.heap.size) (hw : ∀ j, j ≠ A x0 → w'.heap[j]? = w.heap[j]?) (hother : ∀ x, x.ok h.guests.length → x ≠ x0 → Held w A h x → Held w A h' x) (h0 : Held w' A h' x0) : SepH w' N A h' := by
  refine ⟨by rw [hl]; exact k.n2, hf8, hf4, fun g hg => hsz g (by rw [← hl]; exact hg), fun x y hx hy => k.inj x y (by rw [← hl]; exact hx) (by rw [← hl]; exact hy), fun x hx => ?_, fun x hx => ?_⟩
  · have := k.low x (by rw [← hl]; exact hx)
    exact ⟨this.1, by omega⟩
  · rw [hl] at hx
    by_cases e : x = x0
    · rw [e]; exact h0
    · exact (hother x hx e (k.held x hx)).same (hw _ (fun e2 => e (k.inj x x0 hx hx0 e2)))
theorem gOf_set_same {h : Hst} {g : Nat} {g' : Gst} (hg : g < h.guests.length) : gOf (setG h g g') g = g' := getD_set_same _ _ _ _ hg
theorem gOf_set_ne {h : Hst} {g i : Nat} {g' : Gst} (hi : i ≠ g) : gOf (setG h g g') i = gOf h i := getD_set_ne _ _ _ hi
theorem setG_len (h : Hst) (g : Nat) (g' : Gst) : (setG h g g').guests.length = h.guests.length := List.length_set
/-- A guest changed: what of the others, and of its own other rows, is as it was. -/
theorem held_setG {w : World} {A : Pl → Nat} {h : Hst} {g : Nat} {g' : Gst} (hg : g < h.guests.length) (x : Pl) (k : Held w A h x)
    (h1 : x = Pl.maps g → g'.maps = (gOf h g).maps) (h2 : x = Pl.shd g → g'.shades = (gOf h g).shades) (h3 : ∀ p, x = Pl.dsk g p → g'.disk.getD p [] = (gOf h g).disk.getD p []) : Held w A (setG h g g') x := by
  cases x using Pl.seven with
  | fr => exact k
  | gs => exact ⟨by rw [setG_len]; exact k.1, by rw [setG_len]; exact k.2⟩
  | page i => exact k
  | maps i =>
    by_cases e : i = g
    · subst e
      show Ents w (A (Pl.maps i)) 0 (gOf (setG h i g') i).maps ∧ _
      rw [gOf_set_same hg, h1 rfl]; exact k
    · show Ents w (A (Pl.maps i)) 0 (gOf (setG h g g') i).maps ∧ _
      rw [gOf_set_ne e]; exact k
  | row i => exact k
  | shd i =>
    by_cases e : i = g
    · subst e
      show Quads w (A (Pl.shd i)) 0 (gOf (setG h i g') i).shades ∧ _
      rw [gOf_set_same hg, h2 rfl]; exact k
    · show Quads w (A (Pl.shd i)) 0 (gOf (setG h g g') i).shades ∧ _
      rw [gOf_set_ne e]; exact k
  | dsk i p =>
    by_cases e : i = g
    · subst e
      show Ints w (A (Pl.dsk i p)) 0 ((gOf (setG h i g') i).disk.getD p []) ∧ _
      rw [gOf_set_same hg, h3 p rfl]; exact k
    · show Ints w (A (Pl.dsk i p)) 0 ((gOf (setG h g g') i).disk.getD p []) ∧ _
      rw [gOf_set_ne e]; exact k
end Go.Proofs.Ytdamdjhnhkmncaa

/-
  A host that was copied has each row in a block of its own.
-/
namespace Go.Proofs.Ytdamdjhnhkmncaa
open Go.RowKit

end Go.Proofs.Ytdamdjhnhkmncaa
