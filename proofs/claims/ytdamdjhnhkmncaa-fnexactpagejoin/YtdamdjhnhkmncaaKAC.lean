/-
  What the given l14Is says; hosts handed out with a number beside them.
-/
import Derived.Test.YtdamdjhnhkmncaaKD
import Derived.Test.YtdamdjhnhkmncaaKSpecOwn0
import Derived.Test.YtdamdjhnhkmncaaKPB
set_option linter.unusedSimpArgs false
namespace Go.Proofs.Ytdamdjhnhkmncaa
open Go.RowKit
attribute [local go_sem ↓] Go.wp_at_zero Go.wp_at_succ exec_app
attribute [local go_sem] bigNext_ok

/-- A host and another value, handed out. -/
def Gives2H (w w' : World) (e : Ending) (h : Hst) (v : Value) : Prop :=
  ∃ a1 l1 c1 a2 l2 c2, e = .returned (.tuple #[.agg #[.slice a1 l1 c1, .slice a2 l2 c2, .int .i64 h.hand], v]) ∧ OwnHost w' w.heap.size w'.heap.size (.slice a1 l1 c1) (.slice a2 l2 c2) h ∧ Below w.heap.size w w'
def Gives2I (w w' : World) (e : Ending) (h : Hst) (v : Value) : Prop :=
  ∃ a1 l1 c1 a2 l2 c2, e = .returned (.tuple #[.agg #[.slice a1 l1 c1, .slice a2 l2 c2, .int .i64 h.hand], v]) ∧ HostIn w' w.heap.size w'.heap.size (.slice a1 l1 c1) (.slice a2 l2 c2) h ∧ Below w.heap.size w w'
theorem gives2H_ret {w w0 w' : World} {h : Hst} {a1 a2 : Option Addr} {l1 c1 l2 c2 : Nat} {v : Value} (hB : Below w.heap.size w w0) (hO : OwnHost w' w0.heap.size w'.heap.size (.slice a1 l1 c1) (.slice a2 l2 c2) h) (hB' : Below w0.heap.size w0 w') {R : Nat} (hR : w.heap.size ≤ R) (hR' : R < w0.heap.size) (x y z : Value) :
    Gives2H w (ret3 w' R x y z) (.returned (.tuple #[.agg #[.slice a1 l1 c1, .slice a2 l2 c2, .int .i64 h.hand], v])) h v :=
  ⟨_, _, _, _, _, _, rfl, by rw [ret3_size]; exact (hO.same (ret3_same w' R x y z (Or.inl hR'))).wide hB.size (Nat.le_refl _), ret3_below (hB.trans (hB'.mono hB.size)) hR x y z⟩
theorem gives2H_no {w w' : World} {v : Value} (hB : Below w.heap.size w w') {R : Nat} (hR : w.heap.size ≤ R) (x y z : Value) : Gives2H w (ret3 w' R x y z) (.returned (.tuple #[.agg #[.slice none 0 0, .slice none 0 0, .int .i64 0], v])) noH v :=
  ⟨_, _, _, _, _, _, rfl, by rw [ret3_size]; exact own_noH _ _ _ hB.size, ret3_below hB hR x y z⟩
theorem gives2I_ret {w w0 w' : World} {h : Hst} {a1 a2 : Option Addr} {l1 c1 l2 c2 : Nat} {v : Value} (hB : Below w.heap.size w w0) (hO : HostIn w' w0.heap.size w'.heap.size (.slice a1 l1 c1) (.slice a2 l2 c2) h) (hB' : Below w0.heap.size w0 w') {R : Nat} (hR : w.heap.size ≤ R) (hR' : R < w0.heap.size) (x y z : Value) :
    Gives2I w (ret3 w' R x y z) (.returned (.tuple #[.agg #[.slice a1 l1 c1, .slice a2 l2 c2, .int .i64 h.hand], v])) h v :=
  ⟨_, _, _, _, _, _, rfl, by rw [ret3_size]; exact (hO.same (ret3_same w' R x y z (Or.inl hR'))).wide hB.size (Nat.le_refl _), ret3_below (hB.trans (hB'.mono hB.size)) hR x y z⟩
theorem Gives2H.toI {w w' : World} {e : Ending} {h : Hst} {v : Value} (k : Gives2H w w' e h v) : Gives2I w w' e h v := by
  obtain ⟨a1, l1, c1, a2, l2, c2, he, hO, hB⟩ := k
  exact ⟨a1, l1, c1, a2, l2, c2, he, hO.host, hB⟩

end Go.Proofs.Ytdamdjhnhkmncaa

/-
  What the given l14Read does.
-/
set_option linter.unusedSimpArgs false
namespace Go.Proofs.Ytdamdjhnhkmncaa
open Go.RowKit
attribute [local go_sem ↓] Go.wp_at_zero Go.wp_at_succ exec_app
attribute [local go_sem] bigNext_ok

/-- The cells that lead to a word of a page that is in. -/
theorem SepH.cells {w : World} {N : Nat} {A : Pl → Nat} {h : Hst} (k : SepH w N A h) {g p F : Nat} (hg : g < h.guests.length) (hp : p < 6) (hF8 : F < 8) (hF : (mAt h g p).2.1 = (F : Int)) {o : Nat} (ho : o < 4) :
    (∃ c, w.cell? ⟨A .gs, g * 3, none⟩ = some (.slice (some ⟨A (.maps g), 0, none⟩) 6 c)) ∧ w.cell? ⟨A (.maps g), p * 3, none⟩ = some (.bool (mAt h g p).1) ∧ w.cell? ⟨A (.maps g), p * 3 + 1, none⟩ = some (.int .i64 F) ∧ w.cell? ⟨A (.maps g), p * 3 + 2, none⟩ = some (.bool (mAt h g p).2.2) ∧ (∃ c, w.cell? ⟨A .fr, F, none⟩ = some (.slice (some ⟨A (.page F), 0, none⟩) 4 c)) ∧ w.cell? ⟨A (.page F), o, none⟩ = some (.int .i64 ((fAt h F).getD o 0)) := by
  obtain ⟨q1, _, _⟩ := (k.held .gs trivial).1 g hg
  obtain ⟨e0, e1, e2⟩ := (k.held (.maps g) hg).1 p (by rw [(k.sz g hg).1]; exact hp)
  rw [Nat.zero_add, show ((false, 0, false) : E3) = noM from rfl, show (gOf h g).maps.getD p noM = mAt h g p from rfl] at e0 e1 e2
  obtain ⟨x, _⟩ := k.held .fr trivial F hF8
  have y := (k.held (.page F) hF8).1 o (by rw [k.f4 F hF8]; exact ho)
  rw [Nat.zero_add] at y
  rw [hF] at e1
  exact ⟨q1, e0, e1, e2, x, y⟩

end Go.Proofs.Ytdamdjhnhkmncaa
