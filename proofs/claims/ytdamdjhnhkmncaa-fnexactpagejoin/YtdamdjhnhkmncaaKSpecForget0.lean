/-
  What the given l13Is, l14Forget and HostForget do.
-/
import Derived.Test.YtdamdjhnhkmncaaKSpecCopy1
import Derived.Test.YtdamdjhnhkmncaaKImplForget0
import Derived.Test.YtdamdjhnhkmncaaKY
set_option linter.unusedSimpArgs false
namespace Go.Proofs.Ytdamdjhnhkmncaa
open Go.RowKit
attribute [local go_sem ↓] Go.wp_at_zero Go.wp_at_succ exec_app
attribute [local go_sem] bigNext_ok

def isB (h : Hst) (G P : Int) : Bool := seeB h G && (decide (0 ≤ P) && decide (P ≤ 5))
set_option maxRecDepth 100000 in
set_option maxHeartbeats 8000000 in
theorem specIs13 (lo hi : Nat) (af ag : Option Addr) (lf cf n cg : Nat) (h : Hst) (G P : Int) (w : World) (hH : HostIn w lo hi (.slice af lf cf) (.slice ag n cg) h) (hlf : h.frames.length = lf) (hn : h.guests.length = n) (hh : hi ≤ w.heap.size) (hS : SmallH h) :
    Calls Try.prog 58 #[.agg #[.slice af lf cf, .slice ag n cg, .int .i64 h.hand], .int .i64 G, .int .i64 P] w fun e w' => e = .returned (.bool (isB h G P)) ∧ Below w.heap.size w w' := by
  obtain ⟨W1, hW1⟩ : ∃ W1, W1 = w.alloc (.cells #[.slice af lf cf, .slice ag n cg, .int .i64 h.hand] 27) := ⟨_, rfl⟩
  have s1 : W1.heap.size = w.heap.size + 1 := by rw [hW1]; simp
  have B1 : Below w.heap.size w W1 := by rw [hW1]; exact (Below.refl _ _).alloc (Nat.le_refl _) _
  have x1 : W1.cell? ⟨w.heap.size, 0, none⟩ = some (.slice af lf cf) ∧ W1.cell? ⟨w.heap.size, 1, none⟩ = some (.slice ag n cg) ∧ W1.cell? ⟨w.heap.size, 2, none⟩ = some (.int .i64 h.hand) := by rw [hW1]; simp
  obtain ⟨hF, hG⟩ := hH.parts
  have hok := fun (W : World) (B : Below w.heap.size w W) => hostOk_core lo hi af ag lf cf n cg h W hlf (hF.same (below_sameIn B hh)) hn (hG.same (below_sameIn B hh)) (Nat.le_trans hh B.size) hS
  obtain ⟨x10, x11, x12⟩ := x1
  have hlt1 : w.heap.size < W1.heap.size := by omega
  have hI1 := fun W => specIn G 0 ((n : Int) - 1) W
  have hI2 := fun W => specIn P 0 5 W
  have hn1 : okHost h = true → 1 ≤ n ∧ n ≤ 2 := fun e => by obtain ⟨_, _, a, b, _⟩ := okHost_frames e; omega
  have he : isB h G P = (okHost h && ((decide (0 ≤ G) && decide (G ≤ (n : Int) - 1)) && (decide (0 ≤ P) && decide (P ≤ 5)))) := by
    rw [isB, seeB, hn, show (decide (G < (n : Int))) = decide (G ≤ (n : Int) - 1) by congr 1; apply propext; constructor <;> intro h <;> omega, Bool.and_assoc]
  rw [he]
  have hok1 := hok W1 B1
  clear hok hF hG hH he hS hlf hn
  generalize okHost h = ob at *
  generalize (decide (0 ≤ G) && decide (G ≤ (n : Int) - 1)) = gb at *
  generalize (decide (0 ≤ P) && decide (P ≤ 5)) = pb at *
  go_enter Try.func58, Try.ntmps58
  go_wp2_with (fail)
  rw [← hW1]
  clear hW1
  refine hok1.mono ?_
  rintro e w2 ⟨rfl, B2⟩
  have HB2 : Hid (Below w.heap.size w w2) := B1.trans (B2.mono B1.size)
  have y1 := (B2.cell (p := ⟨w.heap.size, 1, none⟩) (show w.heap.size < W1.heap.size by omega)).trans x11
  have hlt2 : w.heap.size < w2.heap.size := by have := B2.size; omega
  clear B2 hok1 x10 x11 x12 B1
  cases ob
  · go_wp2
    go_ret
    exact ⟨rfl, HB2.out⟩
  · have hn1 := hn1 rfl
    have hwr : IntKind.i64.wrap ((n : Int) - 1) = (n : Int) - 1 := wrap_small _ (by omega) (by omega)
    go_wp2_with (fail)
    refine (hI1 _).mono ?_
    rintro e w3 ⟨rfl, rfl⟩
    cases gb
    · go_wp2
      go_ret
      exact ⟨rfl, HB2.out⟩
    · go_wp2_with (fail)
      refine (hI2 _).mono ?_
      rintro e w4 ⟨rfl, rfl⟩
      cases pb
      · go_wp2
        go_ret
        exact ⟨rfl, HB2.out⟩
      · go_wp2
        go_ret
        exact ⟨rfl, HB2.out⟩

/-- A host whose guest's shades are other ones, in a block of their own. -/
theorem own_shades {w : World} {N hi : Nat} {vf : Value} {h : Hst} {T cg : Nat} (hO : OwnHost w N hi vf (.slice (some ⟨T, 0, none⟩) h.guests.length cg) h) {G : Nat} (hG : G < h.guests.length) {w' : World} {bs c : Nat} {ss : List S4} (hs : hi ≤ w'.heap.size) (hB : ∀ j, j < hi → j ≠ T → w'.heap[j]? = w.heap[j]?)
    (hC : ∀ i v, w.cell? ⟨T, i, none⟩ = some v → w'.cell? ⟨T, i, none⟩ = some (if i = G * 3 + 2 then .slice (some ⟨bs, 0, none⟩) ss.length c else v)) (hb : hi ≤ bs) (hb' : bs < w'.heap.size) (hQ : Quads w' bs 0 ss) : HostIn w' N w'.heap.size vf (.slice (some ⟨T, 0, none⟩) h.guests.length cg) (setG h G { h.guests.getD G noG with shades := ss }) := by
  obtain ⟨af, cf, m0, m1, rfl, hM, l1, l2, ag, cg', e2, hGs⟩ := hO
  cases e2
  have hlen : (setG h G { h.guests.getD G noG with shades := ss }).guests.length = h.guests.length := List.length_set
  rcases hGs with h0 | ⟨T', g0, e, t1, t2, t3, t4, t5, ps, qs, u1, u2, u3⟩
  · omega
  cases e
  refine ⟨⟨af, cf, rfl, ?_⟩, _, cg, by rw [hlen], rfl, Or.inr ⟨T, 0, rfl, t1, by omega, fun i hi => ?_⟩⟩
  · exact (hM.same (fun j j1 j2 => hB j (by omega) (by omega))).mem.wide l1 (by omega)
  · rw [hlen] at hi
    obtain ⟨vm, vd, vs, c0, c1, c2, hU⟩ := u3 i hi
    obtain ⟨a, b, d⟩ := u1 i hi
    have hU' := (hU.same (w' := w') (fun j j1 j2 => hB j (by omega) (by omega))).guest.wide (lo' := N) (hi' := w'.heap.size) (by omega) (by omega)
    have k0 := hC _ _ c0
    have k1 := hC _ _ c1
    have k2 := hC _ _ c2
    rw [if_neg (by omega)] at k0 k1
    by_cases hiG : i = G
    · subst hiG
      have e : (setG h i { h.guests.getD i noG with shades := ss }).guests.getD i noG = { h.guests.getD i noG with shades := ss } := getD_set_same _ _ _ _ hi
      rw [if_pos rfl] at k2
      refine ⟨_, _, _, by simpa using k0, by simpa using k1, by simpa using k2, ?_⟩
      rw [e]
      exact ⟨hU'.1, hU'.2.1, _, _, rfl, rfl, Or.inr ⟨bs, 0, rfl, by omega, hb', hQ⟩⟩
    · have e : (setG h G { h.guests.getD G noG with shades := ss }).guests.getD i noG = h.guests.getD i noG := getD_set_ne _ _ _ hiG
      rw [if_neg (by omega)] at k2
      refine ⟨_, _, _, by simpa using k0, by simpa using k1, by simpa using k2, ?_⟩
      rw [e]
      exact hU'

theorem isB_zero (h : Hst) (G : Int) : isB h G 0 = seeB h G := by simp [isB]
theorem givesI_ret {w w0 w' : World} {h : Hst} {a1 a2 : Option Addr} {l1 c1 l2 c2 : Nat} (hB : Below w.heap.size w w0) (hO : HostIn w' w0.heap.size w'.heap.size (.slice a1 l1 c1) (.slice a2 l2 c2) h) (hB' : Below w0.heap.size w0 w') {R : Nat} (hR : w.heap.size ≤ R) (hR' : R < w0.heap.size) (x y z : Value) :
    GivesI w (ret3 w' R x y z) (.returned (.agg #[.slice a1 l1 c1, .slice a2 l2 c2, .int .i64 h.hand])) h :=
  ⟨_, _, _, _, _, _, rfl, by rw [ret3_size]; exact (hO.same (ret3_same w' R x y z (Or.inl hR'))).wide hB.size (Nat.le_refl _), ret3_below (hB.trans (hB'.mono hB.size)) hR x y z⟩

end Go.Proofs.Ytdamdjhnhkmncaa
