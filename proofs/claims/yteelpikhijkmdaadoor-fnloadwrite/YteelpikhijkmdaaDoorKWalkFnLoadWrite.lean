/-
  The walk of the law FnLoadWrite.
-/
import Derived.Test.YteelpikhijkmdaaDoorKFlatSpec1
import Derived.Test.YteelpikhijkmdaaDoorKFlatFns0
import Derived.Test.YteelpikhijkmdaaDoorKFlatDraw0
import Derived.Test.YteelpikhijkmdaaDoorKMemDraw2
import Derived.Test.YteelpikhijkmdaaDoorKLkMem0
import Derived.Test.YteelpikhijkmdaaDoorKHostLoad1
import Derived.Test.YteelpikhijkmdaaDoorKH
import Derived.Deep.DrawnRows
set_option linter.unusedSimpArgs false
namespace Go.Proofs.YteelpikhijkmdaaDoor
open Go.RowKit
attribute [local go_sem ↓] Go.wp_at_zero Go.wp_at_succ

theorem hidG {p : Prop} (h : p) : Hid p := h
/-- What six pages are loaded as. -/
def oneH (ms : List (List Int)) : Hst := ⟨zeroM 8, [⟨List.replicate 6 noM, ms, List.replicate 6 noS⟩], 0⟩
theorem rep_get {α : Type} (x : α) {i : Nat} (hi : i < 6) : (List.replicate 6 x).getD i x = x := by
  rcases (by omega : i = 0 ∨ i = 1 ∨ i = 2 ∨ i = 3 ∨ i = 4 ∨ i = 5) with e | e | e | e | e | e <;> subst e <;> rfl
theorem load_one {ms : List (List Int)} (h6 : ms.length = 6) (ho : okM ms = true) : loadB ms = true ∧ loadH ms = oneH ms := by
  have hb : loadB ms = true := by simp [loadB, ho, h6]
  refine ⟨hb, ?_⟩
  rw [loadH, hb, cond_true, h6]
  show (⟨zeroM 8, [ldG ms 0], 0⟩ : Hst) = oneH ms
  have e : ms.take 6 = ms := by rw [← h6]; exact List.take_length
  simp [ldG, oneH, e]
theorem one_ok {ms : List (List Int)} (h6 : ms.length = 6) (ho : okM ms = true) : okHost (oneH ms) = true := by
  have e0 : okHost0 (oneH ms) = true := by
    show (okM (zeroM 8) && _) = true
    rw [okM_zero 8]
    rfl
  have e1 : okGuest0 ⟨List.replicate 6 noM, ms, List.replicate 6 noS⟩ = true := by simp [okGuest0, ho, h6]
  have e2 : okGuest (oneH ms) ⟨List.replicate 6 noM, ms, List.replicate 6 noS⟩ = true := by
    unfold okGuest
    rw [List.all_eq_true]
    intro p hp
    have hp6 : p < 6 := by simpa using hp
    have a1 : (List.replicate 6 noM).getD p noM = noM := rep_get _ hp6
    have a2 : (List.replicate 6 noS).getD p noS = noS := rep_get _ hp6
    show (okMap _ ((List.replicate 6 noM).getD p noM) _ && okShade _ ((List.replicate 6 noS).getD p noS)) = true
    rw [a1, a2]
    rfl
  show (okHost0 (oneH ms) && ((oneH ms).guests.all okGuest0 && (oneH ms).guests.all (okGuest (oneH ms)))) = true
  rw [e0, show (oneH ms).guests = [⟨List.replicate 6 noM, ms, List.replicate 6 noS⟩] from rfl]
  simp only [List.all_cons, List.all_nil, e1, e2, Bool.and_true]
theorem one_see {ms : List (List Int)} (h6 : ms.length = 6) (ho : okM ms = true) : seeH (oneH ms) 0 = ms := by
  have hb : seeB (oneH ms) 0 = true := by
    rw [seeB, one_ok h6 ho]
    simp [oneH]
  rw [seeH, hb, cond_true]
  show seeM _ ⟨List.replicate 6 noM, ms, List.replicate 6 noS⟩ = ms
  refine List.ext_getElem (by rw [seeM_len, h6]) fun i hi hi' => ?_
  have e := seeM_get (oneH ms).frames ⟨List.replicate 6 noM, ms, List.replicate 6 noS⟩ (p := i) (by rw [seeM_len] at hi; exact hi)
  rw [getD_lt hi] at e
  rw [e, pageM]
  have a1 : (List.replicate 6 noM).getD i noM = noM := rep_get _ (by omega)
  show (bif ((List.replicate 6 noM).getD i noM).1 then _ else ms.getD i []) = _
  rw [a1]
  exact getD_lt hi'
theorem one_wf (ms : List (List Int)) : WfGs (oneH ms).guests.length (oneH ms).guests := fun i hi p hp => by
  obtain rfl : i = 0 := by
    have : i < 1 := hi
    omega
  show (Lit.int .i64 (((List.replicate 6 noM).getD p noM)).2.1).wf = true
  have a1 : (List.replicate 6 noM).getD p noM = noM := rep_get _ hp
  rw [a1]
  decide

set_option maxRecDepth 100000 in
set_option maxHeartbeats 8000000 in
theorem walk_FnLoadWrite (a0 : Option Addr) (len0 cap0 : Nat) (z0 : List Int) (w : World) (hg : ErrT w) (w0 : IsRow .u8 w a0 len0 cap0 z0) :
    Calls Tryd.prog 3 #[.slice a0 len0 cap0] w fun e w' => e = .returned (.bool true) ∧ Below w.heap.size w w' := by
  by_cases hbig : (1048576 : Int) < (len0 : Int)
  · go_enter Tryd.func3, Tryd.ntmps3
    go_wp2
    go_ret
    exact ⟨rfl, Below.refl _ _⟩
  go_enter Tryd.func3, Tryd.ntmps3
  go_wp2_with (fail)
  refine (drawFlatWrite a0 len0 cap0 z0 _ w0).mono ?_
  rintro e v1 ⟨a, n, c, ms, p, o, z, rfl, ⟨hM, hn6, h4⟩, _, _, _, B1⟩
  have hL : ∀ i, i < n → (ms.getD i []).length ≤ 1048576 := fun i hi => by have := h4 i hi; omega
  have hS := specFlatWrite _ _ a n c ms p o z v1 hM (Nat.le_refl _) (by omega) hL
  have hI := fun (W : World) (B : Below v1.heap.size v1 W) => implFlatWrite _ _ a n c ms p o z W (hg.on (B1.trans (B.mono B1.size))) (hM.same (below_sameIn B (by omega))) B.size (by omega) hL
  have hlm := hM.1
  have hNl : ∀ i, i < n → ((wrM ms p o z).getD i []).length ≤ 1048576 := fun i hi => by rw [wrM_lens]; exact hL i hi
  have hln : (wrM ms p o z).length = n := by rw [wrM_len]; exact hlm
  have hgood : 0 ≤ wrG ms p o z → n = 6 ∧ okM (wrM ms p o z) = true := by
    intro h
    cases hgw : goodW ms p o z
    · rw [wrG, hgw] at h
      simp at h
    · obtain ⟨P, O, e1, e2, hP, hO⟩ := goodR_nat (goodW_R hgw)
      obtain ⟨hk, h6⟩ := tabB_ok (goodR_tab (goodW_R hgw))
      refine ⟨by omega, ?_⟩
      rw [wrM, hgw, cond_true]
      exact okM_putF hk (by omega) (goodW_Z hgw)
  have s1 := B1.size
  generalize wrM ms p o z = ns at *
  generalize wrG ms p o z = G at *
  replace hgood := hidG hgood
  replace hI := hidG hI
  replace hNl := hidG hNl
  replace B1 := hidG B1
  clear hM h4 hL
  go_wp2_with (fail)
  refine hS.mono ?_
  rintro e w2 ⟨aw, cw, rfl, Mw, B2⟩
  have hi2 := hI.out w2 B2
  clear hS hI
  replace Mw := hidG Mw.mem
  have B02 := hidG (B1.out.trans (B2.mono s1))
  have s2 := B2.size
  clear B2
  go_wp2_with (fail)
  refine hi2.mono ?_
  rintro e w3 ⟨rfl, Mg, B3⟩
  have B03 := hidG (B02.out.trans (B3.mono (by omega)))
  replace Mw := hidG (Mw.out.same (below_sameIn B3 (Nat.le_refl _)))
  replace Mg := hidG Mg.mem
  have s3 := B3.size
  have hlk := lkMem_same _ _ _ _ (some ⟨w2.heap.size, 0, none⟩) aw n n cw ns w3 Mg.out Mw.out (Nat.le_refl _) s3 (by omega) hNl.out
  have hlk2 := hidG (fun (W : World) (B : Below w3.heap.size w3 W) => lkMem_same _ _ _ _ (some ⟨w2.heap.size, 0, none⟩) aw n n cw ns W (Mg.out.same (below_sameIn B (Nat.le_refl _))) (Mw.out.same (below_sameIn B s3)) B.size (Nat.le_trans s3 B.size) (by omega) hNl.out)
  clear hi2 B3 Mw B02
  go_wp2_with (fail)
  refine hlk.mono ?_
  rintro e w4 ⟨rfl, B4⟩
  have B04 := hidG (B03.out.trans (B4.mono (by omega)))
  have s4 := B4.size
  replace Mg := hidG (Mg.out.same (below_sameIn B4 (Nat.le_refl _)))
  have hlk4 := hlk2.out w4 B4
  clear hlk B4 B03 hlk2
  by_cases hG0 : G < 0
  · go_wp2_with (fail)
    refine hlk4.mono ?_
    rintro e w5 ⟨rfl, B5⟩
    have B05 := hidG (B04.out.trans (B5.mono B04.out.size))
    clear hlk4 B5
    go_wp2
    go_ret
    exact ⟨rfl, B05.out⟩
  clear hlk4
  obtain ⟨rfl, hok⟩ := hgood.out (by omega)
  obtain ⟨hlb, hlh⟩ := load_one hln hok
  have hld := implHostLoad _ _ (some ⟨w2.heap.size, 0, none⟩) 6 6 ns w4 Mg.out (by omega) (by omega)
  rw [hlb, hlh] at hld
  have hsee := one_see hln hok
  replace hsee := hidG hsee
  clear hlb hlh hok hgood
  go_wp2_with (fail)
  refine hld.mono ?_
  rintro e w5 ⟨vf, vg, rfl, Ow, B5⟩
  have s5 := B5.size
  have B05 := hidG (B04.out.trans (B5.mono B04.out.size))
  have hH := Ow.host
  replace Mg := hidG (Mg.out.same (below_sameIn B5 (by omega)))
  obtain ⟨⟨af, cf, e1, hf⟩, ag, cg, e2, hgx⟩ := hH
  rw [show (oneH ns).frames.length = 8 from rfl] at e1
  rw [show (oneH ns).guests.length = 1 from rfl] at e2
  subst e1 e2
  have hH5 := Ow.host
  obtain ⟨W6, hW6⟩ : ∃ W6, W6 = w5.alloc (.cells #[.slice af 8 cf, .slice ag 1 cg, .int .i64 0] 31) := ⟨_, rfl⟩
  have C6 : Below w5.heap.size w5 W6 := by rw [hW6]; exact (Below.refl _ _).alloc (Nat.le_refl _) _
  have x6 : Hid (W6.cell? ⟨w5.heap.size, 0, none⟩ = some (.slice af 8 cf) ∧ W6.cell? ⟨w5.heap.size, 1, none⟩ = some (.slice ag 1 cg) ∧ W6.cell? ⟨w5.heap.size, 2, none⟩ = some (.int .i64 0)) := by rw [hW6]; simp [Hid]
  have hse := hidG (fun (W : World) (B : Below W6.heap.size W6 W) => implHostSee _ _ af ag 8 cf 1 cg (oneH ns) 0 W (hH5.same (below_sameIn (C6.trans (B.mono C6.size)) (Nat.le_refl _))) (Nat.le_trans C6.size B.size) (one_wf ns))
  have t6 : w5.heap.size < W6.heap.size := by rw [hW6]; simp
  rw [show (oneH ns).hand = 0 from rfl, hsee.out, hln] at hse
  have B06 := hidG (B05.out.trans (C6.mono B05.out.size))
  have Mg6 := hidG (Mg.out.same (below_sameIn C6 (by omega)))
  have hNl6 := hidG (hNl.out)
  clear Mg hNl hld Ow B5 hf hgx hH5 C6 B05 B04 hsee
  go_wp2_with (fail)
  rw [← hW6]
  clear hW6
  refine (hse.out W6 (Below.refl _ _)).mono ?_
  rintro e w7 ⟨aS, cS, rfl, Ms, B7⟩
  replace Ms := hidG Ms.mem
  have B07 := hidG (B06.out.trans (B7.mono B06.out.size))
  have Mg7 := hidG (Mg6.out.same (below_sameIn B7 (by omega)))
  have s7 := B7.size
  have x7 := hidG (show w7.cell? ⟨w5.heap.size, 0, none⟩ = some (.slice af 8 cf) ∧ w7.cell? ⟨w5.heap.size, 1, none⟩ = some (.slice ag 1 cg) ∧ w7.cell? ⟨w5.heap.size, 2, none⟩ = some (.int .i64 0) from ⟨(B7.cell (p := ⟨w5.heap.size, 0, none⟩) t6).trans x6.out.1, (B7.cell (p := ⟨w5.heap.size, 1, none⟩) t6).trans x6.out.2.1, (B7.cell (p := ⟨w5.heap.size, 2, none⟩) t6).trans x6.out.2.2⟩)
  have hl7 := lkMem_same _ _ _ _ aS (some ⟨w2.heap.size, 0, none⟩) 6 cS 6 ns w7 Ms.out Mg7.out (Nat.le_refl _) (by omega) (by omega) hNl6.out
  clear hse Mg6 x6 B7 Ms
  go_wp2_with (fail)
  refine hl7.mono ?_
  rintro e w8 ⟨rfl, B8⟩
  have B08 := hidG (B07.out.trans (B8.mono B07.out.size))
  have l7 : w5.heap.size < w7.heap.size := by omega
  have y0 := (B8.cell (p := ⟨w5.heap.size, 0, none⟩) l7).trans x7.out.1
  have y1 := (B8.cell (p := ⟨w5.heap.size, 1, none⟩) l7).trans x7.out.2.1
  have y2 := (B8.cell (p := ⟨w5.heap.size, 2, none⟩) l7).trans x7.out.2.2
  clear hl7 B8 Mg7
  go_wp2
  go_ret
  exact ⟨rfl, B08.out⟩
end Go.Proofs.YteelpikhijkmdaaDoor
