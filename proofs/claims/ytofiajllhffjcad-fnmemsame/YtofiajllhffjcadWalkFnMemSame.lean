/-
  The walk of the law FnMemSame.
-/
import Derived.Test.YtofiajllhffjcadMemDraw2
import Derived.Test.YtofiajllhffjcadLkMem0
namespace Go.Proofs.Ytofiajllhffjcad
open Go.RowKit

theorem putM_same {ms : List (List Int)} {P O : Nat} (hP : P < ms.length) (hO : O < (ms.getD P []).length) : putM ms P O (atM ms P O) = ms := by
  have e1 : (ms.getD P []).set O (atM ms P O) = ms.getD P [] := by
    unfold atM
    rw [getD_lt hO, List.set_getElem_self]
  rw [putM, e1, getD_lt hP, List.set_getElem_self]

set_option maxHeartbeats 2000000 in
theorem walk_FnMemSame (a0 : Option Addr) (len0 cap0 : Nat) (z0 : List Int) (w : World) (w0 : IsRow .u8 w a0 len0 cap0 z0) :
    Calls Try.prog 3 #[.slice a0 len0 cap0] w fun e w' => e = .returned (.bool true) ∧ Below w.heap.size w w' := by
  by_cases hbig : (1048576 : Int) < (len0 : Int)
  · go_enter Try.func3, Try.ntmps3
    go_wp2
    go_ret
    exact ⟨rfl, Below.refl _ _⟩
  go_enter Try.func3, Try.ntmps3
  go_wp2_with (fail)
  refine (drawMemAt a0 len0 cap0 z0 _ w0).mono ?_
  rintro e w1 ⟨a, n, c, ms, p, o, rfl, ⟨hM, hn6, h4⟩, _, _, B1⟩
  have hn : n ≤ 1048576 := by omega
  have hL : ∀ i, i < n → (ms.getD i []).length ≤ 1048576 := fun i hi => by have := h4 i hi; omega
  go_wp2_with (fail)
  refine (specMemAt _ _ a n c ms p o _ hM hn hL).mono ?_
  rintro e w2 ⟨rfl, rfl⟩
  go_wp2_with (fail)
  refine (implMemAt _ _ a n c ms p o _ hM (Nat.le_refl _) hn).mono ?_
  rintro e w3 ⟨rfl, B3⟩
  have B03 := B1.trans (B3.mono B1.size)
  have hM3 := hM.same (below_sameIn B3 (Nat.le_refl _))
  have hlm := hM.1
  cases hA : atB ms p o
  · go_wp2
    go_ret
    exact ⟨by simp, B03⟩
  · have hA' := hA
    simp only [atB, Bool.and_eq_true, hlm] at hA'
    obtain ⟨hok, hpl⟩ := hA'
    have hPO : p < n ∧ o < 4 := by simp [placeB] at hpl; omega
    obtain ⟨g4, gz⟩ := okM_get hok (k := p) (by omega)
    have gz := gz o hPO.2
    have hz : atZ ms p o = atM ms p o := by simp [atZ, hA]
    rw [hz]
    have hzk : okZ (atM ms p o) = true := by simp [okZ]; exact gz
    have hps := putM_same (ms := ms) (P := p) (O := o) (by omega) (by rw [g4]; exact hPO.2)
    have hW := implMemWith_yes _ _ a n c ms p o (atM ms p o) _ hM3 B3.size hn (by rw [hA, hzk]; rfl)
    rw [hps] at hW
    have gz : 0 ≤ atM ms p o ∧ atM ms p o ≤ 63 := gz
    obtain ⟨gz0, gz1⟩ := gz
    generalize atM ms p o = z at hW gz0 gz1
    clear hz hzk hps
    go_wp2_with (fail)
    refine hW.mono ?_
    rintro e w4 ⟨T, rfl, hX, B4⟩
    have B04 := B03.trans (B4.mono B03.size)
    have hM4 := hM3.same (below_sameIn B4 B3.size)
    go_wp2_with (fail)
    refine (lkMem_same _ _ _ _ _ _ n _ _ ms _ hX.mem hM4 (Nat.le_refl _) (Nat.le_trans B3.size B4.size) hn hL).mono ?_
    rintro e w5 ⟨rfl, B5⟩
    have B05 := B04.trans (B5.mono B04.size)
    go_wp2
    go_ret
    exact ⟨rfl, B05⟩
end Go.Proofs.Ytofiajllhffjcad
