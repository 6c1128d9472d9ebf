/-
  A guest alone: what the given FlatReadIn, FlatWriteIn do.
-/
import Derived.Test.YteelpikhijkmdaaDoorFlatSpec0
namespace Go.Proofs.YteelpikhijkmdaaDoor
open Go.RowKit

set_option maxHeartbeats 2000000 in
theorem specFlatReadIn (lo hi : Nat) (a : Option Addr) (len cap : Nat) (ms : List (List Int)) (p o : Int) (w : World) (h : IsMem w lo hi a len ms) (hh : hi ≤ w.heap.size) (hn : len ≤ 1048576) (hL : ∀ i, i < len → (ms.getD i []).length ≤ 1048576) :
    Calls Tryd.prog 44 #[.slice a len cap, .int .i64 p, .int .i64 o] w fun e w' => e = .returned (.int .i64 (riG ms p o)) ∧ Below w.heap.size w w' := by
  have hW := specWalk lo hi a len cap ms p o false w h hh hn hL
  by_cases hx : goodR ms p o = true ∧ (entOf ms p).1 = true
  · obtain ⟨hr, he⟩ := hx
    obtain ⟨P, O, rfl, rfl, hP, hO⟩ := goodR_nat hr
    obtain ⟨Q, hQ, hQ2, hQ5, hrQ⟩ := goodR_led hr he
    obtain ⟨ho, h6⟩ := tabB_ok (goodR_tab hr)
    have hl := h.1
    obtain rfl : len = 6 := by omega
    rw [show walkG ms P O false = 0 by rw [walkG, hr, he]; rfl, show walkE ms P O = entOf ms P by rw [walkE, hr]; rfl] at hW
    rw [show riG ms P O = atM ms Q O by rw [riG, hr, he, hQ]; rfl]
    generalize entOf ms P = en at hW hQ he
    obtain ⟨eh, ep, ew⟩ := en
    have hQ' : ep = Q := hQ
    subst hQ'
    unfold entV at hW
    have h4 := (okM_get ho (k := Q) (by omega)).1
    have hQi : (Q : Int) < 6 := by omega
    have hOi : (O : Int) < 4 := by omega
    clear hQ he hrQ hr
    go_enter Tryd.func44, Tryd.ntmps44
    go_wp2_with (fail)
    refine hW.mono ?_
    rintro e w1 ⟨rfl, B1⟩
    obtain ⟨b, of, b', o', c, rfl, hb, hb', q, q'⟩ := (h.same (below_sameIn B1 hh)).at (P := Q) (O := O) (by omega) (by omega)
    rw [h4] at q
    have s1 := B1.size
    have hbw : b < w1.heap.size := by omega
    have hbw' : b' < w1.heap.size := by omega
    clear hW
    go_wp2
    go_ret
    refine ⟨rfl, ?_⟩
    (repeat' (with_reducible (first | exact Below.refl _ _ | apply Below.setCell | apply Below.alloc | apply below_drewN | apply Below.drew | refine Below.trans ?_ (Below.mono (by assumption) ?_)))) <;> (first | exact Nat.le_refl _ | (simp; done) | (simp; omega) | (simp at *; omega))
  · have hneg : walkG ms p o false < 0 ∧ riG ms p o = walkG ms p o false := by
      rw [walkG, riG]
      cases hr : goodR ms p o
      · simp
      · cases he : (entOf ms p).1
        · simp
        · exact absurd ⟨hr, he⟩ hx
    rw [hneg.2]
    have hneg := hneg.1
    generalize walkG ms p o false = g at hW hneg
    generalize walkE ms p o = en at hW
    obtain ⟨eh, ep, ew⟩ := en
    unfold entV at hW
    clear hx
    go_enter Tryd.func44, Tryd.ntmps44
    go_wp2_with (fail)
    refine hW.mono ?_
    rintro e w1 ⟨rfl, B1⟩
    have s1 := B1.size
    clear hW
    go_wp2
    go_ret
    refine ⟨rfl, ?_⟩
    (repeat' (with_reducible (first | exact Below.refl _ _ | apply Below.setCell | apply Below.alloc | apply below_drewN | apply Below.drew | refine Below.trans ?_ (Below.mono (by assumption) ?_)))) <;> (first | exact Nat.le_refl _ | (simp; done) | (simp; omega) | (simp at *; omega))

set_option maxHeartbeats 2000000 in
theorem specFlatWriteIn_no (lo hi : Nat) (a : Option Addr) (len cap : Nat) (ms : List (List Int)) (p o z : Int) (w : World) (h : IsMem w lo hi a len ms) (hh : hi ≤ w.heap.size) (hn : len ≤ 1048576) (hL : ∀ i, i < len → (ms.getD i []).length ≤ 1048576) (hx : wiB ms p o z = false) :
    Calls Tryd.prog 45 #[.slice a len cap, .int .i64 p, .int .i64 o, .int .i64 z] w fun e w' => ∃ a c, e = .returned (.tuple #[.slice a len c, .int .i64 (wiG ms p o z)]) ∧ OwnMem w' w.heap.size w'.heap.size a len ms ∧ Below w.heap.size w w' := by
  have hW := specWalk lo hi a len cap ms p o true w h hh hn hL
  have hI := specIn z 0 63
  rw [show (decide (0 ≤ z) && decide (z ≤ 63)) = okZ z from rfl] at hI
  have hA : ∀ W, Below w.heap.size w W → IsMem W lo hi a len ms := fun W B => h.same (below_sameIn B hh)
  cases hz : okZ z
  · rw [show wiG ms p o z = -3 by rw [wiG, goodW, hz]; simp]
    rw [hz] at hI
    generalize walkG ms p o true = g at hW
    generalize walkE ms p o = en at hW
    obtain ⟨eh, ep, ew⟩ := en
    unfold entV at hW
    go_enter Tryd.func45, Tryd.ntmps45
    go_wp2_with (fail)
    refine hW.mono ?_
    rintro e w1 ⟨rfl, B1⟩
    have s1 := B1.size
    clear hW
    go_wp2_with (fail)
    refine (hI _).mono ?_
    rintro e w2 ⟨rfl, rfl⟩
    go_wp2_with (fail)
    refine (specCopyAll lo hi a len cap ms _ (hA _ ?hb) (by simp; omega) hn hL).mono ?_
    case hb => (repeat' (with_reducible (first | exact Below.refl _ _ | apply Below.setCell | apply Below.alloc | apply below_drewN | apply Below.drew | refine Below.trans ?_ (Below.mono (by assumption) ?_)))) <;> (first | exact Nat.le_refl _ | (simp; done) | (simp; omega) | (simp at *; omega))
    rintro e w3 ⟨a3, c3, rfl, M3, B3⟩
    have B13 : Below w.heap.size w w3 := Below.trans (by (repeat' (with_reducible (first | exact Below.refl _ _ | apply Below.setCell | apply Below.alloc | apply below_drewN | apply Below.drew | refine Below.trans ?_ (Below.mono (by assumption) ?_)))) <;> (first | exact Nat.le_refl _ | (simp; done) | (simp; omega) | (simp at *; omega))) (B3.mono (by simp; omega))
    have HM : Hid (OwnMem w3 w.heap.size w3.heap.size a3 len ms) := M3.wide (by simp; omega) (Nat.le_refl _)
    clear M3 hI hA B3
    go_wp2
    refine bodyPost_ret (v := .tuple #[.slice a3 len c3, .int .i64 (-3)]) (by simp [results, Tryd.results45, go_sem]) rfl ?_
    exact ⟨_, _, rfl, HM.out, B13⟩
  · rw [hz] at hI
    have hneg : walkG ms p o true < 0 ∧ wiG ms p o z = walkG ms p o true := by
      rw [walkG, wiG, goodW, hz]
      rw [wiB, goodW, hz] at hx
      cases hr : goodR ms p o
      · simp
      · rw [hr] at hx
        cases he : (entOf ms p).1
        · simp
        · rw [he] at hx
          cases hw : (entOf ms p).2.2
          · simp
          · rw [hw] at hx
            simp at hx
    rw [hneg.2]
    have hneg := hneg.1
    generalize walkG ms p o true = g at hW hneg
    generalize walkE ms p o = en at hW
    obtain ⟨eh, ep, ew⟩ := en
    unfold entV at hW
    clear hx
    go_enter Tryd.func45, Tryd.ntmps45
    go_wp2_with (fail)
    refine hW.mono ?_
    rintro e w1 ⟨rfl, B1⟩
    have s1 := B1.size
    clear hW
    go_wp2_with (fail)
    refine (hI _).mono ?_
    rintro e w2 ⟨rfl, rfl⟩
    go_wp2_with (fail)
    refine (specCopyAll lo hi a len cap ms _ (hA _ ?hb) (by simp; omega) hn hL).mono ?_
    case hb => (repeat' (with_reducible (first | exact Below.refl _ _ | apply Below.setCell | apply Below.alloc | apply below_drewN | apply Below.drew | refine Below.trans ?_ (Below.mono (by assumption) ?_)))) <;> (first | exact Nat.le_refl _ | (simp; done) | (simp; omega) | (simp at *; omega))
    rintro e w3 ⟨a3, c3, rfl, M3, B3⟩
    have B13 : Below w.heap.size w w3 := Below.trans (by (repeat' (with_reducible (first | exact Below.refl _ _ | apply Below.setCell | apply Below.alloc | apply below_drewN | apply Below.drew | refine Below.trans ?_ (Below.mono (by assumption) ?_)))) <;> (first | exact Nat.le_refl _ | (simp; done) | (simp; omega) | (simp at *; omega))) (B3.mono (by simp; omega))
    have HM : Hid (OwnMem w3 w.heap.size w3.heap.size a3 len ms) := M3.wide (by simp; omega) (Nat.le_refl _)
    clear M3 hI hA B3
    go_wp2
    refine bodyPost_ret (v := .tuple #[.slice a3 len c3, .int .i64 g]) (by simp [results, Tryd.results45, go_sem]) rfl ?_
    exact ⟨_, _, rfl, HM.out, B13⟩

set_option maxHeartbeats 2000000 in
theorem specFlatWriteIn (lo hi : Nat) (a : Option Addr) (len cap : Nat) (ms : List (List Int)) (p o z : Int) (w : World) (h : IsMem w lo hi a len ms) (hh : hi ≤ w.heap.size) (hn : len ≤ 1048576) (hL : ∀ i, i < len → (ms.getD i []).length ≤ 1048576) :
    Calls Tryd.prog 45 #[.slice a len cap, .int .i64 p, .int .i64 o, .int .i64 z] w fun e w' => ∃ a c, e = .returned (.tuple #[.slice a len c, .int .i64 (wiG ms p o z)]) ∧ OwnMem w' w.heap.size w'.heap.size a len (wiM ms p o z) ∧ Below w.heap.size w w' := by
  cases hx : wiB ms p o z
  · rw [show wiM ms p o z = ms by rw [wiM, hx]; rfl]
    exact specFlatWriteIn_no lo hi a len cap ms p o z w h hh hn hL hx
  · have hx' := hx
    simp only [wiB, Bool.and_eq_true] at hx'
    obtain ⟨hg, he, hw⟩ := hx'
    have hr := goodW_R hg
    have hz := goodW_Z hg
    obtain ⟨P, O, rfl, rfl, hP, hO⟩ := goodR_nat hr
    obtain ⟨Q, hQ, hQ2, hQ5, hrQ⟩ := goodR_led hr he
    obtain ⟨ho, h6⟩ := tabB_ok (goodR_tab hr)
    have hl := h.1
    obtain rfl : len = 6 := by omega
    have hW := specWalk lo hi a 6 cap ms P O true w h hh hn hL
    rw [show walkG ms P O true = 0 by rw [walkG, hr, he, hw]; rfl, show walkE ms P O = entOf ms P by rw [walkE, hr]; rfl] at hW
    rw [show wiG ms P O z = atM ms Q O by rw [wiG, hg, he, hw, hQ]; rfl, show wiM ms P O z = putM ms Q O z by rw [wiM, hx, hQ]; rfl]
    have hI := specIn z 0 63
    rw [show (decide (0 ≤ z) && decide (z ≤ 63)) = okZ z from rfl, hz] at hI
    have hA : ∀ W, Below w.heap.size w W → IsMem W lo hi a 6 ms := fun W B => h.same (below_sameIn B hh)
    generalize entOf ms P = en at hW hQ he
    obtain ⟨eh, ep, ew⟩ := en
    have hQ' : ep = Q := hQ
    subst hQ'
    unfold entV at hW
    have h4 := (okM_get ho (k := Q) (by omega)).1
    have hQi : (Q : Int) < 6 := by omega
    have hOi : (O : Int) < 4 := by omega
    clear hQ he hrQ hr hg hx hw hz
    go_enter Tryd.func45, Tryd.ntmps45
    go_wp2_with (fail)
    refine hW.mono ?_
    rintro e w1 ⟨rfl, B1⟩
    have s1 := B1.size
    clear hW
    go_wp2_with (fail)
    refine (hI _).mono ?_
    rintro e w2 ⟨rfl, rfl⟩
    go_wp2_with (fail)
    refine (specCopyAll lo hi a 6 cap ms _ (hA _ ?hb) (by simp; omega) hn hL).mono ?_
    case hb => (repeat' (with_reducible (first | exact Below.refl _ _ | apply Below.setCell | apply Below.alloc | apply below_drewN | apply Below.drew | refine Below.trans ?_ (Below.mono (by assumption) ?_)))) <;> (first | exact Nat.le_refl _ | (simp; done) | (simp; omega) | (simp at *; omega))
    rintro e w3 ⟨a3, c3, rfl, M3, B3⟩
    have B13 : Below w.heap.size w w3 := Below.trans (by (repeat' (with_reducible (first | exact Below.refl _ _ | apply Below.setCell | apply Below.alloc | apply below_drewN | apply Below.drew | refine Below.trans ?_ (Below.mono (by assumption) ?_)))) <;> (first | exact Nat.le_refl _ | (simp; done) | (simp; omega) | (simp at *; omega))) (B3.mono (by simp; omega))
    obtain ⟨hlm, hd⟩ := M3
    rcases hd with h0 | ⟨T, rfl, hT1, hT2, hU⟩
    · omega
    obtain ⟨pp, c, v, hp1, hp2, hpT, d0, d1, f1, hU'⟩ := hU.put (P := Q) (O := O) (by omega) (by omega) (by rw [h4]; exact hO) z
    have d2 : w3.cell? ⟨pp, O, none⟩ = some (.int .i64 (atM ms Q O)) := by
      obtain ⟨bs, _, hbs⟩ := hU
      obtain ⟨_, _, _, ⟨c', g4⟩, _, g6, _⟩ := hbs Q (by omega)
      rw [d0] at g4
      have e1 : pp = bs Q := by injection g4 with g4; injection g4 with g4 _ _; injection g4 with g4; injection g4
      have := g6 O (by omega)
      rw [Nat.zero_add, ← e1] at this
      exact this
    rw [h4] at d0
    have hp1' : w1.heap.size + 1 ≤ pp := by simpa using hp1
    have HM : Hid (OwnMem (w3.setCell ⟨pp, O, none⟩ (.int .i64 z)) w.heap.size w3.heap.size (some ⟨T, 0, none⟩) 6 (putM ms Q O z)) := OwnMem.wide ⟨by rw [putM_len]; exact hl, Or.inr ⟨T, rfl, hT1, hT2, hU'⟩⟩ (by simp; omega) (Nat.le_refl _)
    have B4 := B13.setCell (p := ⟨pp, O, none⟩) (show w.heap.size ≤ pp by omega) (.int .i64 z)
    have hs1 : w1.heap.size < w3.heap.size := by have := B3.size; simp at this; omega
    have k0 : w3.cell? ⟨w1.heap.size, 0, none⟩ = some (.bool eh) := (B3.cell (p := ⟨w1.heap.size, 0, none⟩) (by simp)).trans (by simp)
    have k1 : w3.cell? ⟨w1.heap.size, 1, none⟩ = some (.int .i64 Q) := (B3.cell (p := ⟨w1.heap.size, 1, none⟩) (by simp)).trans (by simp)
    have k2 : w3.cell? ⟨w1.heap.size, 2, none⟩ = some (.bool ew) := (B3.cell (p := ⟨w1.heap.size, 2, none⟩) (by simp)).trans (by simp)
    have hppw : w1.heap.size ≠ pp := by omega
    clear hU hU' hI hA B3 d1 hp1 hT1
    go_wp2
    refine bodyPost_ret (v := .tuple #[.slice (some ⟨T, 0, none⟩) 6 c3, .int .i64 (atM ms Q O)]) (by simp [results, Tryd.results45, go_sem]) rfl ?_
    exact ⟨_, _, rfl, by simpa using HM.out, B4⟩
end Go.Proofs.YteelpikhijkmdaaDoor
