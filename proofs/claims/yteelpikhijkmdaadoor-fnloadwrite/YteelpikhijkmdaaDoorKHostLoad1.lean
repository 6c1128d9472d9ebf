/-
  What the program's own HostLoad and HostNew do, at every argument.
-/
import Derived.Test.YteelpikhijkmdaaDoorKHostLoad0
namespace Go.Proofs.YteelpikhijkmdaaDoor
open Go.RowKit

/-- Whether memory is loaded; what is loaded. -/
def loadB (ms : List (List Int)) : Bool := okM ms && ((ms.length % 6 == 0) && (decide (1 ≤ ms.length / 6) && decide (ms.length / 6 ≤ 2)))
def noH : Hst := ⟨[], [], 0⟩
def loadH (ms : List (List Int)) : Hst := bif loadB ms then ⟨zeroM 8, (List.range (ms.length / 6)).map (ldG ms), 0⟩ else noH
theorem ownHost_none (w : World) {lo hi : Nat} (h : lo ≤ hi) : OwnHost w lo hi (.slice none 0 0) (.slice none 0 0) noH :=
  ⟨none, 0, lo, lo, rfl, ⟨rfl, Or.inl rfl⟩, Nat.le_refl _, h, none, 0, rfl, Or.inl rfl⟩

set_option maxHeartbeats 2000000 in
theorem implHostLoad_rem (a : Option Addr) (len cap : Nat) (w : World) (hn : len ≤ 1048576) (h : len % 6 ≠ 0) :
    Calls Tryd.prog 10 #[.slice a len cap] w fun e w' => e = .returned (.tuple #[.agg #[.slice none 0 0, .slice none 0 0, .int .i64 0], .bool false]) ∧ Below w.heap.size w w' := by
  have h1 : ((len : Int).tmod 6 != 0) = true := by rw [Int.tmod_eq_emod_of_nonneg (by omega)]; simp; omega
  have h2 : ((len : Int).tmod 6 == 0) = false := by rw [Int.tmod_eq_emod_of_nonneg (by omega)]; simp; omega
  go_enter Tryd.func10, Tryd.ntmps10
  go_wp2_with (fail)
  refine bodyPost_ret (v := .tuple #[.agg #[.slice none 0 0, .slice none 0 0, .int .i64 0], .bool false]) (by simp [results, Tryd.results10, go_sem, *]) rfl ⟨rfl, ?_⟩
  (repeat' (with_reducible (first | exact Below.refl _ _ | apply Below.setCell | apply Below.alloc | apply below_drewN | apply Below.drew))) <;> (first | exact Nat.le_refl _ | (simp; done) | (simp; omega))

set_option maxHeartbeats 2000000 in
theorem implHostLoad_gu (a : Option Addr) (n cap : Nat) (w : World) (hn : n * 6 ≤ 1048576) (h : (decide (1 ≤ (n : Int)) && decide ((n : Int) ≤ 2)) = false) :
    Calls Tryd.prog 10 #[.slice a (n * 6) cap] w fun e w' => e = .returned (.tuple #[.agg #[.slice none 0 0, .slice none 0 0, .int .i64 0], .bool false]) ∧ Below w.heap.size w w' := by
  have hG := implGuestsOk n
  rw [h] at hG
  go_enter Tryd.func10, Tryd.ntmps10
  go_wp2_with (fail)
  refine (hG _).mono ?_
  rintro e w1 ⟨rfl, rfl⟩
  go_wp2
  refine bodyPost_ret (v := .tuple #[.agg #[.slice none 0 0, .slice none 0 0, .int .i64 0], .bool false]) (by simp [results, Tryd.results10, go_sem, *]) rfl ⟨rfl, ?_⟩
  (repeat' (with_reducible (first | exact Below.refl _ _ | apply Below.setCell | apply Below.alloc | apply below_drewN | apply Below.drew))) <;> (first | exact Nat.le_refl _ | (simp; done) | (simp; omega))

set_option maxHeartbeats 2000000 in
theorem implHostLoad_bad (lo hi : Nat) (a : Option Addr) (n cap : Nat) (ms : List (List Int)) (w : World) (h : IsMem w lo hi a (n * 6) ms) (hh : hi ≤ w.heap.size) (ho : okM ms = false) (hn1 : 1 ≤ n) (hn2 : n ≤ 2) :
    Calls Tryd.prog 10 #[.slice a (n * 6) cap] w fun e w' => e = .returned (.tuple #[.agg #[.slice none 0 0, .slice none 0 0, .int .i64 0], .bool false]) ∧ Below w.heap.size w w' := by
  have hG := implGuestsOk n
  rw [show (decide ((1 : Int) ≤ (n : Int)) && decide ((n : Int) ≤ 2)) = true by simp; omega] at hG
  go_enter Tryd.func10, Tryd.ntmps10
  go_wp2_with (fail)
  refine (hG _).mono ?_
  rintro e w1 ⟨rfl, rfl⟩
  have B0 : Below w.heap.size w (w.alloc (.cells #[.slice none 0 0, .slice none 0 0, .int .i64 0] 31)) := (Below.refl _ _).alloc (Nat.le_refl _) _
  go_wp2_with (fail)
  refine (sheetsOf_no lo hi a (n * 6) cap ms _ (h.same (below_sameIn B0 hh)) (Nat.le_trans hh B0.size) (by omega) ho).mono ?_
  rintro e w2 ⟨rfl, B2⟩
  rw [World.size_alloc] at B2
  obtain ⟨y0, y1, y2, y3, y4, y5, y6⟩ := newT_of B2
  have HB : Hid (Below w.heap.size w w2) := B0.trans (B2.mono (Nat.le_succ _))
  clear B2 B0
  go_wp2
  refine bodyPost_ret (v := .tuple #[.agg #[.slice none 0 0, .slice none 0 0, .int .i64 0], .bool false]) (by simp [results, Tryd.results10, go_sem, *]) rfl ⟨rfl, ?_⟩
  exact ((HB.out.setCell (p := ⟨w.heap.size, 0, none⟩) (Nat.le_refl _) _).setCell (p := ⟨w.heap.size, 1, none⟩) (Nat.le_refl _) _).setCell (p := ⟨w.heap.size, 2, none⟩) (Nat.le_refl _) _

theorem loadB_nat {ms : List (List Int)} {len : Nat} (hl : ms.length = len) : loadB ms = true ↔ ∃ n, len = n * 6 ∧ 1 ≤ n ∧ n ≤ 2 ∧ okM ms = true := by
  unfold loadB
  rw [hl]
  simp only [Bool.and_eq_true, beq_iff_eq, decide_eq_true_eq]
  constructor
  · rintro ⟨h1, h2, h3, h4⟩
    exact ⟨len / 6, by omega, h3, h4, h1⟩
  · rintro ⟨n, rfl, h1, h2, h3⟩
    exact ⟨h3, by omega, by omega, by omega⟩
theorem loadH_yes {ms : List (List Int)} {n : Nat} (hl : ms.length = n * 6) (h : loadB ms = true) : loadH ms = ⟨zeroM 8, (List.range n).map (ldG ms), 0⟩ := by
  rw [loadH, h, hl, Nat.mul_div_cancel _ (by omega)]; rfl
theorem loadH_no {ms : List (List Int)} (h : loadB ms = false) : loadH ms = noH := by rw [loadH, h]; rfl

theorem implHostLoad (lo hi : Nat) (a : Option Addr) (len cap : Nat) (ms : List (List Int)) (w : World) (h : IsMem w lo hi a len ms) (hh : hi ≤ w.heap.size) (hn : len ≤ 1048576) :
    Calls Tryd.prog 10 #[.slice a len cap] w fun e w' => ∃ vf vg, e = .returned (.tuple #[.agg #[vf, vg, .int .i64 0], .bool (loadB ms)]) ∧ OwnHost w' w.heap.size w'.heap.size vf vg (loadH ms) ∧ Below w.heap.size w w' := by
  cases hb : loadB ms
  · rw [loadH_no hb]
    have hno : Calls Tryd.prog 10 #[.slice a len cap] w fun e w' => e = .returned (.tuple #[.agg #[.slice none 0 0, .slice none 0 0, .int .i64 0], .bool false]) ∧ Below w.heap.size w w' := by
      by_cases h6 : len % 6 = 0
      · obtain ⟨n, rfl⟩ : ∃ n, len = n * 6 := ⟨len / 6, by omega⟩
        by_cases hg : 1 ≤ n ∧ n ≤ 2
        · refine implHostLoad_bad lo hi a n cap ms w h hh ?_ hg.1 hg.2
          cases ho : okM ms
          · rfl
          · have := (loadB_nat h.1).2 ⟨n, rfl, hg.1, hg.2, ho⟩
            rw [hb] at this
            cases this
        · exact implHostLoad_gu a n cap w hn (by simp; omega)
      · exact implHostLoad_rem a len cap w hn h6
    refine hno.mono ?_
    rintro e w' ⟨rfl, hB⟩
    exact ⟨_, _, rfl, ownHost_none w' hB.size, hB⟩
  · obtain ⟨n, rfl, h1, h2, ho⟩ := (loadB_nat h.1).1 hb
    rw [loadH_yes h.1 hb]
    exact implHostLoad_yes lo hi a n cap ms w h hh ho h1 h2

theorem okM_zero (n : Nat) : okM (zeroM n) = true := by
  unfold okM
  rw [List.all_eq_true]
  intro x hx
  obtain ⟨_, rfl⟩ := List.mem_replicate.1 hx
  rfl

end Go.Proofs.YteelpikhijkmdaaDoor
