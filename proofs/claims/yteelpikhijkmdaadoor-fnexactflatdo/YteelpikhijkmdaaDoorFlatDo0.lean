/-
  What an act does in a guest's memory alone, plainly; what the given FlatDo, and the program's, do.
-/
import Derived.Test.YteelpikhijkmdaaDoorFlatSpec1
import Derived.Test.YteelpikhijkmdaaDoorTidy0
import Derived.Test.YteelpikhijkmdaaDoorFlatCopy0
import Derived.Deep.DrawnRows
set_option linter.unusedSimpArgs false
namespace Go.Proofs.YteelpikhijkmdaaDoor
open Go.RowKit

theorem hidF {p : Prop} (h : p) : Hid p := h
def fdM (ms : List (List Int)) (a : A5) : List (List Int) := bif a.1 == 2 then wrM ms a.2.2.1 a.2.2.2.1 a.2.2.2.2 else bif a.1 == 4 then wiM ms a.2.2.1 a.2.2.2.1 a.2.2.2.2 else ms
def fdG (ms : List (List Int)) (a : A5) : Int := bif a.1 == 1 then rdG ms a.2.2.1 a.2.2.2.1 else bif a.1 == 2 then wrG ms a.2.2.1 a.2.2.2.1 a.2.2.2.2 else bif a.1 == 3 then riG ms a.2.2.1 a.2.2.2.1 else bif a.1 == 4 then wiG ms a.2.2.1 a.2.2.2.1 a.2.2.2.2 else 0
theorem fdM_len (ms : List (List Int)) (a : A5) : (fdM ms a).length = ms.length := by
  unfold fdM
  cases a.1 == 2
  · cases a.1 == 4
    · rfl
    · exact wiM_len _ _ _ _
  · exact wrM_len _ _ _ _
theorem fdM_lens (ms : List (List Int)) (a : A5) (i : Nat) : ((fdM ms a).getD i []).length = (ms.getD i []).length := by
  unfold fdM
  cases a.1 == 2
  · cases a.1 == 4
    · rfl
    · exact wiM_lens _ _ _ _ _
  · exact wrM_lens _ _ _ _ _

attribute [local go_sem ↓] Go.wp_at_zero Go.wp_at_succ
theorem specFlatDo_copy (lo hi : Nat) (a : Option Addr) (len cap : Nat) (ms : List (List Int)) (a0 a1 a2 a3 a4 : Int) (w : World) (h : IsMem w lo hi a len ms) (hh : hi ≤ w.heap.size) (hn : len ≤ 1048576) (hL : ∀ i, i < len → (ms.getD i []).length ≤ 1048576) (h2 : (a0 == 2) = false) (h4 : (a0 == 4) = false) :
    Calls Tryd.prog 13 #[.slice a len cap, .agg #[.int .i64 a0, .int .i64 a1, .int .i64 a2, .int .i64 a3, .int .i64 a4]] w fun e w' => ∃ a' c, e = .returned (.tuple #[.slice a' len c, .int .i64 (fdG ms (a0, a1, a2, a3, a4))]) ∧ OwnMem w' w.heap.size w'.heap.size a' len ms ∧ Below w.heap.size w w' := by
  obtain ⟨W0, hW0⟩ : ∃ W0, W0 = w.alloc (.cells #[.int .i64 a0, .int .i64 a1, .int .i64 a2, .int .i64 a3, .int .i64 a4] 37) := ⟨_, rfl⟩
  have B0 : Below w.heap.size w W0 := by rw [hW0]; exact (Below.refl _ _).alloc (Nat.le_refl _) _
  have s0 : W0.heap.size = w.heap.size + 1 := by rw [hW0]; simp
  have q : Hid (W0.cell? ⟨w.heap.size, 0, none⟩ = some (.int .i64 a0) ∧ W0.cell? ⟨w.heap.size, 2, none⟩ = some (.int .i64 a2) ∧ W0.cell? ⟨w.heap.size, 3, none⟩ = some (.int .i64 a3)) := by rw [hW0]; simp [Hid]
  have hc := hidF (fun (W : World) (B : Below w.heap.size w W) => specCopyAll lo hi a len cap ms W (h.same (below_sameIn B hh)) (Nat.le_trans hh B.size) hn hL)
  have hrd := hidF (fun (W : World) (B : Below w.heap.size w W) => specFlatRead lo hi a len cap ms a2 a3 W (h.same (below_sameIn B hh)) hn hL)
  have hri := hidF (fun (W : World) (B : Below w.heap.size w W) => specFlatReadIn lo hi a len cap ms a2 a3 W (h.same (below_sameIn B hh)) (Nat.le_trans hh B.size) hn hL)
  have l0 : w.heap.size < W0.heap.size := by omega
  cases h1 : a0 == 1
  · cases h3 : a0 == 3
    · have hG : fdG ms (a0, a1, a2, a3, a4) = 0 := by unfold fdG; simp only [h1, h2, h3, h4, cond]
      rw [hG]
      clear hrd hri
      go_enter Tryd.func13, Tryd.ntmps13
      go_wp2_with (fail)
      rw [← hW0]
      clear hW0
      refine (hc.out W0 B0).mono ?_
      rintro e w1 ⟨a', c, rfl, hM, B1⟩
      go_wp2
      refine bodyPost_ret (v := .tuple #[.slice a' len c, .int .i64 0]) (by simp [results, Tryd.results13, go_sem]) rfl ?_
      exact ⟨a', c, rfl, hM.wide B0.size (Nat.le_refl _), B0.trans (B1.mono B0.size)⟩
    · have hG : fdG ms (a0, a1, a2, a3, a4) = riG ms a2 a3 := by unfold fdG; simp only [h1, h2, h3, h4, cond]
      rw [hG]
      have ea : a0 = 3 := by simpa using h3
      subst ea
      go_enter Tryd.func13, Tryd.ntmps13
      go_wp2_with (fail)
      rw [← hW0]
      clear hW0
      obtain ⟨q0, q2, q3⟩ := q.out
      go_region_with (first | (go_at_call 28; refine (hc.out W0.drew B0.drew).mono ?_; rintro e w1 ⟨a', c, rfl, hM, B1⟩; have y2 := (B1.cell (p := ⟨w.heap.size, 2, none⟩) (by rw [World.size_drew]; exact l0)).trans q2; have y3 := (B1.cell (p := ⟨w.heap.size, 3, none⟩) (by rw [World.size_drew]; exact l0)).trans q3; have B01 := B0.drew.trans (B1.mono (by rw [World.size_drew]; exact B0.size)); have s1 := B1.size) | (go_at_call 44; refine (hri.out w1 B01).mono ?_; rintro e w2 ⟨rfl, B2⟩))
      all_goals
        have hM2 : OwnMem w2 w.heap.size w2.heap.size a' len ms := (hM.same (below_sameIn B2 (Nat.le_refl _))).wide (by rw [World.size_drew]; omega) B2.size
        have B02 : Below w.heap.size w w2 := B01.trans (B2.mono (by rw [World.size_drew] at s1; omega))
        have HM := hidF hM2
        have HB := hidF B02
        clear hM2 B02
        try clear B2
        try clear hM B1 B01 y2 y3
        go_wp2_with (fail)
        refine bodyPost_ret (v := .tuple #[.slice a' len c, .int .i64 (riG ms a2 a3)]) (by simp [results, Tryd.results13, go_sem]) rfl ?_
        exact ⟨a', c, rfl, HM.out, HB.out⟩
  · have hG : fdG ms (a0, a1, a2, a3, a4) = rdG ms a2 a3 := by unfold fdG; simp only [h1, cond]
    rw [hG]
    have ea : a0 = 1 := by simpa using h1
    subst ea
    go_enter Tryd.func13, Tryd.ntmps13
    go_wp2_with (fail)
    rw [← hW0]
    clear hW0
    obtain ⟨q0, q2, q3⟩ := q.out
    go_region_with (first | (go_at_call 28; refine (hc.out W0.drew B0.drew).mono ?_; rintro e w1 ⟨a', c, rfl, hM, B1⟩; have y2 := (B1.cell (p := ⟨w.heap.size, 2, none⟩) (by rw [World.size_drew]; exact l0)).trans q2; have y3 := (B1.cell (p := ⟨w.heap.size, 3, none⟩) (by rw [World.size_drew]; exact l0)).trans q3; have B01 := B0.drew.trans (B1.mono (by rw [World.size_drew]; exact B0.size)); have s1 := B1.size) | (go_at_call 43; refine (hrd.out w1 B01).mono ?_; rintro e w2 ⟨rfl, rfl⟩))
    all_goals
      have hM2 : OwnMem w2 w.heap.size w2.heap.size a' len ms := hM.wide (by rw [World.size_drew]; omega) (Nat.le_refl _)
      have B02 : Below w.heap.size w w2 := B01
      have HM := hidF hM2
      have HB := hidF B02
      clear hM2 B02
      try clear B2
      try clear hM B1 B01 y2 y3
      go_wp2_with (fail)
      refine bodyPost_ret (v := .tuple #[.slice a' len c, .int .i64 (rdG ms a2 a3)]) (by simp [results, Tryd.results13, go_sem]) rfl ?_
      exact ⟨a', c, rfl, HM.out, HB.out⟩
set_option maxRecDepth 100000 in
set_option maxHeartbeats 4000000 in
theorem specFlatDo (lo hi : Nat) (a : Option Addr) (len cap : Nat) (ms : List (List Int)) (a0 a1 a2 a3 a4 : Int) (w : World) (h : IsMem w lo hi a len ms) (hh : hi ≤ w.heap.size) (hn : len ≤ 1048576) (hL : ∀ i, i < len → (ms.getD i []).length ≤ 1048576) :
    Calls Tryd.prog 13 #[.slice a len cap, .agg #[.int .i64 a0, .int .i64 a1, .int .i64 a2, .int .i64 a3, .int .i64 a4]] w fun e w' => ∃ a' c, e = .returned (.tuple #[.slice a' len c, .int .i64 (fdG ms (a0, a1, a2, a3, a4))]) ∧ OwnMem w' w.heap.size w'.heap.size a' len (fdM ms (a0, a1, a2, a3, a4)) ∧ Below w.heap.size w w' := by
  cases h2 : a0 == 2
  · cases h4 : a0 == 4
    · rw [show fdM ms (a0, a1, a2, a3, a4) = ms by unfold fdM; simp only [h2, h4, cond]]
      exact specFlatDo_copy lo hi a len cap ms a0 a1 a2 a3 a4 w h hh hn hL h2 h4
    · have ea : a0 = 4 := by simpa using h4
      subst ea
      rw [show fdM ms (4, a1, a2, a3, a4) = wiM ms a2 a3 a4 from rfl, show fdG ms (4, a1, a2, a3, a4) = wiG ms a2 a3 a4 from rfl]
      obtain ⟨W0, hW0⟩ : ∃ W0, W0 = w.alloc (.cells #[.int .i64 4, .int .i64 a1, .int .i64 a2, .int .i64 a3, .int .i64 a4] 37) := ⟨_, rfl⟩
      have B0 : Below w.heap.size w W0 := by rw [hW0]; exact (Below.refl _ _).alloc (Nat.le_refl _) _
      have hc := specFlatWriteIn lo hi a len cap ms a2 a3 a4 W0 (h.same (below_sameIn B0 hh)) (Nat.le_trans hh B0.size) hn hL
      go_enter Tryd.func13, Tryd.ntmps13
      go_wp2_with (fail)
      rw [← hW0]
      clear hW0
      refine hc.mono ?_
      rintro e w1 ⟨a', c, rfl, hM, B1⟩
      go_wp2
      refine bodyPost_ret (v := .tuple #[.slice a' len c, .int .i64 (wiG ms a2 a3 a4)]) (by simp [results, Tryd.results13, go_sem]) rfl ?_
      exact ⟨a', c, rfl, hM.wide B0.size (Nat.le_refl _), B0.trans (B1.mono B0.size)⟩
  · have ea : a0 = 2 := by simpa using h2
    subst ea
    rw [show fdM ms (2, a1, a2, a3, a4) = wrM ms a2 a3 a4 from rfl, show fdG ms (2, a1, a2, a3, a4) = wrG ms a2 a3 a4 from rfl]
    obtain ⟨W0, hW0⟩ : ∃ W0, W0 = w.alloc (.cells #[.int .i64 2, .int .i64 a1, .int .i64 a2, .int .i64 a3, .int .i64 a4] 37) := ⟨_, rfl⟩
    have B0 : Below w.heap.size w W0 := by rw [hW0]; exact (Below.refl _ _).alloc (Nat.le_refl _) _
    have hc := specFlatWrite lo hi a len cap ms a2 a3 a4 W0 (h.same (below_sameIn B0 hh)) (Nat.le_trans hh B0.size) hn hL
    go_enter Tryd.func13, Tryd.ntmps13
    go_wp2_with (fail)
    rw [← hW0]
    clear hW0
    refine hc.mono ?_
    rintro e w1 ⟨a', c, rfl, hM, B1⟩
    go_wp2
    refine bodyPost_ret (v := .tuple #[.slice a' len c, .int .i64 (wrG ms a2 a3 a4)]) (by simp [results, Tryd.results13, go_sem]) rfl ?_
    exact ⟨a', c, rfl, hM.wide B0.size (Nat.le_refl _), B0.trans (B1.mono B0.size)⟩
end Go.Proofs.YteelpikhijkmdaaDoor
