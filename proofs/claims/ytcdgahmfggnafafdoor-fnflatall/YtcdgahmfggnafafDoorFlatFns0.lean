/-
  A guest alone: what the program's own FlatRead, FlatWrite, FlatReadIn, FlatWriteIn do.
-/
import Derived.Test.YtcdgahmfggnafafDoorFlatImpl0
namespace Go.Proofs.YtcdgahmfggnafafDoor
open Go.RowKit

/-- What is read; what memory is behind writing, and what is told of it; the same by the table. -/
def rdG (ms : List (List Int)) (p o : Int) : Int := bif goodR ms p o then atM ms p.toNat o.toNat else -3
def wrM (ms : List (List Int)) (p o z : Int) : List (List Int) := bif goodW ms p o z then putM ms p.toNat o.toNat z else ms
def wrG (ms : List (List Int)) (p o z : Int) : Int := bif goodW ms p o z then atM ms p.toNat o.toNat else -3
def riG (ms : List (List Int)) (p o : Int) : Int := bif goodR ms p o then (bif (entOf ms p).1 then atM ms (entOf ms p).2.1.toNat o.toNat else -1) else -3
def wiB (ms : List (List Int)) (p o z : Int) : Bool := goodW ms p o z && ((entOf ms p).1 && (entOf ms p).2.2)
def wiM (ms : List (List Int)) (p o z : Int) : List (List Int) := bif wiB ms p o z then putM ms (entOf ms p).2.1.toNat o.toNat z else ms
def wiG (ms : List (List Int)) (p o z : Int) : Int := bif goodW ms p o z then (bif (entOf ms p).1 then (bif (entOf ms p).2.2 then atM ms (entOf ms p).2.1.toNat o.toNat else -2) else -1) else -3

theorem wrM_len (ms : List (List Int)) (p o z : Int) : (wrM ms p o z).length = ms.length := by
  unfold wrM
  cases goodW ms p o z
  · rfl
  · exact putM_len _ _ _ _
theorem wiM_len (ms : List (List Int)) (p o z : Int) : (wiM ms p o z).length = ms.length := by
  unfold wiM
  cases wiB ms p o z
  · rfl
  · exact putM_len _ _ _ _
theorem goodW_R {ms : List (List Int)} {p o z : Int} (h : goodW ms p o z = true) : goodR ms p o = true := by
  simp only [goodW, Bool.and_eq_true] at h
  exact h.1
theorem goodW_Z {ms : List (List Int)} {p o z : Int} (h : goodW ms p o z = true) : okZ z = true := by
  simp only [goodW, Bool.and_eq_true] at h
  exact h.2
theorem putM_lens {ms : List (List Int)} {P O : Nat} (z : Int) {i : Nat} (hP : P < ms.length) : ((putM ms P O z).getD i []).length = (ms.getD i []).length := by
  by_cases hi : i = P
  · subst hi
    rw [putM_at O z hP, List.length_set]
  · rw [putM_off O z hi]
theorem wrM_lens (ms : List (List Int)) (p o z : Int) (i : Nat) : ((wrM ms p o z).getD i []).length = (ms.getD i []).length := by
  unfold wrM
  cases h : goodW ms p o z
  · rfl
  · obtain ⟨P, O, rfl, rfl, hP, _⟩ := goodR_nat (goodW_R h)
    exact putM_lens z (by have := (tabB_ok (goodR_tab (goodW_R h))).2; simp; omega)
theorem wiM_lens (ms : List (List Int)) (p o z : Int) (i : Nat) : ((wiM ms p o z).getD i []).length = (ms.getD i []).length := by
  unfold wiM
  cases h : wiB ms p o z
  · rfl
  · simp only [wiB, Bool.and_eq_true] at h
    have h6 := (tabB_ok (goodR_tab (goodW_R h.1))).2
    have hb := entOf_bd h.2.1
    exact putM_lens z (by omega)

/-- A word as it lies. -/
theorem IsMem.at {w : World} {lo hi : Nat} {a : Option Addr} {len : Nat} {ms : List (List Int)} (h : IsMem w lo hi a len ms) {P O : Nat} (hP : P < len) (hO : O < (ms.getD P []).length) :
    ∃ b o b' o' c, a = some ⟨b, o, none⟩ ∧ b < hi ∧ b' < hi ∧ w.cell? ⟨b, o + P, none⟩ = some (.slice (some ⟨b', o', none⟩) (ms.getD P []).length c) ∧ w.cell? ⟨b', o' + O, none⟩ = some (.int .i64 (atM ms P O)) := by
  obtain ⟨_, hd⟩ := h
  rcases hd with h0 | ⟨b, o, rfl, _, hb, hc⟩
  · omega
  obtain ⟨a', l, c, q, hI⟩ := hc P hP
  obtain ⟨hl, hd⟩ := hI
  rcases hd with h0 | ⟨b', o', rfl, _, hb', hc'⟩
  · omega
  subst hl
  exact ⟨b, o, b', o', c, rfl, hb, hb', q, hc' O hO⟩

set_option maxHeartbeats 1000000 in
theorem implFlatRead (lo hi : Nat) (a : Option Addr) (len cap : Nat) (ms : List (List Int)) (p o : Int) (w : World) (hg : ErrT w) (h : IsMem w lo hi a len ms) (hh : hi ≤ w.heap.size) (hn : len ≤ 1048576) :
    Calls Tryd.prog 5 #[.slice a len cap, .int .i64 p, .int .i64 o] w fun e w' => e = .returned (.int .i64 (rdG ms p o)) ∧ Below w.heap.size w w' := by
  have hC := checkRead_any lo hi a len cap ms p o w h hh hn
  cases hr : goodR ms p o
  · rw [show rdG ms p o = -3 by rw [rdG, hr]; rfl]
    rw [hr] at hC
    go_enter Tryd.func5, Tryd.ntmps5
    go_wp2_with (fail)
    refine hC.mono ?_
    rintro e w1 ⟨rfl, B1⟩
    have hG := gotOf_any (-3) w1 (hg.on B1)
    unfold errV at hG ⊢
    go_wp2_with (fail)
    refine hG.mono ?_
    rintro e w2 ⟨rfl, B2⟩
    go_wp2
    go_ret
    exact ⟨rfl, B1.trans (B2.mono B1.size)⟩
  · obtain ⟨P, O, rfl, rfl, hP, hO⟩ := goodR_nat hr
    obtain ⟨ho, h6⟩ := tabB_ok (goodR_tab hr)
    have hl := h.1
    obtain rfl : len = 6 := by omega
    rw [show rdG ms P O = atM ms P O by rw [rdG, hr]; rfl]
    have h4 := (okM_get ho (k := P) (by omega)).1
    rw [hr] at hC
    have hPi : (P : Int) < 6 := by omega
    have hOi : (O : Int) < 4 := by omega
    go_enter Tryd.func5, Tryd.ntmps5
    go_wp2_with (fail)
    refine hC.mono ?_
    rintro e w1 ⟨rfl, B1⟩
    obtain ⟨b, of, b', o', c, rfl, hb, hb', q, q'⟩ := (h.same (below_sameIn B1 hh)).at (P := P) (O := O) hP (by omega)
    rw [h4] at q
    clear hC
    go_wp2
    go_ret
    exact ⟨rfl, B1⟩

/-- What comes of looking for the page to be read, or written, in the place of one of the guest's own guest. -/
def ledR (ms : List (List Int)) (p o : Int) : Value := bif goodR ms p o then (bif (entOf ms p).1 then .tuple #[.int .i64 (entOf ms p).2.1, .nilIface] else .tuple #[.int .i64 0, errV (-1)]) else .tuple #[.int .i64 0, errV (-3)]
def ledW (ms : List (List Int)) (p o z : Int) : Value := bif goodW ms p o z then (bif (entOf ms p).1 then (bif (entOf ms p).2.2 then .tuple #[.int .i64 (entOf ms p).2.1, .nilIface] else .tuple #[.int .i64 0, errV (-2)]) else .tuple #[.int .i64 0, errV (-1)]) else .tuple #[.int .i64 0, errV (-3)]

theorem goodR_led {ms : List (List Int)} {P O : Nat} (h : goodR ms P O = true) (he : (entOf ms P).1 = true) : ∃ Q : Nat, (entOf ms P).2.1 = Q ∧ 2 ≤ Q ∧ Q ≤ 5 ∧ goodR ms Q O = true := by
  have hb := entOf_bd he
  obtain ⟨P', O', e1, e2, hP, hO⟩ := goodR_nat h
  exact ⟨(entOf ms P).2.1.toNat, by omega, by omega, by omega, goodR_of (goodR_tab h) (by omega) (by omega)⟩

theorem OwnMem.down {lo lo' : Nat} {w : World} {a : Option Addr} {len : Nat} {ms : List (List Int)} (h : OwnMem w lo w.heap.size a len ms) (h1 : lo' ≤ lo) : OwnMem w lo' w.heap.size a len ms := h.wide h1 (Nat.le_refl _)

end Go.Proofs.YtcdgahmfggnafafDoor
