/-
  What MemNew and MemWith answer, told at once for all arguments: the program's own and the given ones.
-/
import Derived.Test.YteelpikhijkmdaaDoorMemWith0
namespace Go.Proofs.YteelpikhijkmdaaDoor
open Go.RowKit

/-- What MemNew answers. -/
def newM (n : Int) : List (List Int) := if 0 ≤ n ∧ n ≤ 6 then zeroM n.toNat else []
theorem newM_len (n : Int) : (newM n).length ≤ 6 := by
  unfold newM
  split
  · simp [zeroM]; omega
  · simp
theorem newM_four (n : Int) : ∀ i, i < (newM n).length → ((newM n).getD i []).length = 4 := by
  intro i hi
  unfold newM at hi ⊢
  split at hi
  · rename_i h
    rw [if_pos h]
    rw [zeroM_get (by simpa [zeroM] using hi)]; rfl
  · simp at hi

theorem specMemNew (n : Int) (w : World) :
    Calls Tryd.prog 81 #[.int .i64 n] w fun e w' => ∃ a c, e = .returned (.slice a (newM n).length c) ∧ OwnMem w' w.heap.size w'.heap.size a (newM n).length (newM n) ∧ Below w.heap.size w w' := by
  by_cases h : 0 ≤ n ∧ n ≤ 6
  · obtain ⟨k, rfl⟩ := Int.eq_ofNat_of_zero_le h.1
    refine (specMemNew_yes k w (by omega)).mono ?_
    rintro e w' ⟨a, c, rfl, hM, _, hB⟩
    have hn : newM (k : Int) = zeroM k := by rw [newM, if_pos h]; rfl
    rw [hn, show (zeroM k).length = k by simp [zeroM]]
    exact ⟨_, _, rfl, hM, hB⟩
  · refine (specMemNew_no n w (by omega)).mono ?_
    rintro e w' ⟨rfl, hB⟩
    rw [show newM n = [] by rw [newM, if_neg h]]
    exact ⟨_, _, rfl, ⟨rfl, Or.inl rfl⟩, hB⟩

/-- What MemWith answers. -/
def withB (ms : List (List Int)) (p o z : Int) : Bool := atB ms p o && okZ z
def withM (ms : List (List Int)) (p o z : Int) : List (List Int) := bif withB ms p o z then putM ms p.toNat o.toNat z else []
theorem withB_nat {ms : List (List Int)} {p o z : Int} (h : withB ms p o z = true) : ∃ P O : Nat, p = P ∧ o = O ∧ P < ms.length ∧ O < 4 := by
  simp only [withB, atB, Bool.and_eq_true] at h
  exact placeB_nat h.1.2
theorem withB_ok {ms : List (List Int)} {p o z : Int} (h : withB ms p o z = true) : okM ms = true := by
  simp only [withB, atB, Bool.and_eq_true] at h
  exact h.1.1
theorem withM_len (ms : List (List Int)) (p o z : Int) : (withM ms p o z).length ≤ ms.length := by
  unfold withM
  cases withB ms p o z
  · simp
  · simp [putM_len]
theorem withM_four (ms : List (List Int)) (p o z : Int) : ∀ i, i < (withM ms p o z).length → ((withM ms p o z).getD i []).length = 4 := by
  intro i hi
  unfold withM at hi ⊢
  cases hb : withB ms p o z
  · rw [hb] at hi
    simp at hi
  · rw [hb] at hi
    simp only [cond_true, putM_len] at hi ⊢
    exact putM_four z (fun j hj => (okM_get (withB_ok hb) hj).1) i hi

theorem specMemWith (lo hi : Nat) (a : Option Addr) (len cap : Nat) (ms : List (List Int)) (p o z : Int) (w : World) (h : IsMem w lo hi a len ms) (hh : hi ≤ w.heap.size) (hn : len ≤ 1048576) (hL : ∀ i, i < len → (ms.getD i []).length ≤ 1048576) :
    Calls Tryd.prog 26 #[.slice a len cap, .int .i64 p, .int .i64 o, .int .i64 z] w fun e w' => ∃ a c, e = .returned (.tuple #[.slice a (withM ms p o z).length c, .bool (withB ms p o z)]) ∧ OwnMem w' w.heap.size w'.heap.size a (withM ms p o z).length (withM ms p o z) ∧ Below w.heap.size w w' := by
  cases hb : withB ms p o z
  · refine (specMemWith_no lo hi a len cap ms p o z w h hn hL hb).mono ?_
    rintro e w' ⟨rfl, hB⟩
    rw [show withM ms p o z = [] by rw [withM, hb]; rfl]
    exact ⟨_, _, rfl, ⟨rfl, Or.inl rfl⟩, hB⟩
  · obtain ⟨P, O, rfl, rfl, _, _⟩ := withB_nat hb
    refine (specMemWith_yes lo hi a len cap ms P O z w h hh hn hb).mono ?_
    rintro e w' ⟨a', c', rfl, hM, hB⟩
    rw [show withM ms P O z = putM ms P O z by rw [withM, hb]; rfl, putM_len, h.1]
    exact ⟨_, _, rfl, hM, hB⟩
end Go.Proofs.YteelpikhijkmdaaDoor
