/-
  What MemNew and MemWith answer, told at once for all arguments: the program's own and the given ones.
-/
import Derived.Test.YtcdgahmfggnafatDoorMemWith0
namespace Go.Proofs.YtcdgahmfggnafatDoor
open Go.RowKit

/-- What MemNew answers. -/
def newM (n : Int) : List (List Int) := if 0 ≤ n ∧ n ≤ 6 then zeroM n.toNat else []
theorem newM_len (n : Int) : (newM n).length ≤ 6 := by
  unfold newM
  split
  · simp [zeroM]; omega
  · simp
theorem newM_four (n : Int) : ∀ i, i < (newM n).length → ((newM n).getD i []).length = 4 := by
  intro i hi
  unfold newM at hi ⊢
  split at hi
  · rename_i h
    rw [if_pos h]
    rw [zeroM_get (by simpa [zeroM] using hi)]; rfl
  · simp at hi

/-- What MemWith answers. -/
def withB (ms : List (List Int)) (p o z : Int) : Bool := atB ms p o && okZ z
def withM (ms : List (List Int)) (p o z : Int) : List (List Int) := bif withB ms p o z then putM ms p.toNat o.toNat z else []
theorem withB_nat {ms : List (List Int)} {p o z : Int} (h : withB ms p o z = true) : ∃ P O : Nat, p = P ∧ o = O ∧ P < ms.length ∧ O < 4 := by
  simp only [withB, atB, Bool.and_eq_true] at h
  exact placeB_nat h.1.2
theorem withB_ok {ms : List (List Int)} {p o z : Int} (h : withB ms p o z = true) : okM ms = true := by
  simp only [withB, atB, Bool.and_eq_true] at h
  exact h.1.1
theorem withM_len (ms : List (List Int)) (p o z : Int) : (withM ms p o z).length ≤ ms.length := by
  unfold withM
  cases withB ms p o z
  · simp
  · simp [putM_len]
theorem withM_four (ms : List (List Int)) (p o z : Int) : ∀ i, i < (withM ms p o z).length → ((withM ms p o z).getD i []).length = 4 := by
  intro i hi
  unfold withM at hi ⊢
  cases hb : withB ms p o z
  · rw [hb] at hi
    simp at hi
  · rw [hb] at hi
    simp only [cond_true, putM_len] at hi ⊢
    exact putM_four z (fun j hj => (okM_get (withB_ok hb) hj).1) i hi

end Go.Proofs.YtcdgahmfggnafatDoor
