/-
  What the program's own MemNew, MemOk, MemAt, MemWith do.
-/
import Derived.Test.YteelpikhijkmdaaDoorMemSheets0
namespace Go.Proofs.YteelpikhijkmdaaDoor
open Go.RowKit

/-- Whether there is such a place. -/
def placeB (n : Nat) (p o : Int) : Bool := decide (0 ≤ p) && decide (p < n) && decide (0 ≤ o) && decide (o < 4)
theorem placeB_nat {n : Nat} {p o : Int} (h : placeB n p o = true) : ∃ P O : Nat, p = P ∧ o = O ∧ P < n ∧ O < 4 := by
  simp [placeB] at h
  exact ⟨p.toNat, o.toNat, by omega, by omega, by omega, by omega⟩
/-- The word at a place; memory with another word there. -/
def atM (ms : List (List Int)) (p o : Nat) : Int := (ms.getD p []).getD o 0
def putM (ms : List (List Int)) (p o : Nat) (z : Int) : List (List Int) := ms.set p ((ms.getD p []).set o z)
theorem putM_len (ms : List (List Int)) (p o : Nat) (z : Int) : (putM ms p o z).length = ms.length := by simp [putM]
theorem putM_at {ms : List (List Int)} {p : Nat} (o : Nat) (z : Int) (hp : p < ms.length) : (putM ms p o z).getD p [] = (ms.getD p []).set o z := by
  rw [putM, List.getD_eq_getElem?_getD, List.getElem?_set_self hp]; rfl
theorem putM_off {ms : List (List Int)} {p i : Nat} (o : Nat) (z : Int) (h : i ≠ p) : (putM ms p o z).getD i [] = ms.getD i [] := by
  rw [putM, List.getD_eq_getElem?_getD, List.getElem?_set_ne (fun e => h e.symm), ← List.getD_eq_getElem?_getD]

theorem Sheets.at {w : World} {b : Nat} {ms : List (List Int)} (h : Sheets w b ms) {i j : Nat} (hi : i < ms.length) (hj : j < 4) : w.cell? ⟨b, i * 4 + j, none⟩ = some (.int .i64 (atM ms i j)) := by
  obtain ⟨h0, h1, h2, h3⟩ := h i hi
  match j, hj with
  | 0, _ => exact h0
  | 1, _ => exact h1
  | 2, _ => exact h2
  | 3, _ => exact h3
theorem sheets_of {w : World} {b : Nat} {ms : List (List Int)} (h : ∀ i j, i < ms.length → j < 4 → w.cell? ⟨b, i * 4 + j, none⟩ = some (.int .i64 (atM ms i j))) : Sheets w b ms := fun i hi =>
  ⟨h i 0 hi (by omega), h i 1 hi (by omega), h i 2 hi (by omega), h i 3 hi (by omega)⟩
theorem atM_put {ms : List (List Int)} {p o : Nat} (z : Int) (hp : p < ms.length) (h4 : (ms.getD p []).length = 4) (ho : o < 4) (i j : Nat) : atM (putM ms p o z) i j = if i = p ∧ j = o then z else atM ms i j := by
  unfold atM
  by_cases hi : i = p
  · subst hi
    rw [putM_at o z hp]
    by_cases hj : j = o
    · subst hj
      rw [if_pos ⟨rfl, rfl⟩, List.getD_eq_getElem?_getD, List.getElem?_set_self (by omega)]; rfl
    · rw [if_neg (fun h => hj h.2), List.getD_eq_getElem?_getD, List.getElem?_set_ne (fun e => hj e.symm), ← List.getD_eq_getElem?_getD]
  · rw [putM_off o z hi, if_neg (fun h => hi h.1)]
theorem sheets_set {w : World} {b : Nat} {ms : List (List Int)} (hS : Sheets w b ms) {p o : Nat} (hp : p < ms.length) (h4 : (ms.getD p []).length = 4) (ho : o < 4) (z : Int) :
    Sheets (w.setCell ⟨b, p * 4 + o, none⟩ (.int .i64 z)) b (putM ms p o z) := by
  refine sheets_of fun i j hi hj => ?_
  rw [putM_len] at hi
  rw [cell_put (hS.at hi hj), atM_put z hp h4 ho]
  by_cases h : i = p ∧ j = o
  · obtain ⟨rfl, rfl⟩ := h
    rw [if_pos rfl, if_pos ⟨rfl, rfl⟩]
  · rw [if_neg h, if_neg (by omega)]
theorem putM_four {ms : List (List Int)} {p o : Nat} (z : Int) (h4 : ∀ i, i < ms.length → (ms.getD i []).length = 4) : ∀ i, i < ms.length → ((putM ms p o z).getD i []).length = 4 := by
  intro i hi
  by_cases hp : i = p
  · subst hp
    rw [putM_at o z hi, List.length_set]
    exact h4 i hi
  · rw [putM_off o z hp]
    exact h4 i hi

set_option maxHeartbeats 400000 in
theorem placeOk_any (n : Nat) (p o : Int) (w : World) :
    Calls Tryd.prog 72 #[.int .i64 n, .int .i64 p, .int .i64 o] w fun e w' => e = .returned (.bool (placeB n p o)) ∧ w' = w := by
  by_cases h0 : 0 ≤ p
  · by_cases h1 : p < n
    · by_cases h2 : 0 ≤ o
      · by_cases h3 : o < 4
        · rw [show placeB n p o = true by simp [placeB, h0, h1, h2, h3]]
          go_enter Tryd.func72, Tryd.ntmps72
          go_wp2
          go_ret
          exact ⟨rfl, rfl⟩
        · rw [show placeB n p o = false by simp [placeB, h3]]
          go_enter Tryd.func72, Tryd.ntmps72
          go_wp2
          go_ret
          exact ⟨rfl, rfl⟩
      · rw [show placeB n p o = false by simp [placeB, h2]]
        go_enter Tryd.func72, Tryd.ntmps72
        go_wp2
        go_ret
        exact ⟨rfl, rfl⟩
    · rw [show placeB n p o = false by simp [placeB, h1]]
      go_enter Tryd.func72, Tryd.ntmps72
      go_wp2
      go_ret
      exact ⟨rfl, rfl⟩
  · rw [show placeB n p o = false by simp [placeB, h0]]
    go_enter Tryd.func72, Tryd.ntmps72
    go_wp2
    go_ret
    exact ⟨rfl, rfl⟩

theorem sheetsOf_no (lo hi : Nat) (a : Option Addr) (len cap : Nat) (ms : List (List Int)) (w : World) (h : IsMem w lo hi a len ms) (hh : hi ≤ w.heap.size) (hn : len ≤ 1048576) (ho : okM ms = false) :
    Calls Tryd.prog 34 #[.slice a len cap] w fun e w' => e = .returned (.tuple #[.slice none 0 0, .bool false]) ∧ Below w.heap.size w w' :=
  (sheetsOf_any lo hi a len cap ms w h hh hn).mono fun _ _ p => ⟨p.2.1 ho, p.2.2⟩
theorem sheetsOf_yes (lo hi : Nat) (a : Option Addr) (len cap : Nat) (ms : List (List Int)) (w : World) (h : IsMem w lo hi a len ms) (hh : hi ≤ w.heap.size) (hn : len ≤ 1048576) (ho : okM ms = true) :
    Calls Tryd.prog 34 #[.slice a len cap] w fun e w' => e = .returned (.tuple #[.slice (some ⟨w.heap.size, 0, none⟩) len len, .bool true]) ∧ Sheets w' w.heap.size ms ∧ Room w' w.heap.size (len * 4) ∧ w.heap.size < w'.heap.size ∧ Below w.heap.size w w' :=
  (sheetsOf_any lo hi a len cap ms w h hh hn).mono fun _ _ p => ⟨(p.1 ho).1, (p.1 ho).2.1, (p.1 ho).2.2.1, (p.1 ho).2.2.2, p.2.2⟩

set_option maxHeartbeats 1000000 in
theorem implMemOk (lo hi : Nat) (a : Option Addr) (len cap : Nat) (ms : List (List Int)) (w : World) (h : IsMem w lo hi a len ms) (hh : hi ≤ w.heap.size) (hn : len ≤ 1048576) :
    Calls Tryd.prog 71 #[.slice a len cap] w fun e w' => e = .returned (.bool (okM ms)) ∧ Below w.heap.size w w' := by
  cases ho : okM ms
  · go_enter Tryd.func71, Tryd.ntmps71
    go_wp2_with (fail)
    refine (sheetsOf_no lo hi a len cap ms _ h hh hn ho).mono ?_
    rintro e w1 ⟨rfl, B1⟩
    go_wp2
    go_ret
    exact ⟨rfl, B1⟩
  · go_enter Tryd.func71, Tryd.ntmps71
    go_wp2_with (fail)
    refine (sheetsOf_yes lo hi a len cap ms _ h hh hn ho).mono ?_
    rintro e w1 ⟨rfl, _, _, _, B1⟩
    go_wp2
    go_ret
    exact ⟨rfl, B1⟩

/-- What is read at a place: the word and true, or 0 and false. -/
def atB (ms : List (List Int)) (p o : Int) : Bool := okM ms && placeB ms.length p o
def atZ (ms : List (List Int)) (p o : Int) : Int := bif atB ms p o then atM ms p.toNat o.toNat else 0

/-- Pages of noughts. -/
def zeroM (n : Nat) : List (List Int) := List.replicate n [0, 0, 0, 0]
theorem zeroM_get {n i : Nat} (h : i < n) : (zeroM n).getD i [] = [0, 0, 0, 0] := by simp [zeroM, List.getD_eq_getElem?_getD, h]
theorem sheets_zero (w : World) (n : Nat) (t : TypeId) : Sheets (w.alloc (.cells (madeCells #[.int .i64 0, .int .i64 0, .int .i64 0, .int .i64 0] (n * 4)) t)) w.heap.size (zeroM n) := by
  refine sheets_of fun i j hi hj => ?_
  have hi' : i < n := by simpa [zeroM] using hi
  have hat : atM (zeroM n) i j = 0 := by
    unfold atM
    rw [zeroM_get hi']
    match j, hj with
    | 0, _ => rfl
    | 1, _ => rfl
    | 2, _ => rfl
    | 3, _ => rfl
  rw [hat]
  have hs := size_madeCells #[.int .i64 0, .int .i64 0, .int .i64 0, .int .i64 0] (n * 4)
  have hlt : i * 4 + j < n * 4 := by omega
  have hel : (madeCells #[.int .i64 0, .int .i64 0, .int .i64 0, .int .i64 0] (n * 4))[i * 4 + j]'(by omega) = .int .i64 0 := by
    have hm : (i * 4 + j) % 4 < 4 := Nat.mod_lt _ (by omega)
    simp only [madeCells, Array.getElem_map, Array.getElem_range]
    generalize hq : (i * 4 + j) % 4 = q at hm
    match q, hm with
    | 0, _ => rfl
    | 1, _ => rfl
    | 2, _ => rfl
    | 3, _ => rfl
  simp [hs, hlt, hel]

end Go.Proofs.YteelpikhijkmdaaDoor
