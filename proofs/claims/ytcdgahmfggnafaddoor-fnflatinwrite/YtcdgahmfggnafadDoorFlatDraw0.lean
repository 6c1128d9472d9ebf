/-
  A guest alone: what is drawn for the laws, and what comes of writing.
-/
import Derived.Test.YtcdgahmfggnafadDoorFlatSpec1
import Derived.Test.YtcdgahmfggnafadDoorMemDraw2
import Derived.Test.YtcdgahmfggnafadDoorLkMem0
namespace Go.Proofs.YtcdgahmfggnafadDoor
open Go.RowKit

theorem atM_bd {ms : List (List Int)} {P O : Nat} (ho : okM ms = true) (hP : P < ms.length) (hO : O < 4) : 0 ≤ atM ms P O ∧ atM ms P O ≤ 63 := (okM_get ho hP).2 O hO
theorem okM_putF {ms : List (List Int)} {P O : Nat} {z : Int} (ho : okM ms = true) (hP : P < ms.length) (hz : okZ z = true) : okM (putM ms P O z) = true := by
  have h1 : okP ((ms.getD P []).set O z) = true := by
    have hp : okP (ms.getD P []) = true := by
      unfold okM at ho
      rw [List.all_eq_true] at ho
      rw [getD_lt hP]
      exact ho _ (List.getElem_mem hP)
    simp only [okP, Bool.and_eq_true, beq_iff_eq, List.all_eq_true, List.length_set] at hp ⊢
    refine ⟨fun x hx => ?_, hp.2⟩
    rcases List.mem_or_eq_of_mem_set hx with h | h
    · exact hp.1 x h
    · rw [h]; exact hz
  unfold okM at ho ⊢
  rw [List.all_eq_true] at ho ⊢
  intro x hx
  rcases List.mem_or_eq_of_mem_set hx with h | h
  · exact ho x h
  · rw [h]; exact h1
theorem tabB_put {ms : List (List Int)} {P O : Nat} {z : Int} (h : tabB ms = true) (hP : P < 6) (hz : okZ z = true) : tabB (putM ms P O z) = true := by
  obtain ⟨ho, h6⟩ := tabB_ok h
  simp [tabB, okM_putF ho (show P < ms.length by omega) hz, putM_len, h6]
theorem atM_at {ms : List (List Int)} {P O : Nat} (z : Int) (h : tabB ms = true) (hP : P < 6) (hO : O < 4) (i j : Nat) : atM (putM ms P O z) i j = if i = P ∧ j = O then z else atM ms i j := by
  obtain ⟨ho, h6⟩ := tabB_ok h
  exact atM_put z (by omega) (okM_get ho (by omega)).1 hO i j
theorem entOf_low {ms : List (List Int)} {Q O : Nat} {z : Int} (h : tabB ms = true) (hQ : Q < 6) (hQ2 : 2 ≤ Q) (hO : O < 4) {p : Nat} (hp : p < 6) : entOf (putM ms Q O z) p = entOf ms p := by
  unfold entOf
  rw [Int.toNat_natCast, atM_at z h hQ hO, if_neg (by omega)]
theorem tabM_low {ms : List (List Int)} {Q O : Nat} {z : Int} (h : tabB ms = true) (hQ : Q < 6) (hQ2 : 2 ≤ Q) (hO : O < 4) : tabM (putM ms Q O z) = tabM ms := by
  unfold tabM
  refine List.map_congr_left fun k hk => ?_
  have hk6 : k < 6 := by simpa using hk
  rw [atM_at z h hQ hO, if_neg (by omega)]
theorem rdG_good {ms : List (List Int)} {P O : Nat} (h : tabB ms = true) (hP : P < 6) (hO : O < 4) : rdG ms P O = atM ms P O := by rw [rdG, goodR_of h hP hO]; rfl
theorem riG_good {ms : List (List Int)} {P O : Nat} (h : tabB ms = true) (hP : P < 6) (hO : O < 4) : riG ms P O = bif (entOf ms P).1 then atM ms (entOf ms P).2.1.toNat O else -1 := by rw [riG, goodR_of h hP hO]; rfl
theorem goodW_of {ms : List (List Int)} {P O : Nat} {z : Int} (h : tabB ms = true) (hP : P < 6) (hO : O < 4) (hz : okZ z = true) : goodW ms P O z = true := by rw [goodW, goodR_of h hP hO, hz]; rfl
theorem wrG_good {ms : List (List Int)} {P O : Nat} {z : Int} (h : tabB ms = true) (hP : P < 6) (hO : O < 4) (hz : okZ z = true) : wrG ms P O z = atM ms P O ∧ wrM ms P O z = putM ms P O z := by
  rw [wrG, wrM, goodW_of h hP hO hz]; exact ⟨rfl, rfl⟩
theorem wiG_good {ms : List (List Int)} {P O Q : Nat} {z : Int} (h : tabB ms = true) (hP : P < 6) (hO : O < 4) (hz : okZ z = true) (he : entOf ms P = (true, (Q : Int), true)) : wiG ms P O z = atM ms Q O ∧ wiM ms P O z = putM ms Q O z := by
  rw [wiG, wiM, wiB, goodW_of h hP hO hz, he]; exact ⟨rfl, rfl⟩
/-- If writing is told to be done, the place, the word and the entry are such. -/
theorem wrG_pos {ms : List (List Int)} {p o : Nat} {z : Int} (h : 0 ≤ wrG ms p o z) : tabB ms = true ∧ p < 6 ∧ o < 4 ∧ okZ z = true := by
  cases hg : goodW ms p o z
  · rw [wrG, hg] at h
    simp at h
  · have hr := goodW_R hg
    obtain ⟨P, O, e1, e2, hP, hO⟩ := goodR_nat hr
    exact ⟨goodR_tab hr, by omega, by omega, goodW_Z hg⟩
theorem wiG_pos {ms : List (List Int)} {p o : Nat} {z : Int} (h : 0 ≤ wiG ms p o z) : tabB ms = true ∧ p < 6 ∧ o < 4 ∧ okZ z = true ∧ ∃ Q : Nat, entOf ms p = (true, (Q : Int), true) ∧ 2 ≤ Q ∧ Q < 6 := by
  cases hg : goodW ms p o z
  · rw [wiG, hg] at h
    simp at h
  · have hr := goodW_R hg
    obtain ⟨P, O, e1, e2, hP, hO⟩ := goodR_nat hr
    obtain rfl : p = P := by omega
    obtain rfl : o = O := by omega
    refine ⟨goodR_tab hr, hP, hO, goodW_Z hg, ?_⟩
    rw [wiG, hg] at h
    cases he : (entOf ms p).1
    · rw [he] at h
      simp at h
    · cases hw : (entOf ms p).2.2
      · rw [he, hw] at h
        simp at h
      · obtain ⟨Q, hQ, h2, h5, _⟩ := goodR_led hr he
        exact ⟨Q, Prod.ext he (Prod.ext hQ hw), h2, by omega⟩
theorem wiG_not {ms : List (List Int)} {p o : Nat} {z : Int} (h : wiG ms p o z ≠ -3) : tabB ms = true ∧ p < 6 ∧ o < 4 ∧ okZ z = true := by
  cases hg : goodW ms p o z
  · rw [wiG, hg] at h
    simp at h
  · have hr := goodW_R hg
    obtain ⟨P, O, e1, e2, hP, hO⟩ := goodR_nat hr
    exact ⟨goodR_tab hr, by omega, by omega, goodW_Z hg⟩
theorem atE_ent {ms : List (List Int)} {P : Nat} (hP : P < 6) : atE (tabM ms) P = entOf ms P := by
  have h5 : (P : Int) ≤ 5 := by omega
  have hg := tabM_get ms P hP
  rw [List.getD_eq_getElem?_getD] at hg
  simp [atE, okE_tabF, tabM_len, h5, hg, entOf]
theorem riG_not {ms : List (List Int)} {p o : Nat} (h : riG ms p o ≠ -3) : tabB ms = true ∧ p < 6 ∧ o < 4 := by
  cases hr : goodR ms p o
  · rw [riG, hr] at h
    simp at h
  · obtain ⟨P, O, e1, e2, hP, hO⟩ := goodR_nat hr
    exact ⟨goodR_tab hr, by omega, by omega⟩

set_option maxHeartbeats 1000000 in
theorem drawFlatReadIn (a : Option Addr) (len cap : Nat) (zs : List Int) (w : World) (h : IsRow .u8 w a len cap zs) :
    Calls Tryd.prog 12 #[.slice a len cap] w fun e w' => ∃ aM n c ms, ∃ p o : Nat, e = .returned (.tuple #[.slice aM n c, .int .i64 p, .int .i64 o]) ∧ DrawnMem w' w.heap.size w'.heap.size aM n ms ∧ p ≤ 6 ∧ o ≤ 4 ∧ Below w.heap.size w w' := by
  go_enter Tryd.func12, Tryd.ntmps12
  go_wp2_with (fail)
  refine (drawMemAt a len cap zs _ h).mono ?_
  rintro e w1 ⟨aM, n, c, ms, p, o, rfl, hM, hp, ho, B⟩
  have HM : Hid (DrawnMem w1 w.heap.size w1.heap.size aM n ms) := hM
  clear hM
  go_wp2
  refine bodyPost_ret (v := .tuple #[.slice aM n c, .int .i64 p, .int .i64 o]) (by simp [results, Tryd.results12, go_sem]) rfl ?_
  exact ⟨_, _, _, ms, _, _, rfl, HM.out, hp, ho, B⟩

set_option maxHeartbeats 1000000 in
theorem drawFlatWrite (a : Option Addr) (len cap : Nat) (zs : List Int) (w : World) (h : IsRow .u8 w a len cap zs) :
    Calls Tryd.prog 6 #[.slice a len cap] w fun e w' => ∃ aM n c ms, ∃ p o z : Nat, e = .returned (.tuple #[.slice aM n c, .int .i64 p, .int .i64 o, .int .i64 z]) ∧ DrawnMem w' w.heap.size w'.heap.size aM n ms ∧ p ≤ 6 ∧ o ≤ 4 ∧ z ≤ 200 ∧ Below w.heap.size w w' := by
  go_enter Tryd.func6, Tryd.ntmps6
  go_wp2_with (fail)
  refine (drawMemWith a len cap zs _ h).mono ?_
  rintro e w1 ⟨aM, n, c, ms, p, o, z, rfl, hM, hp, ho, hz, B⟩
  have HM : Hid (DrawnMem w1 w.heap.size w1.heap.size aM n ms) := hM
  clear hM
  go_wp2
  refine bodyPost_ret (v := .tuple #[.slice aM n c, .int .i64 p, .int .i64 o, .int .i64 z]) (by simp [results, Tryd.results6, go_sem]) rfl ?_
  exact ⟨_, _, _, ms, _, _, _, rfl, HM.out, hp, ho, hz, B⟩

set_option maxHeartbeats 1000000 in
theorem drawFlatWriteIn (a : Option Addr) (len cap : Nat) (zs : List Int) (w : World) (h : IsRow .u8 w a len cap zs) :
    Calls Tryd.prog 17 #[.slice a len cap] w fun e w' => ∃ aM n c ms, ∃ p o z : Nat, e = .returned (.tuple #[.slice aM n c, .int .i64 p, .int .i64 o, .int .i64 z]) ∧ DrawnMem w' w.heap.size w'.heap.size aM n ms ∧ p ≤ 6 ∧ o ≤ 4 ∧ z ≤ 200 ∧ Below w.heap.size w w' := by
  go_enter Tryd.func17, Tryd.ntmps17
  go_wp2_with (fail)
  refine (drawMemWith a len cap zs _ h).mono ?_
  rintro e w1 ⟨aM, n, c, ms, p, o, z, rfl, hM, hp, ho, hz, B⟩
  have HM : Hid (DrawnMem w1 w.heap.size w1.heap.size aM n ms) := hM
  clear hM
  go_wp2
  refine bodyPost_ret (v := .tuple #[.slice aM n c, .int .i64 p, .int .i64 o, .int .i64 z]) (by simp [results, Tryd.results17, go_sem]) rfl ?_
  exact ⟨_, _, _, ms, _, _, _, rfl, HM.out, hp, ho, hz, B⟩
end Go.Proofs.YtcdgahmfggnafadDoor
