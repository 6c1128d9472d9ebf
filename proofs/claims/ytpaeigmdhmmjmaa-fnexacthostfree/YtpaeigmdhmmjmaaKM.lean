/-
  The walk of the law FnExactMemNew: whatever the number, both functions give the same, and the answer lies in memory of its own.
-/
import Derived.Test.YtpaeigmdhmmjmaaKWalkFnExactMemOk
import Derived.Test.YtpaeigmdhmmjmaaKHostMark1
import Derived.Test.YtpaeigmdhmmjmaaKHostMake2
namespace Go.Proofs.Ytpaeigmdhmmjmaa
open Go.RowKit

theorem tot_four {ms : List (List Int)} (h : ∀ i, i < ms.length → (ms.getD i []).length = 4) (k : Nat) (hk : k ≤ ms.length) : tot ms k = 4 * k := by
  induction k with
  | zero => simp [tot]
  | succ k ih => rw [tot_step hk, ih (by omega), h k hk]; omega

end Go.Proofs.Ytpaeigmdhmmjmaa

/-
  Hosts of the shape that the functions hand out are small; answers written out.
-/
namespace Go.Proofs.Ytpaeigmdhmmjmaa
open Go.RowKit

/-- As great as a host may be. -/
def Shaped (h : Hst) : Prop := h.frames.length ≤ 8 ∧ (∀ i, i < h.frames.length → (h.frames.getD i []).length = 4) ∧ h.guests.length ≤ 2 ∧ ∀ i, i < h.guests.length → (h.guests.getD i noG).maps.length ≤ 6 ∧ (h.guests.getD i noG).shades.length ≤ 6 ∧ (h.guests.getD i noG).disk.length ≤ 6 ∧ ∀ j, j < (h.guests.getD i noG).disk.length → ((h.guests.getD i noG).disk.getD j []).length = 4
theorem Shaped.small {h : Hst} (s : Shaped h) : SmallH h := by
  obtain ⟨s1, s2, s3, s4⟩ := s
  refine ⟨by omega, fun i hi => by rw [s2 i hi]; omega, by omega, fun i hi => ?_⟩
  obtain ⟨a, b, c, d⟩ := s4 i hi
  exact ⟨by omega, by omega, by omega, fun j hj => by rw [d j hj]; omega⟩
theorem Shaped.cnt {h : Hst} (s : Shaped h) : cntH h ≤ 1000 := by
  obtain ⟨s1, s2, s3, s4⟩ := s
  have hg : ∀ i, i < h.guests.length → cntG (h.guests.getD i noG) ≤ 66 := fun i hi => by
    obtain ⟨a, b, c, d⟩ := s4 i hi
    unfold cntG
    rw [tot_four d _ (Nat.le_refl _)]
    omega
  have hu : ∀ k, k ≤ h.guests.length → cntU h.guests k ≤ 66 * k := fun k => by
    induction k with
    | zero => intro _; simp [cntU]
    | succ k ih =>
      intro hk
      rw [cntU_step (by omega)]
      have := hg k (by omega)
      have := ih (by omega)
      omega
  have := hu _ (Nat.le_refl _)
  unfold cntH
  rw [tot_four s2 _ (Nat.le_refl _)]
  omega
theorem shaped_no : Shaped noH := ⟨by simp [noH], fun i hi => by simp [noH] at hi, by simp [noH], fun i hi => by simp [noH] at hi⟩
theorem shaped_load {ms : List (List Int)} : Shaped (loadH ms) := by
  cases hb : loadB ms
  · rw [loadH_no hb]; exact shaped_no
  · obtain ⟨n, hn, h1, h2, ho⟩ := (loadB_nat (ms := ms) rfl).1 hb
    rw [loadH_yes hn hb]
    refine ⟨by simp [zeroM], fun i hi => ?_, by simpa using h2, fun i hi => ?_⟩
    · show ((zeroM 8).getD i []).length = 4
      rw [zeroM_get (by simpa [zeroM] using hi)]
      rfl
    · have hi' : i < n := by simpa using hi
      have e : ((List.range n).map (ldG ms)).getD i noG = ldG ms i := by simp [List.getD_eq_getElem?_getD, hi']
      show (((List.range n).map (ldG ms)).getD i noG).maps.length ≤ 6 ∧ (((List.range n).map (ldG ms)).getD i noG).shades.length ≤ 6 ∧ (((List.range n).map (ldG ms)).getD i noG).disk.length ≤ 6 ∧ ∀ j, j < (((List.range n).map (ldG ms)).getD i noG).disk.length → ((((List.range n).map (ldG ms)).getD i noG).disk.getD j []).length = 4
      rw [e]
      refine ⟨by simp [ldG], by simp [ldG], by simp [ldG, List.length_take]; omega, fun j hj => ?_⟩
      have hj' : j < ((ms.drop (i * 6)).take 6).length := hj
      rw [List.length_take, List.length_drop] at hj'
      have e2 : ((ms.drop (i * 6)).take 6).getD j [] = ms.getD (i * 6 + j) [] := by
        simp only [List.getD_eq_getElem?_getD]
        rw [List.getElem?_take_of_lt (by omega), List.getElem?_drop]
      show (((ms.drop (i * 6)).take 6).getD j []).length = 4
      rw [e2]
      exact (okM_get ho (by omega)).1
theorem shaped_new (n : Int) : Shaped (newH n) := by
  unfold newH
  cases newB n
  · exact shaped_no
  · exact shaped_load

/-- A host handed out, its parts written out. -/
def Gives (w w' : World) (e : Ending) (ok : Bool) (h : Hst) : Prop :=
  ∃ a1 l1 c1 a2 l2 c2, e = .returned (.tuple #[.agg #[.slice a1 l1 c1, .slice a2 l2 c2, .int .i64 h.hand], .bool ok]) ∧ OwnHost w' w.heap.size w'.heap.size (.slice a1 l1 c1) (.slice a2 l2 c2) h ∧ Below w.heap.size w w'
theorem gives_of {w w' : World} {e : Ending} {ok : Bool} {h : Hst} {z : Int} (hz : h.hand = z) (k : ∃ vf vg, e = .returned (.tuple #[.agg #[vf, vg, .int .i64 z], .bool ok]) ∧ OwnHost w' w.heap.size w'.heap.size vf vg h ∧ Below w.heap.size w w') : Gives w w' e ok h := by
  obtain ⟨vf, vg, rfl, hO, hB⟩ := k
  have hO' := hO
  obtain ⟨af, cf, m0, m1, rfl, _, _, _, ag, cg, rfl, _⟩ := hO'
  exact ⟨_, _, _, _, _, _, by rw [hz], hO, hB⟩
theorem load_hand (ms : List (List Int)) : (loadH ms).hand = 0 := by
  unfold loadH
  cases loadB ms <;> rfl
theorem new_hand (n : Int) : (newH n).hand = 0 := by
  unfold newH
  cases newB n
  · rfl
  · exact load_hand _
theorem implNewG (n : Int) (w : World) : Calls Try.prog 9 #[.int .i64 n] w fun e w' => Gives w w' e (newB n) (newH n) := (implHostNew n w).mono fun _ _ k => gives_of (new_hand n) k
theorem specNewG (n : Int) (w : World) : Calls Try.prog 8 #[.int .i64 n] w fun e w' => Gives w w' e (newB n) (newH n) := (specHostNew n w).mono fun _ _ k => gives_of (new_hand n) k
theorem implLoadG (lo hi : Nat) (a : Option Addr) (len cap : Nat) (ms : List (List Int)) (w : World) (h : IsMem w lo hi a len ms) (hh : hi ≤ w.heap.size) (hn : len ≤ 1048576) : Calls Try.prog 25 #[.slice a len cap] w fun e w' => Gives w w' e (loadB ms) (loadH ms) := (implHostLoad lo hi a len cap ms w h hh hn).mono fun _ _ k => gives_of (load_hand ms) k
theorem specLoadG (lo hi : Nat) (a : Option Addr) (len cap : Nat) (ms : List (List Int)) (w : World) (h : IsMem w lo hi a len ms) (hh : hi ≤ w.heap.size) (hn : len ≤ 1048576) (hcap : len ≤ cap) (hL : ∀ i, i < len → (ms.getD i []).length ≤ 1048576) : Calls Try.prog 23 #[.slice a len cap] w fun e w' => Gives w w' e (loadB ms) (loadH ms) := (specHostLoad lo hi a len cap ms w h hh hn hcap hL).mono fun _ _ k => gives_of (load_hand ms) k

theorem HostIn.belowK {w w' : World} {lo hi : Nat} {vf vg : Value} {h : Hst} (k : HostIn w lo hi vf vg h) (hB : Below w.heap.size w w') (hh : hi ≤ w.heap.size) : HostIn w' lo hi vf vg h := k.same (below_sameIn hB hh)
theorem OwnHost.belowK {w w' : World} {lo hi : Nat} {vf vg : Value} {h : Hst} (k : OwnHost w lo hi vf vg h) (hB : Below w.heap.size w w') (hh : hi ≤ w.heap.size) : OwnHost w' lo hi vf vg h := k.same (below_sameIn hB hh)
theorem HostIn.allocK {w : World} {lo hi : Nat} {vf vg : Value} {h : Hst} (k : HostIn w lo hi vf vg h) (hh : hi ≤ w.heap.size) (o : Obj) : HostIn (w.alloc o) lo hi vf vg h := k.belowK ((Below.refl _ _).alloc (Nat.le_refl _) _) hh
theorem OwnHost.allocK {w : World} {lo hi : Nat} {vf vg : Value} {h : Hst} (k : OwnHost w lo hi vf vg h) (hh : hi ≤ w.heap.size) (o : Obj) : OwnHost (w.alloc o) lo hi vf vg h := k.belowK ((Below.refl _ _).alloc (Nat.le_refl _) _) hh
/-- Behind a new variable, and a call that only adds memory. -/
theorem viaK {N : Nat} {w w1 w2 : World} {o : Obj} (B1 : Below N w w1) (h1 : N ≤ w1.heap.size) (B2 : Below (w1.alloc o).heap.size (w1.alloc o) w2) : Below N w w2 ∧ w1.heap.size + 1 ≤ w2.heap.size :=
  ⟨(B1.alloc h1 _).trans (B2.mono (by rw [World.size_alloc]; omega)), by have := B2.size; rwa [World.size_alloc] at this⟩
end Go.Proofs.Ytpaeigmdhmmjmaa
