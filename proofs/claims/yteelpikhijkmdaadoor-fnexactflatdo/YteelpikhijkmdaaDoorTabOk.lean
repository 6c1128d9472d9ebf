/-
  What the tests on tables do: the given one and the program's own.
-/
import Derived.Test.YteelpikhijkmdaaDoorBase
namespace Go.Proofs.YteelpikhijkmdaaDoor
open Go.RowKit

/-- An entry: whether there is something, its page, whether it may be written. -/
abbrev E3 := Bool × Int × Bool
/-- Whether an entry is one. -/
def okE (e : E3) : Bool := if e.1 then decide (0 ≤ e.2.1) && decide (e.2.1 ≤ 5) else e.2.1 == 0 && !e.2.2

theorem all_false {es : List E3} {k : Nat} (h : k < es.length) (hf : okE es[k] = false) : es.all okE = false := by
  rw [List.all_eq_false]
  exact ⟨es[k], List.getElem_mem h, by simp [hf]⟩
theorem take_all {es : List E3} {k : Nat} (h : k < es.length) (ha : (es.take k).all okE = true) (hf : okE es[k] = true) : (es.take (k + 1)).all okE = true := by
  rw [List.take_succ_eq_append_getElem h, List.all_append, ha]
  simp [hf]

/-- A row of entries in memory. -/
def Ents (w : World) (b o : Nat) (es : List E3) : Prop :=
  ∀ i, i < es.length → w.cell? ⟨b, o + i * 3, none⟩ = some (.bool (es.getD i (false, 0, false)).1) ∧ w.cell? ⟨b, o + i * 3 + 1, none⟩ = some (.int .i64 (es.getD i (false, 0, false)).2.1) ∧ w.cell? ⟨b, o + i * 3 + 2, none⟩ = some (.bool (es.getD i (false, 0, false)).2.2)

theorem assert_gap (w : World) : (Instr.typeAssert (.iface 181 (.agg #[])) 178 174 true).run Tryd.prog w = .ok (.tuple #[.agg #[.int .i64 0, .bool false], .bool false]) w := by kernel_rfl
theorem assert_lead (p : Int) (b : Bool) (w : World) : (Instr.typeAssert (.iface 174 (.agg #[.int .i64 p, .bool b])) 178 174 true).run Tryd.prog w = .ok (.tuple #[.agg #[.int .i64 p, .bool b], .bool true]) w := by kernel_rfl

set_option maxHeartbeats 400000 in
theorem implEntryOk (h : Bool) (p : Int) (b : Bool) (w : World) :
    Calls Tryd.prog 102 #[.agg #[.bool h, .int .i64 p, .bool b]] w fun e w' => e = .returned (.bool (okE (h, p, b))) ∧ Below w.heap.size w w' := by
  have t1 := assert_gap
  have t2 := assert_lead
  cases h
  · by_cases hp : p = 0
    · subst hp
      cases b
      · rw [show okE (false, 0, false) = true from rfl]
        go_enter Tryd.func102, Tryd.ntmps102
        go_wp2
        go_ret
        refine ⟨rfl, ?_⟩
        (repeat' (with_reducible (first | exact Below.refl _ _ | apply Below.setCell | apply Below.alloc | apply below_drewN | apply Below.drew | refine Below.trans ?_ (Below.mono (by assumption) ?_)))) <;> (first | exact Nat.le_refl _ | (simp; done) | (simp; omega) | (simp at *; omega))
      · rw [show okE (false, 0, true) = false from rfl]
        go_enter Tryd.func102, Tryd.ntmps102
        go_wp2
        go_ret
        refine ⟨rfl, ?_⟩
        (repeat' (with_reducible (first | exact Below.refl _ _ | apply Below.setCell | apply Below.alloc | apply below_drewN | apply Below.drew | refine Below.trans ?_ (Below.mono (by assumption) ?_)))) <;> (first | exact Nat.le_refl _ | (simp; done) | (simp; omega) | (simp at *; omega))
    · have hp' : (p == 0) = false := by simpa using hp
      rw [show okE (false, p, b) = false by simp [okE, hp]]
      go_enter Tryd.func102, Tryd.ntmps102
      go_wp2
      go_ret
      refine ⟨rfl, ?_⟩
      (repeat' (with_reducible (first | exact Below.refl _ _ | apply Below.setCell | apply Below.alloc | apply below_drewN | apply Below.drew | refine Below.trans ?_ (Below.mono (by assumption) ?_)))) <;> (first | exact Nat.le_refl _ | (simp; done) | (simp; omega) | (simp at *; omega))
  · by_cases h0 : 0 ≤ p
    · by_cases h5 : p < 6
      · have h5' : p ≤ 5 := by omega
        rw [show okE (true, p, b) = true by simp [okE, h0, h5']]
        clear h5'
        go_enter Tryd.func102, Tryd.ntmps102
        go_wp2
        go_ret
        refine ⟨rfl, ?_⟩
        (repeat' (with_reducible (first | exact Below.refl _ _ | apply Below.setCell | apply Below.alloc | apply below_drewN | apply Below.drew | refine Below.trans ?_ (Below.mono (by assumption) ?_)))) <;> (first | exact Nat.le_refl _ | (simp; done) | (simp; omega) | (simp at *; omega))
      · have h5' : ¬ p ≤ 5 := by omega
        rw [show okE (true, p, b) = false by simp [okE, h5']]
        clear h5'
        go_enter Tryd.func102, Tryd.ntmps102
        go_wp2
        go_ret
        refine ⟨rfl, ?_⟩
        (repeat' (with_reducible (first | exact Below.refl _ _ | apply Below.setCell | apply Below.alloc | apply below_drewN | apply Below.drew | refine Below.trans ?_ (Below.mono (by assumption) ?_)))) <;> (first | exact Nat.le_refl _ | (simp; done) | (simp; omega) | (simp at *; omega))
    · rw [show okE (true, p, b) = false by simp [okE, h0]]
      go_enter Tryd.func102, Tryd.ntmps102
      go_wp2
      go_ret
      refine ⟨rfl, ?_⟩
      (repeat' (with_reducible (first | exact Below.refl _ _ | apply Below.setCell | apply Below.alloc | apply below_drewN | apply Below.drew | refine Below.trans ?_ (Below.mono (by assumption) ?_)))) <;> (first | exact Nat.le_refl _ | (simp; done) | (simp; omega) | (simp at *; omega))

set_option maxHeartbeats 400000 in
theorem implTabOk_len (a : Option Addr) (len cap : Nat) (w : World) (h : ((len : Int) == 6) = false) :
    Calls Tryd.prog 97 #[.slice a len cap] w fun e w' => e = .returned (.bool false) ∧ w' = w := by
  go_enter Tryd.func97, Tryd.ntmps97
  go_wp2
  go_ret
  exact ⟨rfl, rfl⟩

set_option maxHeartbeats 1000000 in
theorem implTabOk_six (b o cap : Nat) (es : List E3) (w : World) (hl : es.length = 6) (hb : b < w.heap.size) (hc : Ents w b o es) :
    Calls Tryd.prog 97 #[.slice (some ⟨b, o, none⟩) 6 cap] w fun e w' => e = .returned (.bool (es.all okE)) ∧ Below w.heap.size w w' := by
  go_enter Tryd.func97, Tryd.ntmps97
  go_wp2
  go_loopw [4, 10] (fun _ i wr => ∃ k : Nat, k ≤ 6 ∧ i = .int .i64 k ∧ Hid ((es.take k).all okE = true) ∧ Below w.heap.size w wr) (fun _ i _ => 6 - (intOf i).toNat)
  case atStart => exact ⟨0, Nat.zero_le _, rfl, rfl, Below.refl _ _⟩
  case round =>
    obtain ⟨k, hk, rfl, hok, hB⟩ := hrel
    have hs := hB.size
    by_cases hlt : k < 6
    · obtain ⟨q0, q1, q2⟩ := hc k (by omega)
      generalize hE : es.getD k (false, 0, false) = ek at q0 q1 q2
      obtain ⟨eh, ep, eb⟩ := ek
      have c0 := (hB.cell (p := ⟨b, o + k * 3, none⟩) hb).trans q0
      have c1 := (hB.cell (p := ⟨b, o + k * 3 + 1, none⟩) hb).trans q1
      have c2 := (hB.cell (p := ⟨b, o + k * 3 + 2, none⟩) hb).trans q2
      have hlt' : k < es.length := by omega
      have hg : es.getD k (false, 0, false) = es[k] := by rw [List.getD_eq_getElem?_getD, List.getElem?_eq_getElem hlt']; rfl
      have HE : Hid (es[k] = (eh, ep, eb)) := hg.symm.trans hE
      clear hE hg q0 q1 q2
      cases hO : okE (eh, ep, eb)
      · have HF : Hid (es.all okE = false) := all_false hlt' (by rw [HE.out]; exact hO)
        go_wp2_with (go_at_call 102; refine (implEntryOk _ _ _ _).mono ?_; rintro e w' ⟨rfl, hb'⟩)
        go_ret
        refine ⟨by rw [HF.out]; rfl, ?_⟩
        (repeat' (with_reducible (first | exact Below.refl _ _ | apply Below.setCell | apply Below.alloc | apply below_drewN | apply Below.drew | refine Below.trans ?_ (Below.mono (by assumption) ?_)))) <;> (first | exact Nat.le_refl _ | (simp; done) | (simp; omega) | (simp at *; omega))
      · have HT : Hid ((es.take (k + 1)).all okE = true) := take_all hlt' hok.out (by rw [HE.out]; exact hO)
        go_wp2_with (go_at_call 102; refine (implEntryOk _ _ _ _).mono ?_; rintro e w' ⟨rfl, hb'⟩)
        go_roundw
        case rel =>
          refine ⟨k + 1, by omega, by go_num, HT, ?_⟩
          (repeat' (with_reducible (first | exact Below.refl _ _ | apply Below.setCell | apply Below.alloc | apply below_drewN | apply Below.drew | refine Below.trans ?_ (Below.mono (by assumption) ?_)))) <;> (first | exact Nat.le_refl _ | (simp; done) | (simp; omega) | (simp at *; omega))
        case measure => simp [intOf]; omega
    · have HA : Hid (es.all okE = true) := by
        have := hok.out
        rwa [List.take_of_length_le (by omega)] at this
      go_wp2
      go_ret
      exact ⟨by rw [HA.out]; rfl, hB⟩
end Go.Proofs.YteelpikhijkmdaaDoor
