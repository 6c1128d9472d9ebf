/-
  What the program's own TabAt does.
-/
import Derived.Test.YteelpikhijkmdaaDoorEnts0
namespace Go.Proofs.YteelpikhijkmdaaDoor
open Go.RowKit

def entV (e : E3) : Value := .agg #[.bool e.1, .int .i64 e.2.1, .bool e.2.2]
/-- The entry of a page of a table. -/
def atE (es : List E3) (page : Int) : E3 := if es.all okE && ((es.length : Int) == 6) && decide (0 ≤ page) && decide (page ≤ 5) then es.getD page.toNat (false, 0, false) else (false, 0, false)

set_option maxHeartbeats 1000000 in
theorem implTabAt (b o len cap : Nat) (es : List E3) (page : Int) (w : World) (hl : es.length = len) (hb : b < w.heap.size) (hc : Ents w b o es) :
    Calls Tryd.prog 87 #[.slice (some ⟨b, o, none⟩) len cap, .int .i64 page] w fun e w' => e = .returned (entV (atE es page)) ∧ Below w.heap.size w w' := by
  go_enter Tryd.func87, Tryd.ntmps87
  go_wp2_with (fail)
  refine (implTabOk b o len cap es _ hl (by simp; omega) (hc.below ((Below.refl w.heap.size w).alloc (Nat.le_refl _) _) hb)).mono ?_
  rintro e w1 ⟨rfl, B1⟩
  obtain ⟨⟨c0, c1, c2⟩, ⟨f0, f1, f2⟩, hlt⟩ := keep6 B1 w.heap.size (by simp) (by simp)
  have B0 : Below w.heap.size w w1 := ((Below.refl w.heap.size w).alloc (Nat.le_refl _) _).trans (B1.mono (by simp))
  cases hT : (es.all okE && ((len : Int) == 6))
  · have HA : Hid (atE es page = (false, 0, false)) := by rw [← hl] at hT; simp [Hid, atE, hT]
    go_wp2
    refine bodyPost_ret (v := .agg #[.bool false, .int .i64 0, .bool false]) ?res rfl ⟨by rw [HA.out]; rfl, ?_⟩
    case res => simp [results, Tryd.results87, go_sem, c0, c1, c2]
    (repeat' (with_reducible (first | exact Below.refl _ _ | apply Below.setCell | apply Below.alloc | apply below_drewN | apply Below.drew | refine Below.trans ?_ (Below.mono (by assumption) ?_)))) <;> (first | exact Nat.le_refl _ | (simp; done) | (simp; omega) | (simp at *; omega))
  · have h6 : len = 6 := by have := (Bool.and_eq_true _ _).mp hT |>.2; simp at this; omega
    by_cases p0 : 0 ≤ page
    · by_cases p5 : page < 6
      · obtain ⟨k, rfl⟩ := Int.eq_ofNat_of_zero_le p0
        obtain ⟨q0, q1, q2⟩ := hc k (by omega)
        have HA : Hid (atE es k = es.getD k (false, 0, false)) := by rw [← hl] at hT; have : (k : Int) ≤ 5 := by omega
                                                                     simp [Hid, atE, hT, this]
        generalize hE : es.getD k (false, 0, false) = ek at q0 q1 q2 HA
        obtain ⟨eh, ep, eb⟩ := ek
        have d0 := (B0.cell (p := ⟨b, o + k * 3, none⟩) hb).trans q0
        have d1 := (B0.cell (p := ⟨b, o + k * 3 + 1, none⟩) hb).trans q1
        have d2 := (B0.cell (p := ⟨b, o + k * 3 + 2, none⟩) hb).trans q2
        clear hE q0 q1 q2
        go_wp2
        refine bodyPost_ret (v := .agg #[.bool eh, .int .i64 ep, .bool eb]) ?res rfl ⟨by rw [HA.out]; rfl, ?_⟩
        case res => simp [results, Tryd.results87, go_sem, c0, c1, c2]
        (repeat' (with_reducible (first | exact Below.refl _ _ | apply Below.setCell | apply Below.alloc | apply below_drewN | apply Below.drew | refine Below.trans ?_ (Below.mono (by assumption) ?_)))) <;> (first | exact Nat.le_refl _ | (simp; done) | (simp; omega) | (simp at *; omega))
      · have hd : decide (page < 6) = false := by simp; omega
        have HA : Hid (atE es page = (false, 0, false)) := by have : ¬ page ≤ 5 := by omega
                                                              simp [Hid, atE, this]
        go_wp2
        refine bodyPost_ret (v := .agg #[.bool false, .int .i64 0, .bool false]) ?res rfl ⟨by rw [HA.out]; rfl, ?_⟩
        case res => simp [results, Tryd.results87, go_sem, c0, c1, c2]
        (repeat' (with_reducible (first | exact Below.refl _ _ | apply Below.setCell | apply Below.alloc | apply below_drewN | apply Below.drew | refine Below.trans ?_ (Below.mono (by assumption) ?_)))) <;> (first | exact Nat.le_refl _ | (simp; done) | (simp; omega) | (simp at *; omega))
    · have HA : Hid (atE es page = (false, 0, false)) := by simp [Hid, atE, p0]
      go_wp2
      refine bodyPost_ret (v := .agg #[.bool false, .int .i64 0, .bool false]) ?res rfl ⟨by rw [HA.out]; rfl, ?_⟩
      case res => simp [results, Tryd.results87, go_sem, c0, c1, c2]
      (repeat' (with_reducible (first | exact Below.refl _ _ | apply Below.setCell | apply Below.alloc | apply below_drewN | apply Below.drew | refine Below.trans ?_ (Below.mono (by assumption) ?_)))) <;> (first | exact Nat.le_refl _ | (simp; done) | (simp; omega) | (simp at *; omega))

end Go.Proofs.YteelpikhijkmdaaDoor
