/-
  What the law's own comparing of two tables does where both hold the same.
-/
import Derived.Test.YtofiajllhffjcayEnts0
namespace Go.Proofs.Ytofiajllhffjcay
open Go.RowKit

set_option maxHeartbeats 400000 in
theorem eqE_same (h : Bool) (p : Int) (b : Bool) (w : World) :
    Calls Try.prog 42 #[.agg #[.bool h, .int .i64 p, .bool b], .agg #[.bool h, .int .i64 p, .bool b]] w fun e w' => e = .returned (.bool true) ∧ ∃ o1 o2, w' = (w.alloc o1).alloc o2 := by
  go_enter Try.func42, Try.ntmps42
  go_wp2
  go_ret
  exact ⟨rfl, _, _, rfl⟩

set_option maxHeartbeats 400000 in
theorem eqEntryS_nil (a a' : Option Addr) (cap cap' : Nat) (w : World) :
    Calls Try.prog 23 #[.slice a 0 cap, .slice a' 0 cap'] w fun e w' => e = .returned (.bool true) ∧ w' = w := by
  go_enter Try.func23, Try.ntmps23
  go_wp2
  go_loop [5] (fun i => i = .int .i64 0) (fun _ => 0)
  case atStart => rfl
  case round =>
    subst hrel
    go_wp2
    go_ret
    exact ⟨rfl, rfl⟩

set_option maxHeartbeats 1000000 in
theorem eqEntryS_same (b o b' o' len cap cap' : Nat) (es : List E3) (w : World) (hl : es.length = len) (hm : len ≤ 1048576) (hb : b < w.heap.size) (hb' : b' < w.heap.size) (hc : Ents w b o es) (hc' : Ents w b' o' es) :
    Calls Try.prog 23 #[.slice (some ⟨b, o, none⟩) len cap, .slice (some ⟨b', o', none⟩) len cap'] w fun e w' => e = .returned (.bool true) ∧ Below w.heap.size w w' := by
  go_enter Try.func23, Try.ntmps23
  go_wp2
  go_loopw [5] (fun i wr => ∃ k : Nat, k ≤ len ∧ i = .int .i64 k ∧ Below w.heap.size w wr) (fun i _ => len - (intOf i).toNat)
  case atStart => exact ⟨0, Nat.zero_le _, rfl, Below.refl _ _⟩
  case round =>
    obtain ⟨k, hk, rfl, hB⟩ := hrel
    have hs := hB.size
    by_cases hlt : k < len
    · obtain ⟨q0, q1, q2⟩ := hc k (by omega)
      obtain ⟨r0, r1, r2⟩ := hc' k (by omega)
      generalize hE : es.getD k (false, 0, false) = ek at q0 q1 q2 r0 r1 r2
      obtain ⟨eh, ep, eb⟩ := ek
      have c0 := (hB.cell (p := ⟨b, o + k * 3, none⟩) hb).trans q0
      have c1 := (hB.cell (p := ⟨b, o + k * 3 + 1, none⟩) hb).trans q1
      have c2 := (hB.cell (p := ⟨b, o + k * 3 + 2, none⟩) hb).trans q2
      have d0 := (hB.cell (p := ⟨b', o' + k * 3, none⟩) hb').trans r0
      have d1 := (hB.cell (p := ⟨b', o' + k * 3 + 1, none⟩) hb').trans r1
      have d2 := (hB.cell (p := ⟨b', o' + k * 3 + 2, none⟩) hb').trans r2
      have hlti : (k : Int) < (len : Int) := by omega
      clear hE q0 q1 q2 r0 r1 r2
      go_wp2_with (fail)
      go_region_with (go_at_call 42; refine (eqE_same _ _ _ _).mono ?_; rintro e w' ⟨rfl, o1, o2, rfl⟩)
      all_goals
        go_wp2
        go_roundw
        case rel =>
          refine ⟨k + 1, by omega, by go_num, ?_⟩
          (repeat' (with_reducible (first | exact Below.refl _ _ | apply Below.setCell | apply Below.alloc | apply below_drewN | apply Below.drew | refine Below.trans ?_ (Below.mono (by assumption) ?_)))) <;> (first | exact Nat.le_refl _ | (simp; done) | (simp; omega) | (simp at *; omega))
        case measure => simp [intOf]; omega
    · go_wp2
      go_ret
      exact ⟨rfl, hB⟩
end Go.Proofs.Ytofiajllhffjcay
