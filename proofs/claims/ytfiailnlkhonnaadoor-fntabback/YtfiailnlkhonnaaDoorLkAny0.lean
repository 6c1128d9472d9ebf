/-
  What the laws' own comparing of two tables of one length gives: whether they are the same.
-/
import Derived.Test.YtfiailnlkhonnaaDoorEnts0
namespace Go.Proofs.YtfiailnlkhonnaaDoor
open Go.RowKit

theorem take_more {es es' : List E3} {k : Nat} (h : k < es.length) (h' : k < es'.length) (ht : es.take k = es'.take k) (hg : es.getD k (false, 0, false) = es'.getD k (false, 0, false)) : es.take (k + 1) = es'.take (k + 1) := by
  rw [List.take_succ_eq_append_getElem h, List.take_succ_eq_append_getElem h', ht]
  have e1 : es.getD k (false, 0, false) = es[k] := by rw [List.getD_eq_getElem?_getD, List.getElem?_eq_getElem h]; rfl
  have e2 : es'.getD k (false, 0, false) = es'[k] := by rw [List.getD_eq_getElem?_getD, List.getElem?_eq_getElem h']; rfl
  rw [← e1, ← e2, hg]

set_option maxHeartbeats 4000000 in
theorem lkTab_any (b o b' o' len cap cap' : Nat) (es es' : List E3) (w : World) (hl : es.length = len) (hl' : es'.length = len) (hm : len ≤ 1048576) (hc : Ents w b o es) (hc' : Ents w b' o' es') :
    Calls Tryd.prog 9 #[.slice (some ⟨b, o, none⟩) len cap, .slice (some ⟨b', o', none⟩) len cap'] w fun e w' => e = .returned (.bool (decide (es = es'))) ∧ ∃ m, w' = w.drewN m := by
  go_enter Tryd.func9, Tryd.ntmps9
  go_wp2
  go_loopw [5] (fun i wr => ∃ k m : Nat, k ≤ len ∧ i = .int .i64 k ∧ Hid (es.take k = es'.take k) ∧ wr = w.drewN m) (fun i _ => len - (intOf i).toNat)
  case atStart => exact ⟨0, 0, Nat.zero_le _, rfl, rfl, rfl⟩
  case round =>
    obtain ⟨k, m, hk, rfl, ht, rfl⟩ := hrel
    by_cases hlt : k < len
    · obtain ⟨c0, c1, c2⟩ := hc k (by omega)
      obtain ⟨d0, d1, d2⟩ := hc' k (by omega)
      have hT : Hid (es.getD k (false, 0, false) = es'.getD k (false, 0, false) → es.take (k + 1) = es'.take (k + 1)) := take_more (by omega) (by omega) ht.out
      have hF : Hid (es.getD k (false, 0, false) ≠ es'.getD k (false, 0, false) → decide (es = es') = false) := fun h => by
        rw [decide_eq_false_iff_not]
        intro e
        exact h (by rw [e])
      generalize es.getD k (false, 0, false) = ek at c0 c1 c2 hT hF
      generalize es'.getD k (false, 0, false) = fk at d0 d1 d2 hT hF
      obtain ⟨eh, ep, eb⟩ := ek
      obtain ⟨fh, fp, fb⟩ := fk
      have hlti : (k : Int) < (len : Int) := by omega
      by_cases hE : (eh, ep, eb) = (fh, fp, fb)
      · have HT : Hid (es.take (k + 1) = es'.take (k + 1)) := hT.out hE
        simp only [Prod.mk.injEq] at hE
        obtain ⟨rfl, rfl, rfl⟩ := hE
        clear hT hF
        go_wp2_with (fail)
        go_quiet (fail)
        go_wp2
        go_roundw
        case rel => exact ⟨k + 1, _, by omega, by go_num, HT, by first | rfl | (rw [World.drewN_drewN])⟩
        case measure => simp [intOf]; omega
      · have HF : Hid (decide (es = es') = false) := hF.out hE
        clear hT hF
        by_cases hp : ep = fp
        · subst hp
          cases eh <;> cases fh <;> cases eb <;> cases fb
          all_goals first | (exfalso; exact hE rfl) | skip
          all_goals
            clear hE
            go_wp2_with (fail)
            go_quiet (fail)
            go_wp2
            go_ret
            exact ⟨by rw [HF.out]; rfl, _, by first | rfl | (rw [World.drewN_drewN])⟩
        · have hpb : (ep == fp) = false := by simpa using hp
          clear hE
          cases eh <;> cases fh <;> cases eb <;> cases fb
          all_goals
            go_wp2_with (fail)
            go_quiet (fail)
            go_wp2
            go_ret
            exact ⟨by rw [HF.out]; rfl, _, by first | rfl | (rw [World.drewN_drewN])⟩
    · have HT : Hid (decide (es = es') = true) := by
        have := ht.out
        rw [List.take_of_length_le (by omega), List.take_of_length_le (by omega)] at this
        exact decide_eq_true this
      go_wp2
      go_ret
      exact ⟨by rw [HT.out]; rfl, m, rfl⟩
end Go.Proofs.YtfiailnlkhonnaaDoor
