/-
  The drawn table of a text.
-/
import Derived.Test.YtfiailnlkhonnaaDoorDrawTab1
import Derived.Deep.DeepCutAuto
namespace Go.Proofs.YtfiailnlkhonnaaDoor
open Go.RowKit

set_option maxHeartbeats 1000000 in
theorem drawTabText (a : Option Addr) (len cap : Nat) (zs : List Int) (w : World) (h : IsRow .u8 w a len cap zs) :
    Calls Tryd.prog 5 #[.slice a len cap] w fun e w' => ∃ (ba oa la ca : Nat) (ea : List E3),
      e = .returned (.slice (some ⟨ba, oa, none⟩) la ca) ∧ ea.length = la ∧ la ≤ 6 ∧ ba < w'.heap.size ∧ Ents w' ba oa ea ∧ Below w.heap.size w w' := by
  go_enter Tryd.func5, Tryd.ntmps5
  go_wp2_with (fail)
  refine (open_any a len cap zs _ h).mono ?_
  rintro e w' ⟨rfl, len', hl, rfl⟩
  go_wp2_with (fail)
  have hr := rd_new h hl 0 57
  refine (drawTab w.heap.size 0 _ hr (by omega)).mono ?_
  rintro e w1 ⟨ba, oa, la, ca, ea, k1, rfl, hla, ma, t1, t2, E1, hr1, hk1, ha1⟩
  have hB1 : Below w.heap.size w w1 := ((Below.refl w.heap.size w).alloc (Nat.le_refl _) _).trans (ha1.below (Nat.le_refl _) (by simp))
  go_wp2
  go_ret
  exact ⟨ba, oa, la, ca, ea, rfl, hla, ma, t2, E1, hB1⟩

theorem list_ne {S T : ByteArray} (h : S ≠ T) : ¬ S.toList = T.toList := fun e => by
  rw [ByteArray.toList_eq, ByteArray.toList_eq] at e
  exact h (ByteArray.ext (Array.toList_inj.mp e))
theorem list_some {S : ByteArray} (h : S ≠ ⟨#[]⟩) : S.toList.isEmpty = false := by
  cases hl : S.toList with
  | nil => exact absurd (by rw [hl, ByteArray.toList_eq]) (list_ne h)
  | cons _ _ => rfl
end Go.Proofs.YtfiailnlkhonnaaDoor
