/-
  The walk of the law FnTabBack.
-/
import Derived.Test.YtfiailnlkhonnaaDoorDrawText0
import Derived.Test.YtfiailnlkhonnaaDoorLkAny0
import Derived.Test.YtfiailnlkhonnaaDoorTextOne0
import Derived.Test.YtfiailnlkhonnaaDoorReadOk0
namespace Go.Proofs.YtfiailnlkhonnaaDoor
open Go.RowKit

set_option maxHeartbeats 4000000 in
theorem walk_FnTabBack (a : Option Addr) (len cap : Nat) (zs : List Int) (w : World) (h : IsRow .u8 w a len cap zs) :
    Calls Tryd.prog 3 #[.slice a len cap] w fun e w' => e = .returned (.bool true) ∧ Below w.heap.size w w' := by
  by_cases hbig : (1048576 : Int) < (len : Int)
  · go_enter Tryd.func3, Tryd.ntmps3
    go_wp2
    go_ret
    exact ⟨rfl, Below.refl _ _⟩
  go_enter Tryd.func3, Tryd.ntmps3
  go_wp2_with (fail)
  refine (drawTabText a len cap zs _ h).mono ?_
  rintro e v1 ⟨ba, oa, la, ca, ea, rfl, hla, ma, ta, Ea, B1⟩
  clear h
  obtain ⟨S, sS, sI, hS⟩ := both_text la ea hla (by omega)
  go_wp2_with (fail)
  refine (sI ba oa ca _ ta Ea).mono ?_
  rintro e v2 ⟨rfl, B2⟩
  have B12 := B1.trans (B2.mono B1.size)
  have Ea2 := Ea.below B2 ta
  have ta2 := Nat.lt_of_lt_of_le ta B2.size
  clear B1 B2 Ea ta sI
  have cS : ∀ W, Below v2.heap.size v2 W → Calls Tryd.prog 7 #[.slice (some ⟨ba, oa, none⟩) la ca] W fun e w' => e = .returned (.string S) ∧ Below W.heap.size W w' := fun W hW =>
    sS ba oa ca W (Nat.lt_of_lt_of_le ta2 hW.size) (Ea2.below hW ta2)
  clear sS
  go_wp2_with (fail)
  refine (cS _ (Below.refl _ _)).mono ?_
  rintro e v3 ⟨rfl, B3⟩
  by_cases hN : S = ⟨#[]⟩
  · subst hN
    clear hS
    go_wp2_with (fail)
    refine (cS _ B3).mono ?_
    rintro e v4 ⟨rfl, B4⟩
    have C4 := B3.trans (B4.mono B3.size)
    go_wp2
    go_ret
    exact ⟨rfl, B12.trans (C4.mono B12.size)⟩
  · obtain ⟨rfl, okA, eS⟩ := hS.resolve_left hN
    have nS := list_some hN
    clear hS hN cS
    have hsz : S.size ≤ 1048576 := by
      have := preS_size ea 6
      rw [eS, ByteArray.size_append]
      have h1 : (⟨#[10]⟩ : ByteArray).size = 1 := rfl
      omega
    have HI := fun W => implRead_ok S ea W hsz hla okA (by rw [eS]; exact (textL_pre ea hla okA).symm)
    have HT := fun W (hW : Below v2.heap.size v2 W) => implTabOk ba oa 6 ca ea W hla (Nat.lt_of_lt_of_le ta2 hW.size) (Ea2.below hW ta2)
    have hT1 : (ea.all okE && (((6 : Nat) : Int) == 6)) = true := by rw [okA]; rfl
    rw [hT1] at HT
    clear okA eS hT1
    go_wp2_with (fail)
    refine (HI _).mono ?_
    rintro e v4 ⟨G, rfl, _, tg, _, Eg, B4⟩
    have C4 := B3.trans (B4.mono B3.size)
    go_wp2_with (fail)
    refine (lkTab_any G 0 ba oa 6 6 ca ea ea _ hla hla (by omega) Eg (Ea2.below C4 ta2)).mono ?_
    rintro e v5 ⟨rfl, m, rfl⟩
    simp only [decide_true]
    have C5 := below_drewN C4 m
    go_wp2_with (fail)
    refine (HT _ C5).mono ?_
    rintro e v6 ⟨rfl, B6⟩
    have C6 := C5.trans (B6.mono C5.size)
    go_wp2
    go_ret
    exact ⟨rfl, B12.trans (C6.mono B12.size)⟩
end Go.Proofs.YtfiailnlkhonnaaDoor
