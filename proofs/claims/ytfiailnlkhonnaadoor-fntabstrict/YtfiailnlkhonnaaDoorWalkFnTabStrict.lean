/-
  The walk of the law FnTabStrict.
-/
import Derived.Test.YtfiailnlkhonnaaDoorDrawRead0
import Derived.Test.YtfiailnlkhonnaaDoorLkAny0
import Derived.Test.YtfiailnlkhonnaaDoorTextOne0
import Derived.Test.YtfiailnlkhonnaaDoorReadOk0
import Derived.Test.YtfiailnlkhonnaaDoorReadSpec0
namespace Go.Proofs.YtfiailnlkhonnaaDoor
open Go.RowKit

set_option maxHeartbeats 400000 in
theorem lkTab_nil (a a' : Option Addr) (cap cap' : Nat) (w : World) :
    Calls Tryd.prog 9 #[.slice a 0 cap, .slice a' 0 cap'] w fun e w' => e = .returned (.bool true) ∧ w' = w := by
  go_enter Tryd.func9, Tryd.ntmps9
  go_wp2
  go_loop [5] (fun i => i = .int .i64 0) (fun _ => 0)
  case atStart => rfl
  case round =>
    subst hrel
    go_wp2
    go_ret
    exact ⟨rfl, rfl⟩

set_option maxHeartbeats 4000000 in
theorem walk_FnTabStrict (a : Option Addr) (len cap : Nat) (zs : List Int) (w : World) (h : IsRow .u8 w a len cap zs) :
    Calls Tryd.prog 4 #[.slice a len cap] w fun e w' => e = .returned (.bool true) ∧ Below w.heap.size w w' := by
  by_cases hbig : (1048576 : Int) < (len : Int)
  · go_enter Tryd.func4, Tryd.ntmps4
    go_wp2
    go_ret
    exact ⟨rfl, Below.refl _ _⟩
  go_enter Tryd.func4, Tryd.ntmps4
  go_wp2_with (fail)
  refine (drawTabRead a len cap zs _ h).mono ?_
  rintro e v1 ⟨s, rfl, hs, B1⟩
  clear h
  go_wp2_with (fail)
  refine (specTabRead s _ hs).mono ?_
  rintro e v2 ⟨v, k, rfl, (⟨rfl, es, hl, hA, he, Y, yc, rfl, y0, ty, Ey⟩ | ⟨rfl, a', cap', rfl, hno⟩), B2⟩
  · have B12 := B1.trans (B2.mono B1.size)
    have HI := fun W => implRead_ok s es W hs hl hA he
    clear B1 B2 y0
    go_wp2_with (fail)
    refine (HI _).mono ?_
    rintro e v3 ⟨G, rfl, _, tg, _, Eg, B3⟩
    have hT1 : (es.all okE && (((6 : Nat) : Int) == 6)) = true := by rw [hA]; rfl
    have HT := fun W (hW : Below v3.heap.size v3 W) => implTabOk G 0 6 6 es W hl (Nat.lt_of_lt_of_le tg hW.size) (Eg.below hW tg)
    rw [hT1] at HT
    have sI := fun W (hW : Below v3.heap.size v3 W) => both_ok es hl hA G 0 6 W (Nat.lt_of_lt_of_le tg hW.size) (Eg.below hW tg)
    have eS : (preS es 6 ++ ⟨#[10]⟩ : ByteArray) = s := by
      apply ByteArray.ext
      apply Array.toList_inj.mp
      rw [textL_pre es hl hA, he]
    rw [eS] at sI
    clear he hA hT1 eS
    go_wp2_with (fail)
    refine (lkTab_any G 0 Y 0 6 6 yc es es _ hl hl (by omega) Eg (Ey.below B3 ty)).mono ?_
    rintro e v4 ⟨rfl, m, rfl⟩
    simp only [decide_true]
    have C4 := below_drewN (Below.refl v3.heap.size v3) m
    go_wp2_with (fail)
    refine (HT _ C4).mono ?_
    rintro e v5 ⟨rfl, B5⟩
    have C5 := C4.trans (B5.mono C4.size)
    go_wp2_with (fail)
    refine (sI _ C5).mono ?_
    rintro e v6 ⟨rfl, B6⟩
    have C6 := C5.trans (B6.mono C5.size)
    go_wp2
    go_ret
    exact ⟨rfl, B12.trans ((B3.trans (C6.mono B3.size)).mono B12.size)⟩
  · have B12 := B1.trans (B2.mono B1.size)
    have HI := fun W => implRead_no s W hs hno
    clear hno B1 B2
    go_wp2_with (fail)
    refine (HI _).mono ?_
    rintro e v3 ⟨rfl, B3⟩
    have B13 := B12.trans (B3.mono B12.size)
    go_wp2_with (fail)
    refine (lkTab_nil _ _ _ _ _).mono ?_
    rintro e v4 ⟨rfl, rfl⟩
    go_wp2_with (fail)
    refine (lkTab_nil _ _ _ _ _).mono ?_
    rintro e v5 ⟨rfl, rfl⟩
    go_wp2
    go_ret
    exact ⟨rfl, B13⟩
end Go.Proofs.YtfiailnlkhonnaaDoor
