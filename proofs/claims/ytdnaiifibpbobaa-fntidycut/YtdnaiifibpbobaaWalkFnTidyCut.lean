/-
  The walk of the law FnTidyCut.
-/
import Derived.Test.YtdnaiifibpbobaaTidy2
set_option linter.unusedSimpArgs false
namespace Go.Proofs.Ytdnaiifibpbobaa
open Go.RowKit

theorem acts_take {w : World} {T o : Nat} {xs : List A5} (h : Acts w T o xs) (c : Nat) : Acts w T o (xs.take c) := fun i hi => by
  have hi' : i < xs.length := by have := List.length_take (i := c) (l := xs); omega
  have hc : i < c := by have := List.length_take (i := c) (l := xs); omega
  have e : (xs.take c).getD i noA = xs.getD i noA := by rw [List.getD_eq_getElem?_getD, List.getD_eq_getElem?_getD, List.getElem?_take_of_lt hc]
  rw [e]
  exact h i hi'
theorem acts_drop {w : World} {T o : Nat} {xs : List A5} (h : Acts w T o xs) (c : Nat) : Acts w T (o + c * 5) (xs.drop c) := fun i hi => by
  have hi' : c + i < xs.length := by have := List.length_drop (i := c) (l := xs); omega
  have e : (xs.drop c).getD i noA = xs.getD (c + i) noA := by rw [List.getD_eq_getElem?_getD, List.getD_eq_getElem?_getD, List.getElem?_drop]
  rw [e, show o + c * 5 + i * 5 = o + (c + i) * 5 by omega]
  exact h (c + i) hi'

set_option maxHeartbeats 4000000 in
theorem walk_FnTidyCut (a0 : Option Addr) (len0 cap0 : Nat) (z0 : List Int) (a1 : Option Addr) (len1 cap1 : Nat) (z1 : List Int) (w : World) (w0 : IsRow .u8 w a0 len0 cap0 z0) (_w1 : IsRow .u8 w a1 len1 cap1 z1) :
    Calls Try.prog 4 #[.slice a0 len0 cap0, .slice a1 len1 cap1] w fun e w' => e = .returned (.bool true) ∧ Below w.heap.size w w' := by
  by_cases hbig : (1048576 : Int) < (len0 : Int)
  · go_enter Try.func4, Try.ntmps4
    go_wp2
    go_ret
    exact ⟨rfl, Below.refl _ _⟩
  by_cases hbig' : (1048576 : Int) < (len1 : Int)
  · go_enter Try.func4, Try.ntmps4
    go_wp2
    go_ret
    exact ⟨rfl, Below.refl _ _⟩
  go_enter Try.func4, Try.ntmps4
  go_wp2_with (fail)
  refine (drawTidy a0 len0 cap0 z0 _ w0).mono ?_
  rintro e v1 ⟨a, c, xs, rfl, hac, hI, hT, hxl, hS, B1⟩
  clear w0
  go_wp2_with (fail)
  refine (implTidyV a xs.length c xs _ hI (by omega) hS).mono ?_
  rintro e v2 ⟨rfl, B2⟩
  go_wp2_with (fail)
  refine (specTidyV a xs.length c xs _ (hI.below B2) (by omega)).mono ?_
  rintro e v3 ⟨rfl, B3⟩
  have B13 := B2.trans (B3.mono B2.size)
  have hI := hI.below B13
  have Bw := B1.trans (B13.mono B1.size)
  have s1 := B1.size
  have s13 := B13.size
  cases hb : tidyA xs
  · go_wp2_with (fail)
    refine (specTidyV a xs.length c xs _ hI (by omega)).mono ?_
    rintro e v4 ⟨rfl, B4⟩
    rw [hb]
    go_wp2
    go_ret
    exact ⟨rfl, Bw.trans (B4.mono Bw.size)⟩
  · obtain ⟨cut, hcut, hcl⟩ : ∃ cut : Nat, (len1 : Int).tmod ((xs.length : Int) + 1) = (cut : Int) ∧ cut ≤ xs.length := ⟨len1 % (xs.length + 1), by rw [Int.tmod_eq_emod_of_nonneg (by omega), show ((xs.length : Int) + 1) = ((xs.length + 1 : Nat) : Int) by omega, ← Int.natCast_emod], by have := Nat.mod_lt len1 (show 0 < xs.length + 1 by omega); omega⟩
    have hcut' : (len1 : Int) % ((xs.length : Int) + 1) = (cut : Int) := by rw [← hcut, Int.tmod_eq_emod_of_nonneg (by omega)]
    have t1 := tidyA_take xs cut hb
    have t2 := tidyA_drop xs cut hb
    rcases hT with ⟨rfl, rfl⟩ | ⟨T, rfl, hT1, hT2, hA⟩
    · obtain rfl := List.eq_nil_of_length_eq_zero (show xs.length = 0 by omega)
      obtain rfl : cut = 0 := by simpa using hcl
      go_wp2_with (fail)
      refine (implTidyV none 0 0 [] _ ⟨rfl, Or.inl rfl⟩ (by omega) hS).mono ?_
      rintro e v4 ⟨rfl, B4⟩
      rw [hb]
      clear hcut hcut'
      go_wp2_with (fail)
      refine (implTidyV none 0 0 [] _ ⟨rfl, Or.inl rfl⟩ (by omega) hS).mono ?_
      rintro e v5 ⟨rfl, B5⟩
      rw [hb]
      go_wp2
      go_ret
      exact ⟨rfl, Bw.trans ((B4.trans (B5.mono B4.size)).mono Bw.size)⟩
    · have hA := hA.below B13 hT2
      have q1 := fun (W : World) (B : Below v3.heap.size v3 W) (cc : Nat) => (show Calls Try.prog 7 #[.slice (some ⟨T, 0, none⟩) cut cc] W fun e w' => e = .returned (.bool true) ∧ Below W.heap.size W w' by
        have := implTidyV (some ⟨T, 0, none⟩) cut cc (xs.take cut) W ⟨by simp; omega, Or.inr ⟨T, 0, rfl, by have := B.size; omega, acts_take (hA.below B (by omega)) cut⟩⟩ (by omega) (fun x hx => hS x (List.mem_of_mem_take hx))
        rwa [t1] at this)
      have q2 := fun (W : World) (B : Below v3.heap.size v3 W) (o cc : Nat) (ho : o = cut * 5 ∨ xs.length - cut = 0) => (show Calls Try.prog 7 #[.slice (some ⟨T, o, none⟩) (xs.length - cut) cc] W fun e w' => e = .returned (.bool true) ∧ Below W.heap.size W w' by
        have h1 : IsActs W (some ⟨T, o, none⟩) (xs.length - cut) (xs.drop cut) := by
          refine ⟨by simp, ?_⟩
          rcases ho with rfl | ho
          · refine Or.inr ⟨T, cut * 5, rfl, by have := B.size; omega, ?_⟩
            have := acts_drop (hA.below B (by omega)) cut
            rwa [Nat.zero_add] at this
          · exact Or.inl ho
        have := implTidyV (some ⟨T, o, none⟩) (xs.length - cut) cc (xs.drop cut) W h1 (by omega) (fun x hx => hS x (List.mem_of_mem_drop hx))
        rwa [t2] at this)
      replace q1 := hidA q1
      replace q2 := hidA q2
      clear hA hI t1 t2 hT1 hT2 B2 B3 B13 B1
      by_cases hcc : cut = c
      · obtain rfl := hcc
        go_wp2_with (fail)
        refine (q1.out _ (Below.refl _ _) _).mono ?_
        rintro e v4 ⟨rfl, B4⟩
        clear hcut hcut'
        have hli : (cut : Int) ≤ (xs.length : Int) := by omega
        have hlc : (cut : Int) ≤ (cut : Int) := by omega
        have hxc : xs.length = cut := by omega
        have q := q2.out _ B4 0 0 (Or.inr (by omega))
        rw [show xs.length - cut = 0 by omega] at q
        rw [hxc]
        replace q := hidA q
        clear q2 hli hlc
        go_wp2_with (fail)
        refine q.out.mono ?_
        rintro e v5 ⟨rfl, B5⟩
        go_wp2
        go_ret
        exact ⟨rfl, Bw.trans ((B4.trans (B5.mono B4.size)).mono Bw.size)⟩
      · go_wp2_with (fail)
        refine (q1.out _ (Below.refl _ _) _).mono ?_
        rintro e v4 ⟨rfl, B4⟩
        clear hcut hcut'
        have hli : (cut : Int) ≤ (xs.length : Int) := by omega
        have hlc : (cut : Int) ≤ (c : Int) := by omega
        go_wp2_with (fail)
        refine (q2.out _ B4 _ _ (Or.inl rfl)).mono ?_
        rintro e v5 ⟨rfl, B5⟩
        go_wp2
        go_ret
        exact ⟨rfl, Bw.trans ((B4.trans (B5.mono B4.size)).mono Bw.size)⟩
end Go.Proofs.Ytdnaiifibpbobaa
