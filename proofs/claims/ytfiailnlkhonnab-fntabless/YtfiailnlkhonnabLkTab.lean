/-
  What the laws' own comparing of tables does, what the given TabOver does where there is no table, and what the drawing of two tables gives.
-/
import Derived.Test.YtfiailnlkhonnabDrawTab
namespace Go.Proofs.Ytfiailnlkhonnab
open Go.RowKit

set_option maxHeartbeats 400000 in
theorem lkTab_nil (a a' : Option Addr) (cap cap' : Nat) (w : World) :
    Calls Try.prog 11 #[.slice a 0 cap, .slice a' 0 cap'] w fun e w' => e = .returned (.bool true) ∧ w' = w := by
  go_enter Try.func11, Try.ntmps11
  go_wp2
  go_loop [5] (fun i => i = .int .i64 0) (fun _ => 0)
  case atStart => rfl
  case round =>
    subst hrel
    go_wp2
    go_ret
    exact ⟨rfl, rfl⟩

set_option maxHeartbeats 1000000 in
theorem lkTab_same (b o b' o' len cap cap' : Nat) (es : List E3) (w : World) (hl : es.length = len) (hm : len ≤ 1048576) (hc : Ents w b o es) (hc' : Ents w b' o' es) :
    Calls Try.prog 11 #[.slice (some ⟨b, o, none⟩) len cap, .slice (some ⟨b', o', none⟩) len cap'] w fun e w' => e = .returned (.bool true) ∧ ∃ m, w' = w.drewN m := by
  go_enter Try.func11, Try.ntmps11
  go_wp2
  go_loopw [5] (fun i wr => ∃ k m : Nat, k ≤ len ∧ i = .int .i64 k ∧ wr = w.drewN m) (fun i _ => len - (intOf i).toNat)
  case atStart => exact ⟨0, 0, Nat.zero_le _, rfl, rfl⟩
  case round =>
    obtain ⟨k, m, hk, rfl, rfl⟩ := hrel
    by_cases hlt : k < len
    · obtain ⟨c0, c1, c2⟩ := hc k (by omega)
      obtain ⟨d0, d1, d2⟩ := hc' k (by omega)
      generalize hE : es.getD k (false, 0, false) = ek at c0 c1 c2 d0 d1 d2
      obtain ⟨eh, ep, eb⟩ := ek
      have hlti : (k : Int) < (len : Int) := by omega
      clear hE
      go_wp2_with (fail)
      go_quiet (fail)
      go_wp2
      go_roundw
      case rel => exact ⟨k + 1, _, by omega, by go_num, by first | rfl | (rw [World.drewN_drewN])⟩
      case measure => simp [intOf]; omega
    · go_wp2
      go_ret
      exact ⟨rfl, m, rfl⟩

theorem specTabOver_not (ba oa la ca : Nat) (ea : List E3) (bb ob lb cb : Nat) (eb : List E3) (w : World) (hla : ea.length = la) (hlb : eb.length = lb) (ma : la ≤ 6) (mb : lb ≤ 6) (ha : ba < w.heap.size) (hb : bb < w.heap.size) (hca : Ents w ba oa ea) (hcb : Ents w bb ob eb)
    (hT : ((ea.all okE && ((la : Int) == 6)) && (eb.all okE && ((lb : Int) == 6))) = false) :
    Calls Try.prog 12 #[.slice (some ⟨ba, oa, none⟩) la ca, .slice (some ⟨bb, ob, none⟩) lb cb] w fun e w' => e = .returned (.slice (some ⟨w.heap.size, 0, none⟩) 0 0) ∧ Below w.heap.size w w' := by
  go_enter Try.func12, Try.ntmps12
  go_wp2_with (fail)
  have W0 : Below w.heap.size w (w.alloc (.cells #[] 29)) := (Below.refl _ _).alloc (Nat.le_refl _) _
  refine (specTabOk ba oa la ca ea _ hla (by omega) (Nat.lt_of_lt_of_le ha W0.size) (hca.below W0 ha)).mono ?_
  rintro e w1 ⟨rfl, B1⟩
  have B1' := W0.trans (B1.mono W0.size)
  cases h1 : (ea.all okE && ((la : Int) == 6))
  · go_wp2
    go_ret
    exact ⟨rfl, B1'⟩
  · have h2 : (eb.all okE && ((lb : Int) == 6)) = false := by rw [h1] at hT; simpa using hT
    clear hT
    go_wp2_with (fail)
    refine (specTabOk bb ob lb cb eb _ hlb (by omega) (Nat.lt_of_lt_of_le hb B1'.size) (hcb.below B1' hb)).mono ?_
    rintro e w2 ⟨rfl, B2⟩
    rw [h2]
    go_wp2
    go_ret
    exact ⟨rfl, B1'.trans (B2.mono B1'.size)⟩

set_option maxHeartbeats 1000000 in
theorem drawTabOver (a : Option Addr) (len cap : Nat) (zs : List Int) (w : World) (h : IsRow .u8 w a len cap zs) :
    Calls Try.prog 9 #[.slice a len cap] w fun e w' => ∃ (ba oa la ca : Nat) (ea : List E3) (bb ob lb cb : Nat) (eb : List E3),
      e = .returned (.tuple #[.slice (some ⟨ba, oa, none⟩) la ca, .slice (some ⟨bb, ob, none⟩) lb cb]) ∧ ea.length = la ∧ eb.length = lb ∧ la ≤ 6 ∧ lb ≤ 6 ∧ ba < w'.heap.size ∧ bb < w'.heap.size ∧ Ents w' ba oa ea ∧ Ents w' bb ob eb ∧ Below w.heap.size w w' := by
  go_enter Try.func9, Try.ntmps9
  go_wp2_with (fail)
  refine (open_any a len cap zs _ h).mono ?_
  rintro e w' ⟨rfl, len', hl, rfl⟩
  go_wp2_with (fail)
  have hr := rd_new h hl 0 49
  refine (drawTab w.heap.size 0 _ hr (by omega)).mono ?_
  rintro e w1 ⟨ba, oa, la, ca, ea, k1, rfl, hla, ma, t1, t2, E1, hr1, hk1, ha1⟩
  simp at t1
  go_wp2_with (fail)
  refine (drawTab w.heap.size k1 _ hr1 (by omega)).mono ?_
  rintro e w2 ⟨bb, ob, lb, cb, eb, k2, rfl, hlb, mb, u1, u2, E2, hr2, hk2, ha2⟩
  have hB : Below w.heap.size w w2 := ((Below.refl w.heap.size w).alloc (Nat.le_refl _) _).trans ((ha1.trans ha2).below (Nat.le_refl _) (by simp))
  go_wp2
  go_ret2
  exact ⟨ba, oa, la, ca, ea, bb, ob, lb, cb, eb, rfl, hla, hlb, ma, mb, Nat.lt_of_lt_of_le t2 ha2.size, u2, E1.adv ha2 t2 (by omega), E2, hB⟩
end Go.Proofs.Ytfiailnlkhonnab
