/-
  The walk of the law FnHostFree.
-/
import Derived.Test.YtjegndgdpmlbaaaKFHL
import Derived.Test.YtjegndgdpmlbaaaKFHostDraw6
import Derived.Test.YtjegndgdpmlbaaaKFY
import Derived.Test.YtjegndgdpmlbaaaKFHostOk1
set_option linter.unusedSimpArgs false
namespace Go.Proofs.Ytjegndgdpmlbaaa
open Go.RowKit

/-- A list of words that is a call's own, by its parts. -/
theorem OwnI.mem {w : World} {lo hi : Nat} {v : Value} {zs : List Int} (h : OwnI w lo hi v zs) : ∃ a c, v = .slice a zs.length c ∧ IsInts w lo hi a zs.length zs := by
  obtain ⟨a, c, e, hd⟩ := h
  refine ⟨a, c, e, rfl, ?_⟩
  rcases hd with h0 | ⟨b, e, h1, h2, h3, _⟩
  · exact Or.inl h0
  · exact Or.inr ⟨b, 0, e, h1, h2, h3⟩

/-- Whether a map up to here is in and has this frame. -/
def UsedUp (h : Hst) (f : Int) (g p : Nat) (b : Bool) : Prop := b = true ↔ ∃ g' p', p' < 6 ∧ (g' < g ∨ g' = g ∧ p' < p) ∧ inF f (mAt h g' p') = true
theorem usedUp_0 (h : Hst) (f : Int) : UsedUp h f 0 0 false := by simp [UsedUp]
theorem usedUp_p {h : Hst} {f : Int} {g p : Nat} {b : Bool} (hp : p < 6) (k : UsedUp h f g p b) : UsedUp h f g (p + 1) (b || inF f (mAt h g p)) := by
  unfold UsedUp at *
  rw [Bool.or_eq_true, k]
  constructor
  · rintro (⟨g', p', h1, h2, h3⟩ | h1)
    · exact ⟨g', p', h1, by omega, h3⟩
    · exact ⟨g, p, hp, by omega, h1⟩
  · rintro ⟨g', p', h1, h2, h3⟩
    by_cases he : g' = g ∧ p' = p
    · obtain ⟨rfl, rfl⟩ := he; exact Or.inr h3
    · exact Or.inl ⟨g', p', h1, by omega, h3⟩
theorem usedUp_g {h : Hst} {f : Int} {g : Nat} {b : Bool} (k : UsedUp h f g 6 b) : UsedUp h f (g + 1) 0 b := by
  unfold UsedUp at *
  rw [k]
  constructor
  · rintro ⟨g', p', h1, h2, h3⟩; exact ⟨g', p', h1, by omega, h3⟩
  · rintro ⟨g', p', h1, h2, h3⟩; exact ⟨g', p', h1, by omega, h3⟩
theorem usedUp_n {h : Hst} {f : Int} {b : Bool} (hs : Six h) (k : UsedUp h f h.guests.length 0 b) : b = true ↔ usersH h f ≠ 0 := by
  unfold UsedUp at k
  rw [k, ne_eq, users_zero hs]
  constructor
  · rintro ⟨g', p', h1, h2, h3⟩ hz
    rw [hz g' p' (by omega) h1] at h3
    exact absurd h3 (by decide)
  · intro hz
    refine Classical.byContradiction fun hc => hz fun g p hg hp => ?_
    cases hi : inF f (mAt h g p)
    · rfl
    · exact absurd ⟨g, p, hp, Or.inl hg, hi⟩ hc
theorem freeUp_more (U : Int → Nat) (f : Nat) : ∀ d, ∃ r, freeUp U (f + d) = freeUp U f ++ r
  | 0 => ⟨[], by simp⟩
  | d + 1 => by
    obtain ⟨r, hr⟩ := freeUp_more U f d
    by_cases hu : U ((f + d : Nat) : Int) = 0
    · exact ⟨r ++ [((f + d : Nat) : Int)], by rw [← Nat.add_assoc, freeUp_yes U _ hu, hr, List.append_assoc]⟩
    · exact ⟨r, by rw [← Nat.add_assoc, freeUp_no U _ hu, hr]⟩
theorem freeUp_get (U : Int → Nat) {f : Nat} (hf : f < 8) (hu : U (f : Int) = 0) : (freeUp U f).length < (freeUp U 8).length ∧ (freeUp U 8).getD (freeUp U f).length 0 = (f : Int) := by
  obtain ⟨r, hr⟩ := freeUp_more U (f + 1) (8 - (f + 1))
  rw [show f + 1 + (8 - (f + 1)) = 8 by omega, freeUp_yes U f hu, List.append_assoc] at hr
  rw [hr]
  constructor
  · simp
  · simp [List.getD_eq_getElem?_getD]

attribute [local go_sem ↓] Go.wp_at_zero Go.wp_at_succ
set_option maxRecDepth 100000 in
set_option maxHeartbeats 8000000 in
theorem walk_FnHostFree (a0 : Option Addr) (len0 cap0 : Nat) (z0 : List Int) (w : World) (w0 : IsRow .u8 w a0 len0 cap0 z0) :
    Calls Try.prog 5 #[.slice a0 len0 cap0] w fun e w' => e = .returned (.bool true) ∧ Below w.heap.size w w' := by
  by_cases hbig : (1048576 : Int) < (len0 : Int)
  · go_enter Try.func5, Try.ntmps5
    go_wp2
    go_ret
    exact ⟨rfl, Below.refl _ _⟩
  have hdr := drawFree a0 len0 cap0 z0 w w0
  clear w0
  go_enter Try.func5, Try.ntmps5
  go_wp2_with (fail)
  refine hdr.mono ?_
  rintro e v1 ⟨vf, vg, h, rfl, hd, B1⟩
  clear hdr
  obtain ⟨hI, hS, wf, hg1, hg4⟩ := hd
  have hI' := hI
  obtain ⟨⟨af, cf, rfl, _⟩, ag, cg, rfl, _⟩ := hI'
  obtain ⟨lf, hlf⟩ : ∃ lf, h.frames.length = lf := ⟨_, rfl⟩
  obtain ⟨n, hn⟩ : ∃ n, h.guests.length = n := ⟨_, rfl⟩
  rw [hlf, hn] at hI
  obtain ⟨W1, hW1⟩ : ∃ W1, W1 = v1.alloc (.cells #[.slice af lf cf, .slice ag n cg, .int .i64 h.hand] 26) := ⟨_, rfl⟩
  have hv := HV.new hI (Nat.le_refl _) 26
  rw [← hW1] at hv
  have C1 : Below v1.heap.size v1 W1 := by rw [hW1]; exact (Below.refl _ _).alloc (Nat.le_refl _) _
  have HB := hidE (B1.trans (C1.mono B1.size))
  obtain ⟨b, hb⟩ : ∃ b, b = v1.heap.size := ⟨_, rfl⟩
  rw [← hb] at hv
  have him := implHostFree _ _ af ag lf cf n cg h W1 hv.2.2.1 hv.2.2.2 wf
  rw [hlf, hn]
  clear C1 B1 hI
  go_wp2_with (fail)
  rw [← hW1, ← hb]
  clear hW1 hb
  refine him.mono ?_
  rintro e v2 ⟨vl, rfl, hO, B2⟩
  clear him
  obtain ⟨al, cl, rfl, hJ⟩ := hO.mem
  have hv2 := hv.below B2
  have HB2 := hidE (HB.out.trans (B2.mono HB.out.size))
  clear hv B2 HB hO
  have hsp := specHostFree _ _ af ag lf cf n cg h v2 hv2.2.2.1 hlf hn hv2.2.2.2 hS
  obtain ⟨⟨q0, q1, q2⟩, lb, _⟩ := id hv2
  have hfl : (freeH h).length ≤ 8 := by
    unfold freeH
    cases okHost h
    · simp
    · exact freeUp_len _ _
  go_wp2_with (fail)
  refine hsp.mono ?_
  rintro e v3 ⟨vl, rfl, hO3, B3⟩
  clear hsp
  obtain ⟨a3, c3, rfl, hJ3⟩ := hO3.mem
  have hv3' := hidE (show v2.heap.size ≤ v3.heap.size from B3.size)
  have hJ' := hJ.same (below_sameIn B3 (Nat.le_refl _))
  have hv3 := hv2.below B3
  have HB3 := hidE (HB2.out.trans (B3.mono HB2.out.size))
  have heq := lkInts_same _ _ _ _ al a3 (freeH h).length cl c3 (freeH h) v3 hJ' hJ3 (by omega)
  clear hv2 B3 HB2 hO3 q0 q1 q2 lb hJ hJ3
  go_wp2_with (fail)
  refine heq.mono ?_
  rintro e v4 ⟨rfl, B4⟩
  clear heq
  obtain ⟨m4, rfl⟩ := B4
  have D4 : Below v3.heap.size v3 (v3.drewN m4) := below_drewN (Below.refl _ _) m4
  generalize v3.drewN m4 = v4 at *
  have hv4 := hv3.below D4
  have HB4 := hidE (HB3.out.trans (D4.mono HB3.out.size))
  have hJ4 := hJ'.same (below_sameIn D4 hv3'.out)
  clear hv3 HB3 hJ'
  have hsp := hostOk_core _ _ af ag lf cf n cg h v4 hlf hv4.2.2.1.parts.1 hn hv4.2.2.1.parts.2 hv4.2.2.2 hS
  obtain ⟨⟨q0, q1, q2⟩, lb, _⟩ := id hv4
  go_wp2_with (fail)
  refine hsp.mono ?_
  rintro e v5 ⟨rfl, B5⟩
  clear hsp q0 q1 q2 lb
  have hJ5 := hJ4.same (below_sameIn B5 (Nat.le_trans hv3'.out D4.size))
  have hv5 := hv4.below B5
  have HB5 := hidE (HB4.out.trans (B5.mono HB4.out.size))
  have hs5 := hidE (show v2.heap.size ≤ v5.heap.size from Nat.le_trans hv3'.out (Nat.le_trans D4.size B5.size))
  clear hv4 HB4 B5 hJ4 D4 hv3'
  obtain ⟨ok, hok⟩ : ∃ ok, okHost h = ok := ⟨_, rfl⟩
  rw [hok]
  cases ok
  · have hsp := specHostFree _ _ af ag lf cf n cg h v5 hv5.2.2.1 hlf hn hv5.2.2.2 hS
    obtain ⟨⟨q0, q1, q2⟩, lb, _⟩ := id hv5
    go_wp2_with (fail)
    refine hsp.mono ?_
    rintro e v6 ⟨vl, rfl, hO6, B6⟩
    clear hsp
    obtain ⟨a6, c6, rfl, hJ6⟩ := hO6.mem
    have hJ' := hJ5.same (below_sameIn B6 hs5.out)
    have HB6 := hidE (HB5.out.trans (B6.mono HB5.out.size))
    have heq := lkInts_same _ _ _ _ al a6 (freeH h).length cl c6 (freeH h) v6 hJ' hJ6 (by omega)
    clear B6 HB5 hO6 q0 q1 q2 lb hJ5 hJ6 hv5
    go_wp2_with (fail)
    refine heq.mono ?_
    rintro e v7 ⟨rfl, m7, rfl⟩
    clear heq
    go_wp2
    go_ret
    exact ⟨rfl, below_drewN HB6.out _⟩
  · have hfe : freeH h = freeUp (usersH h) 8 := by rw [freeH, hok]; rfl
    rw [hfe] at hJ5 ⊢
    have kk := okHost_of hok
    have hn2 : n ≤ 2 := by have := kk.n2; omega
    replace hn := hidE hn
    have Hv := hidE hv5
    have HJ := hidE hJ5
    clear hfe hv5 hJ5 hfl
    obtain ⟨L, hL⟩ : ∃ L, (freeUp (usersH h) 8).length = L := ⟨_, rfl⟩
    have hL8 : L ≤ 8 := by rw [← hL]; exact freeUp_len _ _
    rw [hL]
    replace hL := hidE hL
    go_wp2_with (fail)
    go_loopw [5, 6, 7, 8, 9] (fun k f _ _ _ wr => ∃ k' f' : Nat, f' ≤ 8 ∧ k' ≤ f' ∧ k = .int .i64 k' ∧ f = .int .i64 f' ∧ Hid ((freeUp (usersH h) f').length = k') ∧ Hid (Below v5.heap.size v5 wr)) (fun _ f _ _ _ _ => 8 - (intOf f).toNat)
    case atStart => exact ⟨0, 0, by omega, by omega, rfl, rfl, rfl, Below.refl _ _⟩
    case round =>
      obtain ⟨k, f, hf, hk, rfl, rfl, hkf, hB⟩ := hrel
      have hvr := Hv.out.below hB.out
      obtain ⟨⟨q0, q1, q2⟩, lb, hI, hhr⟩ := hvr
      by_cases hfl : f < 8
      · have hfi : (f : Int) < 8 := by omega
        go_wp2_with (fail)
        go_loopw [7, 8, 9] (fun u g _ wr => ∃ (ub : Bool) (g' : Nat), g' ≤ n ∧ g = .int .i64 g' ∧ u = .bool ub ∧ Hid (UsedUp h f g' 0 ub) ∧ Hid (Below v5.heap.size v5 wr)) (fun _ g _ _ => n - (intOf g).toNat)
        case atStart => exact ⟨false, 0, Nat.zero_le _, rfl, rfl, usedUp_0 _ _, hB⟩
        case round =>
          obtain ⟨ub, g, hg, rfl, rfl, hu, hBg⟩ := hrel
          have hvr := Hv.out.below hBg.out
          obtain ⟨⟨q0, q1, q2⟩, lb, hI, hhr⟩ := hvr
          by_cases hgl : g < n
          · have hgi : (g : Int) < (n : Int) := by omega
            clear hB hI
            go_wp2_with (fail)
            go_loopw [7, 9] (fun u p wr => ∃ (ub : Bool) (p' : Nat), p' ≤ 6 ∧ p = .int .i64 p' ∧ u = .bool ub ∧ Hid (UsedUp h f g p' ub) ∧ Hid (Below v5.heap.size v5 wr)) (fun _ p _ => 6 - (intOf p).toNat)
            case atStart => exact ⟨ub, 0, Nat.zero_le _, rfl, rfl, hu, hBg⟩
            case round =>
              obtain ⟨ub, p, hp, rfl, rfl, hu, hBp⟩ := hrel
              have hvr := Hv.out.below hBp.out
              obtain ⟨⟨q0, q1, q2⟩, lb, hI, hhr⟩ := hvr
              by_cases hpl : p < 6
              · have hpi : (p : Int) < 6 := by omega
                obtain ⟨T, o, bm, om, c, rfl, t1, t2, d0, d1, d2, d3⟩ := host_map hI kk hn.out hgl hpl
                have lT : T < wr.heap.size := Nat.lt_of_lt_of_le t1 hhr
                have lm : bm < wr.heap.size := Nat.lt_of_lt_of_le t2 hhr
                have hu' := usedUp_p hpl hu.out
                rw [inF] at hu'
                generalize (mAt h g p).1 = mi at *
                generalize (mAt h g p).2.1 = mf at *
                generalize (mAt h g p).2.2 = mw at *
                clear hI hu hBg
                cases ub
                · cases mi
                  · have HU := hidE (show UsedUp h f g (p + 1) false by simpa using hu')
                    clear hu'
                    go_wp2
                    go_roundw
                    case rel => exact ⟨_, p + 1, by omega, by go_num, rfl, HU, hBp⟩
                    case measure => simp [intOf]; omega
                  · have HU := hidE (show UsedUp h f g (p + 1) (mf == (f : Int)) by simpa using hu')
                    clear hu'
                    go_wp2
                    go_roundw
                    case rel => exact ⟨_, p + 1, by omega, by go_num, rfl, HU, hBp⟩
                    case measure => simp [intOf]; omega
                · have HU := hidE (show UsedUp h f g (p + 1) true by simpa using hu')
                  clear hu'
                  go_wp2
                  go_roundw
                  case rel => exact ⟨_, p + 1, by omega, by go_num, rfl, HU, hBp⟩
                  case measure => simp [intOf]; omega
              · obtain rfl : p = 6 := by omega
                clear hI hBg
                go_wp2
                go_roundw
                case rel => exact ⟨_, g + 1, by omega, by go_num, rfl, usedUp_g hu.out, hBp⟩
                case measure => simp [intOf]; omega
          · obtain rfl : g = n := by omega
            have hu8 := usedUp_n kk.six (by rw [hn.out]; exact hu.out)
            have HJr := HJ.out.same (below_sameIn hBg.out hs5.out)
            clear hI hB
            cases ub
            · have hu0 : usersH h f = 0 := by simpa using hu8
              obtain ⟨e1, e2⟩ := freeUp_get (usersH h) hfl hu0
              rw [hkf.out, hL.out] at e1
              rw [hkf.out] at e2
              have hyes := hidE (show (freeUp (usersH h) (f + 1)).length = k + 1 by rw [freeUp_yes (usersH h) f hu0, List.length_append, hkf.out]; rfl)
              rw [hL.out] at HJr
              obtain ⟨_, h0 | ⟨bl, ol, rfl, _, l2, hc⟩⟩ := HJr
              · omega
              have ck := hc k (by rw [hL.out]; exact e1)
              rw [e2] at ck
              have hkL : ((k : Nat) : Int) < (L : Int) := by omega
              have lbl : bl < wr.heap.size := Nat.lt_of_lt_of_le l2 (Nat.le_trans hs5.out hBg.out.size)
              clear hc hu8 hu0 e2
              go_wp2
              go_roundw
              case rel => exact ⟨k + 1, f + 1, by omega, by omega, by go_num, by go_num, hyes, hBg⟩
              case measure => simp [intOf]; omega
            · have hu0 : usersH h f ≠ 0 := by simpa using hu8
              have hno := hidE (freeUp_no (usersH h) f hu0)
              clear hu8 hu0
              go_wp2
              go_roundw
              case rel => exact ⟨k, f + 1, by omega, by omega, rfl, by go_num, hidE (by rw [hno.out]; exact hkf.out), hBg⟩
              case measure => simp [intOf]; omega
      · obtain rfl : f = 8 := by omega
        have hkL : k = L := by rw [← hkf.out, hL.out]
        subst hkL
        have HBe := hidE (HB5.out.trans (hB.out.mono HB5.out.size))
        clear hI hB
        go_wp2
        go_ret
        exact ⟨rfl, HBe.out⟩
end Go.Proofs.Ytjegndgdpmlbaaa
