/-
  The walk of the law FnHostSee.
-/
import Derived.Test.YtjegndgdpmlbaaaKQHL
import Derived.Test.YtjegndgdpmlbaaaKQHostDraw7
import Derived.Test.YtjegndgdpmlbaaaKQH
import Derived.Test.YtjegndgdpmlbaaaKQY
import Derived.Test.YtjegndgdpmlbaaaKQHD
import Derived.Test.YtjegndgdpmlbaaaKQB
import Derived.Test.YtjegndgdpmlbaaaKQPC
set_option linter.unusedSimpArgs false
namespace Go.Proofs.Ytjegndgdpmlbaaa
open Go.RowKit

/-- A frame of a host in memory, and a page on a guest's disk. -/
theorem host_frame {W : World} {lo hi : Nat} {af ag : Option Addr} {lf cf n cg : Nat} {h : Hst} (k : HostIn W lo hi (.slice af lf cf) (.slice ag n cg) h) {f : Nat} (hf : f < lf) :
    ∃ F o a c, af = some ⟨F, o, none⟩ ∧ F < hi ∧ W.cell? ⟨F, o + f, none⟩ = some (.slice a (h.frames.getD f []).length c) ∧ IsInts W lo hi a (h.frames.getD f []).length (h.frames.getD f []) := by
  obtain ⟨⟨hl, hd⟩, _⟩ := k.parts
  rcases hd with h0 | ⟨F, o, rfl, t1, t2, hG⟩
  · omega
  obtain ⟨a', l, c, e, hi⟩ := hG f hf
  have el := hi.1
  subst el
  exact ⟨F, o, a', c, rfl, t2, e, hi⟩
theorem host_disk {W : World} {lo hi : Nat} {af ag : Option Addr} {lf cf n cg : Nat} {h : Hst} (k : HostIn W lo hi (.slice af lf cf) (.slice ag n cg) h) (kk : OkH h) (hn : h.guests.length = n) {g p : Nat} (hg : g < n) (hp : p < 6) :
    ∃ T o b' o' c' a c, ag = some ⟨T, o, none⟩ ∧ T < hi ∧ b' < hi ∧ W.cell? ⟨T, o + g * 3 + 1, none⟩ = some (.slice (some ⟨b', o', none⟩) 6 c') ∧ W.cell? ⟨b', o' + p, none⟩ = some (.slice a (dAt h g p).length c) ∧ IsInts W lo hi a (dAt h g p).length (dAt h g p) := by
  obtain ⟨_, hG⟩ := k.parts
  obtain ⟨hl, hG⟩ := hG
  rcases hG with h0 | ⟨T, o, rfl, t1, t2, hG⟩
  · omega
  obtain ⟨vm, vd, vs, _, c1, _, ⟨_, ⟨a1, c2, rfl, hm⟩, _⟩⟩ := hG g hg
  obtain ⟨_, s1, _⟩ := kk.six g (by omega)
  have s1' : (h.guests.getD g noG).disk.length = 6 := s1
  rw [s1'] at c1 hm
  obtain ⟨_, hm⟩ := hm
  rcases hm with h0 | ⟨bm, om, rfl, m1, m2, hm⟩
  · omega
  obtain ⟨a', l, c, e, hi⟩ := hm p hp
  have el := hi.1
  subst el
  exact ⟨T, o, bm, om, c2, a', c, rfl, t2, m2, c1, e, hi⟩

attribute [local go_sem ↓] Go.wp_at_zero Go.wp_at_succ
set_option maxRecDepth 100000 in
set_option maxHeartbeats 8000000 in
theorem walk_FnHostSee (a0 : Option Addr) (len0 cap0 : Nat) (z0 : List Int) (w : World) (w0 : IsRow .u8 w a0 len0 cap0 z0) :
    Calls Try.prog 4 #[.slice a0 len0 cap0] w fun e w' => e = .returned (.bool true) ∧ Below w.heap.size w w' := by
  by_cases hbig : (1048576 : Int) < (len0 : Int)
  · go_enter Try.func4, Try.ntmps4
    go_wp2
    go_ret
    exact ⟨rfl, Below.refl _ _⟩
  have hdr := drawSee a0 len0 cap0 z0 w w0
  clear w0
  go_enter Try.func4, Try.ntmps4
  go_wp2_with (fail)
  refine hdr.mono ?_
  rintro e v1 ⟨vf, vg, h, G, rfl, hd, _, B1⟩
  clear hdr
  obtain ⟨hI, hS, wf, hg1, hg4⟩ := hd
  have hI' := hI
  obtain ⟨⟨af, cf, rfl, _⟩, ag, cg, rfl, _⟩ := hI'
  obtain ⟨lf, hlf⟩ : ∃ lf, h.frames.length = lf := ⟨_, rfl⟩
  obtain ⟨n, hn⟩ : ∃ n, h.guests.length = n := ⟨_, rfl⟩
  rw [hlf, hn] at hI
  obtain ⟨W1, hW1⟩ : ∃ W1, W1 = v1.alloc (.cells #[.slice af lf cf, .slice ag n cg, .int .i64 h.hand] 26) := ⟨_, rfl⟩
  have hv := HV.new hI (Nat.le_refl _) 26
  rw [← hW1] at hv
  have C1 : Below v1.heap.size v1 W1 := by rw [hW1]; exact (Below.refl _ _).alloc (Nat.le_refl _) _
  have HB := hidE (B1.trans (C1.mono B1.size))
  obtain ⟨b, hb⟩ : ∃ b, b = v1.heap.size := ⟨_, rfl⟩
  rw [← hb] at hv
  have him := implHostSee _ _ af ag lf cf n cg h G W1 hv.2.2.1 hv.2.2.2 wf
  rw [hlf, hn]
  clear C1 B1 hI
  go_wp2_with (fail)
  rw [← hW1, ← hb]
  clear hW1 hb
  refine him.mono ?_
  rintro e v2 ⟨al, cl, rfl, hO, B2⟩
  clear him
  have hJ := hO.mem
  have hv2 := hv.below B2
  have HB2 := hidE (HB.out.trans (B2.mono HB.out.size))
  clear hv B2 HB hO
  have hsp := specHostSee _ _ af ag lf cf n cg h G v2 hv2.2.2.1 hlf hn hv2.2.2.2 hS
  obtain ⟨⟨q0, q1, q2⟩, lb, _⟩ := id hv2
  obtain ⟨hl6, hl4⟩ := see_small h G
  go_wp2_with (fail)
  refine hsp.mono ?_
  rintro e v3 ⟨a3, c3, rfl, hO3, B3⟩
  clear hsp
  have hJ3 := hO3.mem
  have hv3' := hidE (show v2.heap.size ≤ v3.heap.size from B3.size)
  have hJ' := hJ.same (below_sameIn B3 (Nat.le_refl _))
  have hv3 := hv2.below B3
  have HB3 := hidE (HB2.out.trans (B3.mono HB2.out.size))
  have heq := lkMem_same _ _ _ _ al a3 (seeH h G).length cl c3 (seeH h G) v3 hJ' hJ3 B3.size (Nat.le_refl _) (by omega) (fun i hi => by have := hl4 i hi; omega)
  clear hv2 B3 HB2 hO3 q0 q1 q2 lb hJ hJ3
  go_wp2_with (fail)
  refine heq.mono ?_
  rintro e v4 ⟨rfl, D4⟩
  clear heq
  have hv4 := hv3.below D4
  have HB4 := hidE (HB3.out.trans (D4.mono HB3.out.size))
  have hJ4 := hJ'.same (below_sameIn D4 hv3'.out)
  have hs4 := hidE (show v2.heap.size ≤ v4.heap.size from Nat.le_trans hv3'.out D4.size)
  clear hv3 HB3 hJ' D4 hv3'
  by_cases h0 : (seeH h G).length = 0
  · have hsp := specHostSee _ _ af ag lf cf n cg h G v4 hv4.2.2.1 hlf hn hv4.2.2.2 hS
    rw [h0] at hsp hJ4 ⊢
    obtain ⟨⟨q0, q1, q2⟩, lb, _⟩ := id hv4
    go_wp2_with (fail)
    refine hsp.mono ?_
    rintro e v6 ⟨a6, c6, rfl, hO6, B6⟩
    clear hsp
    have hJ6 := hO6.mem
    have hJ' := hJ4.same (below_sameIn B6 hs4.out)
    have HB6 := hidE (HB4.out.trans (B6.mono HB4.out.size))
    have heq := lkMem_same _ _ _ _ al a6 0 cl c6 (seeH h G) v6 hJ' hJ6 (Nat.le_trans hs4.out B6.size) (Nat.le_refl _) (by omega) (fun i hi => by omega)
    clear B6 HB4 hO6 q0 q1 q2 lb hJ4 hJ6 hv4
    go_wp2_with (fail)
    refine heq.mono ?_
    rintro e v7 ⟨rfl, B7⟩
    clear heq
    have HB7 := hidE (HB6.out.trans (B7.mono HB6.out.size))
    clear B7
    go_wp2
    go_ret
    exact ⟨rfl, HB7.out⟩
  · obtain ⟨g, rfl, hok, hgl, hse⟩ : ∃ g : Nat, G = (g : Int) ∧ okHost h = true ∧ g < n ∧ seeH h G = seeM h.frames (gOf h g) := by
      have hb : seeB h G = true := by
        cases hb : seeB h G
        · simp [seeH, hb] at h0
        · rfl
      have hb' := hb
      simp only [seeB, Bool.and_eq_true, decide_eq_true_eq] at hb'
      obtain ⟨ho, h0', h1⟩ := hb'
      refine ⟨G.toNat, by omega, ho, by omega, ?_⟩
      rw [seeH, hb]
      rfl
    have kk := okHost_of hok
    have hn2 : n ≤ 2 := by have := kk.n2; omega
    have hm6 : (seeM h.frames (gOf h g)).length = 6 := seeM_len _ _
    have hmo := see_ok kk (show g < h.guests.length by omega)
    rw [hse, hm6] at hJ4 ⊢
    replace hn := hidE hn
    have Hv := hidE hv4
    have HJ := hidE hJ4
    have Hmo := hidE hmo
    clear hv4 hJ4 hl6 hl4 h0 hse hmo
    go_wp2_with (fail)
    go_loopw [6] (fun p wr => ∃ p' : Nat, p' ≤ 6 ∧ p = .int .i64 p' ∧ Hid (Below v4.heap.size v4 wr)) (fun p _ => 6 - (intOf p).toNat)
    case atStart => exact ⟨0, Nat.zero_le _, rfl, Below.refl _ _⟩
    case round =>
      obtain ⟨p, hp, rfl, hBp⟩ := hrel
      by_cases hpl : p < 6
      · have hpi : (p : Int) < 6 := by omega
        have hvr := Hv.out.below hBp.out
        obtain ⟨⟨q0, q1, q2⟩, lb, hI, hhr⟩ := hvr
        obtain ⟨T, o, bm, om, c, rfl, t1, t2, d0, d1, d2, d3⟩ := host_map hI kk hn.out hgl hpl
        have lT : T < wr.heap.size := Nat.lt_of_lt_of_le t1 hhr
        have lm : bm < wr.heap.size := Nat.lt_of_lt_of_le t2 hhr
        obtain ⟨Tm, o1, ap, lp, cp, rfl, _, u2, ep, Ip⟩ := (HJ.out.same (below_sameIn hBp.out hs4.out)).get hpl
        have elp := Ip.1
        subst elp
        rw [seeM_get _ _ hpl] at ep Ip
        have lTm : Tm < wr.heap.size := Nat.lt_of_lt_of_le u2 (Nat.le_trans hs4.out hBp.out.size)
        have hp4 : (pageM h.frames (gOf h g) p).length = 4 := pageM_len hok (G := g) (by rw [hn.out]; exact hgl) hpl
        have hBn := hidE (fun (q : Nat) => hBp.out.trans (below_drewN (((Below.refl wr.heap.size wr).alloc (Nat.le_refl _) (.cells #[.bool (mAt h g p).1, .int .i64 (mAt h g p).2.1, .bool (mAt h g p).2.2] 35)).mono hBp.out.size) q))
        have Bq := fun (q : Nat) => below_drewN ((Below.refl wr.heap.size wr).alloc (Nat.le_refl _) (.cells #[.bool (mAt h g p).1, .int .i64 (mAt h g p).2.1, .bool (mAt h g p).2.2] 35)) q
        have hmi := kk.mi g p (by rw [hn.out]; exact hgl) hpl
        cases hi : (mAt h g p).1
        · obtain ⟨T', o', bd, od, cd, ad, cd', e, _, r2, e1, ed, Id⟩ := host_disk hI kk hn.out hgl hpl
          cases e
          have lbd : bd < wr.heap.size := Nat.lt_of_lt_of_le r2 hhr
          have epg : pageM h.frames (gOf h g) p = dAt h g p := by
            show (bif (mAt h g p).1 then _ else _) = _
            rw [hi]; rfl
          rw [epg] at ep Ip hp4
          have heq := fun (q : Nat) => lkInts_same _ _ _ _ ap ad (dAt h g p).length cp cd' (dAt h g p) _ (Ip.same (below_sameIn (Bq q) (Nat.le_trans hs4.out hBp.out.size))) (Id.same (below_sameIn (Bq q) hhr)) (by omega)
          rw [hi] at hBn heq d1
          generalize (mAt h g p).2.1 = mf at *
          generalize (mAt h g p).2.2 = mw at *
          generalize (dAt h g p).length = ld at *
          clear hI Ip Id hp4 epg Bq hmi
          go_wp2_with (fail)
          go_quiet ((go_at_call 25; refine Calls.quiet_of (heq _)))
          go_wp2
          go_roundw
          case rel => exact ⟨p + 1, by omega, by go_num, hidE (hBn.out _)⟩
          case measure => simp [intOf]; omega
        · obtain ⟨f0, f7, _⟩ := hmi hi
          obtain ⟨f, hfe, hf8⟩ : ∃ f : Nat, (mAt h g p).2.1 = f ∧ f < lf := ⟨(mAt h g p).2.1.toNat, by omega, by have := kk.f8; omega⟩
          have hfi : (f : Int) < (lf : Int) := by omega
          obtain ⟨F, oF, aF, cF, rfl, r2, eF, IF⟩ := host_frame hI hf8
          have lF : F < wr.heap.size := Nat.lt_of_lt_of_le r2 hhr
          have epg : pageM h.frames (gOf h g) p = h.frames.getD f [] := by
            show (bif (mAt h g p).1 then h.frames.getD (mAt h g p).2.1.toNat [] else _) = _
            rw [hi, hfe]; rfl
          rw [epg] at ep Ip hp4
          have heq := fun (q : Nat) => lkInts_same _ _ _ _ ap aF (h.frames.getD f []).length cp cF (h.frames.getD f []) _ (Ip.same (below_sameIn (Bq q) (Nat.le_trans hs4.out hBp.out.size))) (IF.same (below_sameIn (Bq q) hhr)) (by omega)
          rw [hi, hfe] at hBn heq
          rw [hi] at d1
          rw [hfe] at d2
          generalize (mAt h g p).2.2 = mw at *
          generalize (h.frames.getD f []).length = ld at *
          clear hI Ip IF hp4 epg Bq hmi f0 f7
          go_wp2_with (fail)
          go_quiet ((go_at_call 25; refine Calls.quiet_of (heq _)))
          go_wp2
          go_roundw
          case rel => exact ⟨p + 1, by omega, by go_num, hidE (hBn.out _)⟩
          case measure => simp [intOf]; omega
      · obtain rfl : p = 6 := by omega
        have hmk := implMemOk _ _ al 6 cl _ wr (HJ.out.same (below_sameIn hBp.out hs4.out)) (Nat.le_trans hs4.out hBp.out.size) (by omega)
        rw [Hmo.out] at hmk
        have HBe := hidE (HB4.out.trans (hBp.out.mono HB4.out.size))
        have sB := hidE hBp.out.size
        clear hBp
        go_wp2_with (fail)
        refine hmk.mono ?_
        rintro e v9 ⟨rfl, B9⟩
        have HBf := hidE (HBe.out.trans (B9.mono HBe.out.size))
        clear hmk B9
        go_wp2
        go_ret
        exact ⟨rfl, HBf.out⟩
end Go.Proofs.Ytjegndgdpmlbaaa
