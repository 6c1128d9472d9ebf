/-
  What the law's look at what may be written answers at an ok host.
-/
import Derived.Test.YtjegndgdpmlbaaaKHL
set_option linter.unusedSimpArgs false
namespace Go.Proofs.Ytjegndgdpmlbaaa
open Go.RowKit

/-- A shade of a host in memory. -/
theorem host_shade {W : World} {lo hi : Nat} {af ag : Option Addr} {lf cf n cg : Nat} {h : Hst} (k : HostIn W lo hi (.slice af lf cf) (.slice ag n cg) h) (kk : OkH h) (hn : h.guests.length = n) {g p : Nat} (hg : g < n) (hp : p < 6) :
    ∃ T o bm om c, ag = some ⟨T, o, none⟩ ∧ T < hi ∧ bm < hi ∧ W.cell? ⟨T, o + g * 3 + 2, none⟩ = some (.slice (some ⟨bm, om, none⟩) 6 c) ∧ W.cell? ⟨bm, om + p * 4, none⟩ = some (.bool (sAt h g p).1) ∧ W.cell? ⟨bm, om + p * 4 + 1, none⟩ = some (.int .i64 (sAt h g p).2.1) ∧ W.cell? ⟨bm, om + p * 4 + 2, none⟩ = some (.int .i64 (sAt h g p).2.2.1) ∧ W.cell? ⟨bm, om + p * 4 + 3, none⟩ = some (.bool (sAt h g p).2.2.2) := by
  obtain ⟨_, hG⟩ := k.parts
  obtain ⟨hl, hG⟩ := hG
  rcases hG with h0 | ⟨T, o, rfl, t1, t2, hG⟩
  · omega
  obtain ⟨vm, vd, vs, _, _, c2, ⟨_, _, ⟨a1, c1, rfl, hm⟩⟩⟩ := hG g hg
  obtain ⟨_, _, s1⟩ := kk.six g (by omega)
  have s1' : (h.guests.getD g noG).shades.length = 6 := s1
  rw [s1'] at c2 hm
  obtain ⟨_, hm⟩ := hm
  rcases hm with h0 | ⟨bm, om, rfl, m1, m2, hm⟩
  · omega
  obtain ⟨e0, e1, e2, e3⟩ := hm p (by rw [s1']; exact hp)
  exact ⟨T, o, bm, om, c1, rfl, t2, m2, c2, e0, e1, e2, e3⟩

attribute [local go_sem ↓] Go.wp_at_zero Go.wp_at_succ
set_option maxRecDepth 100000 in
set_option maxHeartbeats 4000000 in
theorem lkAlone_ok (lo hi : Nat) (af ag : Option Addr) (lf cf n cg : Nat) (h : Hst) (w : World) (k : HostIn w lo hi (.slice af lf cf) (.slice ag n cg) h) (hh : hi ≤ w.heap.size) (kk : OkH h) (hn : h.guests.length = n) :
    Calls Try.prog 20 #[.agg #[.slice af lf cf, .slice ag n cg, .int .i64 h.hand]] w fun e w' => e = .returned (.bool true) ∧ Below w.heap.size w w' := by
  obtain ⟨W1, hW1⟩ : ∃ W1, W1 = w.alloc (.cells #[.slice af lf cf, .slice ag n cg, .int .i64 h.hand] 26) := ⟨_, rfl⟩
  have B1 : Below w.heap.size w W1 := by rw [hW1]; exact (Below.refl _ _).alloc (Nat.le_refl _) _
  have hv : HV W1 w.heap.size (.slice af lf cf) (.slice ag n cg) lo hi h := by rw [hW1]; exact HV.new k hh _
  have hn2 : n ≤ 2 := by have := kk.n2; omega
  have HB1 := hidE B1
  have Hv := hidE hv
  replace hn := hidE hn
  clear k B1 hv
  go_enter Try.func20, Try.ntmps20
  go_wp2_with (fail)
  rw [← hW1]
  clear hW1
  go_loopw [3, 4, 6, 7, 9] (fun g _ _ _ _ wr => ∃ g' : Nat, g' ≤ n ∧ g = .int .i64 g' ∧ Hid (Below W1.heap.size W1 wr)) (fun g _ _ _ _ _ => n - (intOf g).toNat)
  case atStart => exact ⟨0, Nat.zero_le _, rfl, Below.refl _ _⟩
  case round =>
    obtain ⟨g, hg, rfl, hB⟩ := hrel
    have hvr := Hv.out.below hB.out
    obtain ⟨⟨x0, x1, x2⟩, lx, hI, hhr⟩ := hvr
    by_cases hgl : g < n
    · have hgi : (g : Int) < (n : Int) := by omega
      obtain ⟨T, o, bm, om, c, rfl, t1, t2, d0, _, _, _⟩ := host_map hI kk hn.out hgl (show 0 < 6 by omega)
      have lT : T < wr.heap.size := Nat.lt_of_lt_of_le t1 hhr
      have lm : bm < wr.heap.size := Nat.lt_of_lt_of_le t2 hhr
      have D0 := hidE d0
      have X1 := hidE (And.intro x1 lx)
      have HB1' := hidE hB.out
      clear hI x2 x0
      go_wp2_with (fail)
      go_loopw [4, 6, 7] (fun p _ _ wp => ∃ p' : Nat, p' ≤ 6 ∧ p = .int .i64 p' ∧ Hid (Below wr.heap.size wr wp)) (fun p _ _ _ => 6 - (intOf p).toNat)
      case atStart => exact ⟨0, Nat.zero_le _, rfl, Below.refl _ _⟩
      case round =>
        obtain ⟨p, hp, rfl, hBp⟩ := hrel
        have x1 := (hBp.out.cell (p := ⟨w.heap.size, 1, none⟩) lx).trans X1.out.1
        have d0 := (hBp.out.cell (p := ⟨T, o + g * 3, none⟩) lT).trans D0.out
        have sp := hBp.out.size
        have lxp : w.heap.size < wr.heap.size := by omega
        have lTp : T < wr.heap.size := by omega
        have lmp : bm < wr.heap.size := by omega
        by_cases hpl : p < 6
        · have hpi : (p : Int) < 6 := by omega
          have hvp := Hv.out.below (HB1'.out.trans (hBp.out.mono HB1'.out.size))
          obtain ⟨T', o', bm', om', c', e, _, m2, a0, a1, a2, a3⟩ := host_map hvp.2.2.1 kk hn.out hgl hpl
          cases e
          have lmp' : bm' < wr.heap.size := Nat.lt_of_lt_of_le m2 hvp.2.2.2
          obtain ⟨mi, hmi⟩ : ∃ x, x = (mAt h g p).1 := ⟨_, rfl⟩
          obtain ⟨mf, hmf⟩ : ∃ x, x = (mAt h g p).2.1 := ⟨_, rfl⟩
          obtain ⟨mw, hmw⟩ : ∃ x, x = (mAt h g p).2.2 := ⟨_, rfl⟩
          rw [← hmi] at a1
          rw [← hmf] at a2
          rw [← hmw] at a3
          have Hm := hidE (And.intro hmi (And.intro hmf hmw))
          clear hmi hmf hmw hvp d0
          obtain ⟨W3, hW3⟩ : ∃ W3, W3 = wr.alloc (.cells #[.bool mi, .int .i64 mf, .bool mw] 35) := ⟨_, rfl⟩
          have B3 : Below wr.heap.size wr W3 := by rw [hW3]; exact (Below.refl _ _).alloc (Nat.le_refl _) _
          have y3 : W3.cell? ⟨wr.heap.size, 0, none⟩ = some (.bool mi) ∧ W3.cell? ⟨wr.heap.size, 1, none⟩ = some (.int .i64 mf) ∧ W3.cell? ⟨wr.heap.size, 2, none⟩ = some (.bool mw) := by rw [hW3]; simp
          have ly : wr.heap.size < W3.heap.size := by rw [hW3]; simp
          have HY := hidE (And.intro y3 ly)
          have HB3 := hidE ((HB1'.out.trans (hBp.out.mono HB1'.out.size)).trans (B3.mono (by have := HB1'.out.size; omega)))
          have HBo := hidE (hBp.out.trans (B3.mono sp))
          have x13 := hidE (And.intro ((B3.cell (p := ⟨w.heap.size, 1, none⟩) lxp).trans x1) (Nat.lt_of_lt_of_le lxp B3.size))
          obtain ⟨bv, hbv⟩ : ∃ bv, bv = wr.heap.size := ⟨_, rfl⟩
          rw [← hbv] at HY y3 ly
          clear B3
          go_wp2_with (fail)
          rw [← hW3, ← hbv]
          clear hW3 hbv hBp a0 a1 a2 a3 x1
          go_loopw [6, 7] (fun k _ wq => ∃ k' : Nat, k' ≤ n ∧ k = .int .i64 k' ∧ Hid (Below W3.heap.size W3 wq)) (fun k _ _ => n - (intOf k).toNat)
          case atStart => exact ⟨0, Nat.zero_le _, rfl, Below.refl _ _⟩
          case round =>
            obtain ⟨k, hk, rfl, hBk⟩ := hrel
            have x1 := (hBk.out.cell (p := ⟨w.heap.size, 1, none⟩) x13.out.2).trans x13.out.1
            have lxk : w.heap.size < wr.heap.size := Nat.lt_of_lt_of_le x13.out.2 hBk.out.size
            by_cases hkl : k < n
            · have hki : (k : Int) < (n : Int) := by omega
              have hvk := Hv.out.below (HB3.out.trans (hBk.out.mono HB3.out.size))
              obtain ⟨T', o', bk, ok, ck, e, t1', m2', a0, _, _, _⟩ := host_map hvk.2.2.1 kk hn.out hkl (show 0 < 6 by omega)
              cases e
              have lTk : T < wr.heap.size := Nat.lt_of_lt_of_le t1' hvk.2.2.2
              have lmk : bk < wr.heap.size := Nat.lt_of_lt_of_le m2' hvk.2.2.2
              have A0 := hidE a0
              have XK := hidE (And.intro x1 lxk)
              have HBk2 := hidE hBk.out
              clear hvk
              go_wp2_with (fail)
              go_loopw [7] (fun q wq => ∃ q' : Nat, q' ≤ 6 ∧ q = .int .i64 q' ∧ Hid (Below W3.heap.size W3 wq)) (fun q _ => 6 - (intOf q).toNat)
              case atStart => exact ⟨0, Nat.zero_le _, rfl, HBk2.out⟩
              case round =>
                obtain ⟨q, hq, rfl, hBq⟩ := hrel
                have x1 := (hBq.out.cell (p := ⟨w.heap.size, 1, none⟩) x13.out.2).trans x13.out.1
                have lxq : w.heap.size < wr.heap.size := Nat.lt_of_lt_of_le x13.out.2 hBq.out.size
                obtain ⟨y0, y1, y2⟩ := cells3 hBq.out HY.out.2 HY.out.1
                have lyq : bv < wr.heap.size := Nat.lt_of_lt_of_le HY.out.2 hBq.out.size
                have hvq := Hv.out.below (HB3.out.trans (hBq.out.mono HB3.out.size))
                by_cases hql : q < 6
                · have hqi : (q : Int) < 6 := by omega
                  obtain ⟨T', o', bq, oq, cq, e, t1', m2', a0, a1, a2, a3⟩ := host_map hvq.2.2.1 kk hn.out hkl hql
                  cases e
                  have lTq : T < wr.heap.size := Nat.lt_of_lt_of_le t1' hvq.2.2.2
                  have lmq : bq < wr.heap.size := Nat.lt_of_lt_of_le m2' hvq.2.2.2
                  have hal := kk.al g p k q (by rw [hn.out]; exact hgl) hpl (by rw [hn.out]; exact hkl) hql
                  rw [← Hm.out.1, ← Hm.out.2.1, ← Hm.out.2.2] at hal
                  have HBn := hidE (hBq.out.trans (((Below.refl wr.heap.size wr).alloc (Nat.le_refl _) (.cells #[.bool (mAt h k q).1, .int .i64 (mAt h k q).2.1, .bool (mAt h k q).2.2] 35)).mono hBq.out.size))
                  generalize (mAt h k q).1 = ni at *
                  generalize (mAt h k q).2.1 = nf at *
                  generalize (mAt h k q).2.2 = nw at *
                  clear hvq HB3 hBk hBq Hm
                  cases mi
                  · go_wp2
                    go_roundw
                    case rel => exact ⟨q + 1, by omega, by go_num, HBn⟩
                    case measure => simp [intOf]; omega
                  · cases ni
                    · go_wp2
                      go_roundw
                      case rel => exact ⟨q + 1, by omega, by go_num, HBn⟩
                      case measure => simp [intOf]; omega
                    · cases mw
                      · go_wp2
                        go_roundw
                        case rel => exact ⟨q + 1, by omega, by go_num, HBn⟩
                        case measure => simp [intOf]; omega
                      · by_cases hf : nf = mf
                        · subst hf
                          obtain ⟨rfl, rfl⟩ := hal rfl rfl rfl rfl
                          clear hal
                          go_wp2
                          go_roundw
                          case rel => exact ⟨q + 1, by omega, by go_num, HBn⟩
                          case measure => simp [intOf]; omega
                        · have hf' : ¬ mf = nf := fun e => hf e.symm
                          clear hal
                          go_wp2
                          go_roundw
                          case rel => exact ⟨q + 1, by omega, by go_num, HBn⟩
                          case measure => simp [intOf]; omega
                · obtain rfl : q = 6 := by omega
                  obtain ⟨T', o', bq, oq, cq, e, t1', m2', a0, _, _, _⟩ := host_map hvq.2.2.1 kk hn.out hkl (show 0 < 6 by omega)
                  cases e
                  have lTq : T < wr.heap.size := Nat.lt_of_lt_of_le t1' hvq.2.2.2
                  clear hvq y0 y1 y2
                  go_wp2
                  go_roundw
                  case rel => exact ⟨k + 1, by omega, by go_num, hBq⟩
                  case measure => simp [intOf]; omega
            · obtain rfl : k = n := by omega
              have HBe := hidE (HBo.out.trans (hBk.out.mono (by have := HBo.out.size; omega)))
              clear hBk
              go_wp2
              go_roundw
              case rel => exact ⟨p + 1, by omega, by go_num, HBe⟩
              case measure => simp [intOf]; omega
        · obtain rfl : p = 6 := by omega
          have XM := hidE (And.intro x1 lxp)
          have HBm := hidE (HB1'.out.trans (hBp.out.mono HB1'.out.size))
          clear hBp HB1'
          go_wp2
          go_loopw [9] (fun p wp => ∃ p' : Nat, p' ≤ 6 ∧ p = .int .i64 p' ∧ Hid (Below wr.heap.size wr wp)) (fun p _ => 6 - (intOf p).toNat)
          case atStart => exact ⟨0, Nat.zero_le _, rfl, Below.refl _ _⟩
          case round =>
            obtain ⟨p, hp, rfl, hBp⟩ := hrel
            have x1 := (hBp.out.cell (p := ⟨w.heap.size, 1, none⟩) XM.out.2).trans XM.out.1
            have lxp : w.heap.size < wr.heap.size := Nat.lt_of_lt_of_le XM.out.2 hBp.out.size
            have hvp := Hv.out.below (HBm.out.trans (hBp.out.mono HBm.out.size))
            by_cases hpl : p < 6
            · have hpi : (p : Int) < 6 := by omega
              obtain ⟨T', o', bs, os, c', e, t2', s2, d2, b0, b1, b2, b3⟩ := host_shade hvp.2.2.1 kk hn.out hgl hpl
              cases e
              have lsp : bs < wr.heap.size := Nat.lt_of_lt_of_le s2 hvp.2.2.2
              have lTp : T < wr.heap.size := Nat.lt_of_lt_of_le t2' hvp.2.2.2
              have hsi := kk.si g p (by rw [hn.out]; exact hgl) hpl
              have HBn := hidE (hBp.out.trans (((Below.refl wr.heap.size wr).alloc (Nat.le_refl _) (.cells #[.bool (sAt h g p).1, .int .i64 (sAt h g p).2.1, .int .i64 (sAt h g p).2.2.1, .bool (sAt h g p).2.2.2] 49)).mono hBp.out.size))
              by_cases hs : (sAt h g p).1 = true
              · obtain ⟨i1, i2, i3, i4, _⟩ := hsi hs
                obtain ⟨v, hv, hv6⟩ : ∃ v : Nat, (sAt h g p).2.1 = v ∧ v < 6 := ⟨(sAt h g p).2.1.toNat, by omega, by omega⟩
                rw [hv, Int.toNat_natCast] at i3 i4
                obtain ⟨T', o', bm', om', c'', e, _, m2, a0, a1, a2, a3⟩ := host_map hvp.2.2.1 kk hn.out hgl hv6
                cases e
                have lmp : bm' < wr.heap.size := Nat.lt_of_lt_of_le m2 hvp.2.2.2
                rw [i3] at a1
                rw [i4] at a2
                rw [hs] at b0 HBn
                rw [hv] at b1 HBn i1 i2
                generalize (sAt h g p).2.2.1 = sf at *
                generalize (sAt h g p).2.2.2 = sw at *
                generalize (mAt h g v).2.2 = mw at *
                have hv0 : ¬ ((v : Int) < 0) := by omega
                have hv5 : ¬ ((v : Int) ≥ 6) := by omega
                have hd0 : decide ((v : Int) < 0) = false := by simp
                have hd5 : decide ((6 : Int) ≤ (v : Int)) = false := by simpa using hv5
                clear hvp hBp hsi
                go_wp2_with (fail)
                go_quiet (fail)
                go_wp2
                go_roundw
                case rel =>
                  (repeat apply Exists.intro)
                  refine ⟨?_, rfl⟩
                  exact ⟨p + 1, by omega, by go_num, hidE (below_drewN HBn.out _)⟩
                case measure => simp [intOf]; omega
              · have hs' : (sAt h g p).1 = false := by simpa using hs
                rw [hs'] at b0 HBn
                generalize (sAt h g p).2.1 = sp at *
                generalize (sAt h g p).2.2.1 = sf at *
                generalize (sAt h g p).2.2.2 = sw at *
                clear hvp hBp hsi
                go_wp2_with (fail)
                go_quiet (fail)
                go_wp2
                go_roundw
                case rel => exact ⟨p + 1, by omega, by go_num, hidE (below_drewN HBn.out _)⟩
                case measure => simp [intOf]; omega
            · obtain rfl : p = 6 := by omega
              obtain ⟨T', o', bs, os, c', e, t2', s2, d2, b0, b1, b2, b3⟩ := host_shade hvp.2.2.1 kk hn.out hgl (show 0 < 6 by omega)
              cases e
              have lsp : bs < wr.heap.size := Nat.lt_of_lt_of_le s2 hvp.2.2.2
              have lTp : T < wr.heap.size := Nat.lt_of_lt_of_le t2' hvp.2.2.2
              have HBe := hidE (HBm.out.trans (hBp.out.mono HBm.out.size))
              clear hBp hvp b0 b1 b2 b3
              go_wp2
              go_roundw
              case rel => exact ⟨g + 1, by omega, by go_num, HBe⟩
              case measure => simp [intOf]; omega
    · obtain rfl : g = n := by omega
      have HB := hidE (HB1.out.trans (hB.out.mono HB1.out.size))
      clear hB
      go_wp2
      go_ret
      exact ⟨rfl, HB.out⟩
end Go.Proofs.Ytjegndgdpmlbaaa
