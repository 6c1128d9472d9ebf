/-
  The walk of the law FnHostUsed.
-/
import Derived.Test.YtjegndgdpmlbaaaKFHL
import Derived.Test.YtjegndgdpmlbaaaKFHostDraw6
import Derived.Test.YtjegndgdpmlbaaaKFY
import Derived.Test.YtjegndgdpmlbaaaKFHostOk1
set_option linter.unusedSimpArgs false
namespace Go.Proofs.Ytjegndgdpmlbaaa
open Go.RowKit

/-- A list of words that is a call's own, by its parts. -/
theorem OwnI.mem {w : World} {lo hi : Nat} {v : Value} {zs : List Int} (h : OwnI w lo hi v zs) : ∃ a c, v = .slice a zs.length c ∧ IsInts w lo hi a zs.length zs := by
  obtain ⟨a, c, e, hd⟩ := h
  refine ⟨a, c, e, rfl, ?_⟩
  rcases hd with h0 | ⟨b, e, h1, h2, h3, _⟩
  · exact Or.inl h0
  · exact Or.inr ⟨b, 0, e, h1, h2, h3⟩

/-- Sums over the frames, and the maps that are in, counted. -/
def sumF (U : Nat → Nat) : Nat → Nat
  | 0 => 0
  | k + 1 => sumF U k + U k
theorem sumF_add (A B : Nat → Nat) : ∀ k, sumF (fun f => A f + B f) k = sumF A k + sumF B k
  | 0 => rfl
  | k + 1 => by simp only [sumF]; rw [sumF_add A B k]; omega
def tallyP (h : Hst) (g : Nat) : Nat → Nat
  | 0 => 0
  | p + 1 => tallyP h g p + (bif (mAt h g p).1 then 1 else 0)
def tallyU (h : Hst) : Nat → Nat
  | 0 => 0
  | g + 1 => tallyU h g + tallyP h g 6
theorem tallyP_le (h : Hst) (g : Nat) : ∀ p, tallyP h g p ≤ p
  | 0 => Nat.le_refl _
  | p + 1 => by
    have := tallyP_le h g p
    simp only [tallyP]
    cases (mAt h g p).1 <;> simp <;> omega
theorem tallyU_le (h : Hst) : ∀ g, tallyU h g ≤ 6 * g
  | 0 => Nat.le_refl _
  | g + 1 => by
    have := tallyU_le h g
    have := tallyP_le h g 6
    simp only [tallyU]
    omega
theorem sumF_one (m : E3) (hm : m.1 = true → 0 ≤ m.2.1 ∧ m.2.1 ≤ 7) : sumF (fun f => bif inF (f : Int) m then 1 else 0) 8 = bif m.1 then 1 else 0 := by
  obtain ⟨mi, mf, mw⟩ := m
  cases mi
  · simp [sumF, inF]
  · obtain ⟨h0, h7⟩ := hm rfl
    obtain ⟨v, rfl⟩ : ∃ v : Nat, mf = v := ⟨mf.toNat, by simp at h0; omega⟩
    have hv : v ≤ 7 := by simp at h7; omega
    have : v = 0 ∨ v = 1 ∨ v = 2 ∨ v = 3 ∨ v = 4 ∨ v = 5 ∨ v = 6 ∨ v = 7 := by omega
    rcases this with rfl | rfl | rfl | rfl | rfl | rfl | rfl | rfl <;> rfl
theorem sumF_maps {h : Hst} (kk : OkH h) {g : Nat} (hg : g < h.guests.length) : ∀ p, p ≤ 6 → sumF (fun f => mapsUp (f : Int) (gOf h g).maps p) 8 = tallyP h g p
  | 0, _ => by simp [mapsUp, sumF, tallyP]
  | p + 1, hp => by
    have hl : (gOf h g).maps.length = 6 := (kk.six g hg).1
    have e : (fun f : Nat => mapsUp (f : Int) (gOf h g).maps (p + 1)) = fun f : Nat => mapsUp (f : Int) (gOf h g).maps p + (bif inF (f : Int) (mAt h g p) then 1 else 0) := by
      funext f
      exact mapsUp_step (f : Int) (by omega)
    rw [e, sumF_add, sumF_maps kk hg p (by omega), sumF_one _ (fun hi => ⟨(kk.mi g p hg (by omega) hi).1, (kk.mi g p hg (by omega) hi).2.1⟩), tallyP]
theorem sumF_users {h : Hst} (kk : OkH h) : ∀ g, g ≤ h.guests.length → sumF (fun f => usersUp (f : Int) h.guests g) 8 = tallyU h g
  | 0, _ => by simp [usersUp, sumF, tallyU]
  | g + 1, hg => by
    have hl : (gOf h g).maps.length = 6 := (kk.six g (by omega)).1
    have e : (fun f : Nat => usersUp (f : Int) h.guests (g + 1)) = fun f : Nat => usersUp (f : Int) h.guests g + mapsUp (f : Int) (gOf h g).maps 6 := by
      funext f
      rw [usersUp_step (f : Int) (by omega), ← mapsUp_all]
      show _ = _ + mapsUp (f : Int) (gOf h g).maps 6
      rw [← hl]
      rfl
    rw [e, sumF_add, sumF_users kk g (by omega), sumF_maps kk (by omega) 6 (Nat.le_refl _), tallyU]
theorem free_sum (U : Int → Nat) : ∀ k, k - (freeUp U k).length ≤ sumF (fun f => U (f : Int)) k ∧ ((freeUp U k).length = k ↔ sumF (fun f => U (f : Int)) k = 0)
  | 0 => by simp [freeUp, sumF]
  | k + 1 => by
    obtain ⟨h1, h2⟩ := free_sum U k
    have hl := freeUp_len U k
    by_cases hu : U (k : Int) = 0
    · rw [freeUp_yes U k hu, List.length_append]
      simp only [sumF, hu, List.length_singleton]
      omega
    · rw [freeUp_no U k hu]
      simp only [sumF]
      omega
theorem used_in {h : Hst} (kk : OkH h) : 8 - (freeUp (usersH h) 8).length ≤ tallyU h h.guests.length ∧ ((freeUp (usersH h) 8).length = 8 ↔ tallyU h h.guests.length = 0) := by
  have e := sumF_users kk h.guests.length (Nat.le_refl _)
  simp only [usersUp_all] at e
  rw [← e]
  exact free_sum (usersH h) 8

attribute [local go_sem ↓] Go.wp_at_zero Go.wp_at_succ
set_option maxRecDepth 100000 in
set_option maxHeartbeats 8000000 in
theorem walk_FnHostUsed (a0 : Option Addr) (len0 cap0 : Nat) (z0 : List Int) (w : World) (w0 : IsRow .u8 w a0 len0 cap0 z0) :
    Calls Try.prog 6 #[.slice a0 len0 cap0] w fun e w' => e = .returned (.bool true) ∧ Below w.heap.size w w' := by
  by_cases hbig : (1048576 : Int) < (len0 : Int)
  · go_enter Try.func6, Try.ntmps6
    go_wp2
    go_ret
    exact ⟨rfl, Below.refl _ _⟩
  have hdr := drawFree a0 len0 cap0 z0 w w0
  clear w0
  go_enter Try.func6, Try.ntmps6
  go_wp2_with (fail)
  refine hdr.mono ?_
  rintro e v1 ⟨vf, vg, h, rfl, hd, B1⟩
  clear hdr
  obtain ⟨hI, hS, wf, hg1, hg4⟩ := hd
  have hI' := hI
  obtain ⟨⟨af, cf, rfl, _⟩, ag, cg, rfl, _⟩ := hI'
  obtain ⟨lf, hlf⟩ : ∃ lf, h.frames.length = lf := ⟨_, rfl⟩
  obtain ⟨n, hn⟩ : ∃ n, h.guests.length = n := ⟨_, rfl⟩
  rw [hlf, hn] at hI
  obtain ⟨W1, hW1⟩ : ∃ W1, W1 = v1.alloc (.cells #[.slice af lf cf, .slice ag n cg, .int .i64 h.hand] 26) := ⟨_, rfl⟩
  have hv := HV.new hI (Nat.le_refl _) 26
  rw [← hW1] at hv
  have C1 : Below v1.heap.size v1 W1 := by rw [hW1]; exact (Below.refl _ _).alloc (Nat.le_refl _) _
  have HB := hidE (B1.trans (C1.mono B1.size))
  obtain ⟨b, hb⟩ : ∃ b, b = v1.heap.size := ⟨_, rfl⟩
  rw [← hb] at hv
  have him := implHostFree _ _ af ag lf cf n cg h W1 hv.2.2.1 hv.2.2.2 wf
  rw [hlf, hn]
  clear C1 B1 hI
  go_wp2_with (fail)
  rw [← hW1, ← hb]
  clear hW1 hb
  refine him.mono ?_
  rintro e v2 ⟨vl, rfl, hO, B2⟩
  clear him
  obtain ⟨al, cl, rfl, hJ⟩ := hO.mem
  have hv2 := hv.below B2
  have HB2 := hidE (HB.out.trans (B2.mono HB.out.size))
  clear hv B2 HB hO
  have hsp := specHostFree _ _ af ag lf cf n cg h v2 hv2.2.2.1 hlf hn hv2.2.2.2 hS
  obtain ⟨⟨q0, q1, q2⟩, lb, _⟩ := id hv2
  have hfl : (freeH h).length ≤ 8 := by
    unfold freeH
    cases okHost h
    · simp
    · exact freeUp_len _ _
  go_wp2_with (fail)
  refine hsp.mono ?_
  rintro e v3 ⟨vl, rfl, hO3, B3⟩
  clear hsp
  obtain ⟨a3, c3, rfl, hJ3⟩ := hO3.mem
  have hv3' := hidE (show v2.heap.size ≤ v3.heap.size from B3.size)
  have hJ' := hJ.same (below_sameIn B3 (Nat.le_refl _))
  have hv3 := hv2.below B3
  have HB3 := hidE (HB2.out.trans (B3.mono HB2.out.size))
  have heq := lkInts_same _ _ _ _ al a3 (freeH h).length cl c3 (freeH h) v3 hJ' hJ3 (by omega)
  clear hv2 B3 HB2 hO3 q0 q1 q2 lb hJ hJ3
  go_wp2_with (fail)
  refine heq.mono ?_
  rintro e v4 ⟨rfl, B4⟩
  clear heq
  obtain ⟨m4, rfl⟩ := B4
  have D4 : Below v3.heap.size v3 (v3.drewN m4) := below_drewN (Below.refl _ _) m4
  generalize v3.drewN m4 = v4 at *
  have hv4 := hv3.below D4
  have HB4 := hidE (HB3.out.trans (D4.mono HB3.out.size))
  have hJ4 := hJ'.same (below_sameIn D4 hv3'.out)
  clear hv3 HB3 hJ'
  have hsp := hostOk_core _ _ af ag lf cf n cg h v4 hlf hv4.2.2.1.parts.1 hn hv4.2.2.1.parts.2 hv4.2.2.2 hS
  obtain ⟨⟨q0, q1, q2⟩, lb, _⟩ := id hv4
  go_wp2_with (fail)
  refine hsp.mono ?_
  rintro e v5 ⟨rfl, B5⟩
  clear hsp q0 q1 q2 lb
  have hJ5 := hJ4.same (below_sameIn B5 (Nat.le_trans hv3'.out D4.size))
  have hv5 := hv4.below B5
  have HB5 := hidE (HB4.out.trans (B5.mono HB4.out.size))
  have hs5 := hidE (show v2.heap.size ≤ v5.heap.size from Nat.le_trans hv3'.out (Nat.le_trans D4.size B5.size))
  clear hv4 HB4 B5 hJ4 D4 hv3'
  obtain ⟨ok, hok⟩ : ∃ ok, okHost h = ok := ⟨_, rfl⟩
  rw [hok]
  cases ok
  · have hsp := specHostFree _ _ af ag lf cf n cg h v5 hv5.2.2.1 hlf hn hv5.2.2.2 hS
    obtain ⟨⟨q0, q1, q2⟩, lb, _⟩ := id hv5
    go_wp2_with (fail)
    refine hsp.mono ?_
    rintro e v6 ⟨vl, rfl, hO6, B6⟩
    clear hsp
    obtain ⟨a6, c6, rfl, hJ6⟩ := hO6.mem
    have hJ' := hJ5.same (below_sameIn B6 hs5.out)
    have HB6 := hidE (HB5.out.trans (B6.mono HB5.out.size))
    have heq := lkInts_same _ _ _ _ al a6 (freeH h).length cl c6 (freeH h) v6 hJ' hJ6 (by omega)
    clear B6 HB5 hO6 q0 q1 q2 lb hJ5 hJ6 hv5
    go_wp2_with (fail)
    refine heq.mono ?_
    rintro e v7 ⟨rfl, m7, rfl⟩
    clear heq
    go_wp2
    go_ret
    exact ⟨rfl, below_drewN HB6.out _⟩
  · have hfe : freeH h = freeUp (usersH h) 8 := by rw [freeH, hok]; rfl
    rw [hfe] at hJ5 ⊢
    have kk := okHost_of hok
    have hn2 : n ≤ 2 := by have := kk.n2; omega
    replace hn := hidE hn
    have Hv := hidE hv5
    have HJ := hidE hJ5
    clear hfe hv5 hJ5 hfl
    obtain ⟨L, hL⟩ : ∃ L, (freeUp (usersH h) 8).length = L := ⟨_, rfl⟩
    have hL8 : L ≤ 8 := by rw [← hL]; exact freeUp_len _ _
    rw [hL]
    replace hL := hidE hL
    go_wp2_with (fail)
    go_loopw [5, 6, 7] (fun c g _ wr => ∃ g' : Nat, g' ≤ n ∧ g = .int .i64 g' ∧ c = .int .i64 ((tallyU h g' : Nat) : Int) ∧ Hid (Below v5.heap.size v5 wr)) (fun _ g _ _ => n - (intOf g).toNat)
    case atStart => exact ⟨0, Nat.zero_le _, rfl, rfl, Below.refl _ _⟩
    case round =>
      obtain ⟨g, hg, rfl, rfl, hBg⟩ := hrel
      have hvr := Hv.out.below hBg.out
      obtain ⟨⟨q0, q1, q2⟩, lb, hI, hhr⟩ := hvr
      have hul := tallyU_le h g
      by_cases hgl : g < n
      · have hgi : (g : Int) < (n : Int) := by omega
        clear hI
        go_wp2_with (fail)
        go_loopw [5, 7] (fun c p wr => ∃ p' : Nat, p' ≤ 6 ∧ p = .int .i64 p' ∧ c = .int .i64 ((tallyU h g + tallyP h g p' : Nat) : Int) ∧ Hid (Below v5.heap.size v5 wr)) (fun _ p _ => 6 - (intOf p).toNat)
        case atStart => exact ⟨0, Nat.zero_le _, rfl, rfl, hBg⟩
        case round =>
          obtain ⟨p, hp, rfl, rfl, hBp⟩ := hrel
          have hvr := Hv.out.below hBp.out
          obtain ⟨⟨q0, q1, q2⟩, lb, hI, hhr⟩ := hvr
          have hpL := tallyP_le h g p
          by_cases hpl : p < 6
          · have hpi : (p : Int) < 6 := by omega
            obtain ⟨T, o, bm, om, c, rfl, t1, t2, d0, d1, d2, d3⟩ := host_map hI kk hn.out hgl hpl
            have lT : T < wr.heap.size := Nat.lt_of_lt_of_le t1 hhr
            have lm : bm < wr.heap.size := Nat.lt_of_lt_of_le t2 hhr
            obtain ⟨mi, hmi⟩ : ∃ mi, (mAt h g p).1 = mi := ⟨_, rfl⟩
            have hst : tallyP h g (p + 1) = tallyP h g p + (bif mi then 1 else 0) := by rw [← hmi]; rfl
            rw [hmi] at d1
            clear hI hBg d2 d3
            cases mi
            · have HS := hidE (show tallyP h g (p + 1) = tallyP h g p from hst)
              clear hst
              go_wp2
              go_roundw
              case rel => exact ⟨p + 1, by omega, by go_num, by rw [HS.out], hBp⟩
              case measure => simp [intOf]; omega
            · have HS := hidE (show tallyP h g (p + 1) = tallyP h g p + 1 from hst)
              clear hst
              go_wp2
              go_roundw
              case rel => exact ⟨p + 1, by omega, by go_num, by rw [HS.out]; go_num, hBp⟩
              case measure => simp [intOf]; omega
          · obtain rfl : p = 6 := by omega
            clear hI hBg
            go_wp2
            go_roundw
            case rel => exact ⟨g + 1, by omega, by go_num, rfl, hBp⟩
            case measure => simp [intOf]; omega
      · obtain rfl : g = n := by omega
        have hu := used_in kk
        rw [hn.out, hL.out] at hu
        generalize tallyU h g = I at *
        obtain ⟨hu1, hu2⟩ := hu
        obtain ⟨V, hV⟩ : ∃ V : Nat, (8 : Int) - (L : Int) = (V : Int) ∧ V ≤ I ∧ (V = 0 ↔ I = 0) := ⟨8 - L, by omega, hu1, by omega⟩
        obtain ⟨hV, hVI, hV0⟩ := hV
        have hVI' : (V : Int) ≤ (I : Int) := by omega
        have HBe := hidE (HB5.out.trans (hBg.out.mono HB5.out.size))
        clear hI hBg hu1 hu2
        by_cases h0 : I = 0
        · subst h0
          obtain rfl : V = 0 := hV0.2 rfl
          obtain rfl : L = 8 := by omega
          clear hV0 hV hVI'
          go_wp2
          go_ret
          exact ⟨rfl, HBe.out⟩
        · have hI0 : ¬ (I : Int) = 0 := by omega
          have hV1 : ¬ (V : Int) = 0 := by omega
          have e1 : ((I : Int) == 0) = false := by simpa using hI0
          have e2 : ((V : Int) == 0) = false := by simpa using hV1
          clear hV0 h0
          go_wp2
          go_ret
          exact ⟨rfl, HBe.out⟩
end Go.Proofs.Ytjegndgdpmlbaaa
