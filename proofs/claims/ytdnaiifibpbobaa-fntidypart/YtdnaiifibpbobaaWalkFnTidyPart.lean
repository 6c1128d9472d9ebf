/-
  The walk of the law FnTidyPart.
-/
import Derived.Test.YtdnaiifibpbobaaTidy2
import Derived.Deep.DeepCutAuto
import Derived.Deep.DrawnRows
set_option linter.unusedSimpArgs false
namespace Go.Proofs.Ytdnaiifibpbobaa
open Go.RowKit
attribute [local go_sem ↓] Go.wp_at_zero Go.wp_at_succ exec_apa
attribute [local go_sem] nextAp_ok

theorem filter_step (p : A5 → Bool) (xs : List A5) (k : Nat) (hk : k < xs.length) {x : A5} (hx : xs.getD k noA = x) : (xs.take (k + 1)).filter p = (xs.take k).filter p ++ (if p x then [x] else []) := by
  have hg : xs[k] = x := by rw [← hx, List.getD_eq_getElem?_getD, List.getElem?_eq_getElem hk]; rfl
  rw [List.take_succ_eq_append_getElem hk, hg, List.filter_append]
  cases hp : p x <;> simp [hp]
theorem filter_step1 (p : A5 → Bool) (xs : List A5) (k : Nat) (hk : k < xs.length) {x : A5} (hx : xs.getD k noA = x) (h : p x = true) : (xs.take (k + 1)).filter p = (xs.take k).filter p ++ [x] := by rw [filter_step p xs k hk hx, h]; rfl
theorem filter_step0 (p : A5 → Bool) (xs : List A5) (k : Nat) (hk : k < xs.length) {x : A5} (hx : xs.getD k noA = x) (h : p x = false) : (xs.take (k + 1)).filter p = (xs.take k).filter p := by rw [filter_step p xs k hk hx, h]; simp
theorem filter_len (p : A5 → Bool) (xs : List A5) (k : Nat) : ((xs.take k).filter p).length ≤ xs.length := by
  have h1 := List.length_filter_le p (xs.take k)
  have h2 := List.length_take (i := k) (l := xs)
  omega

set_option maxHeartbeats 4000000 in
theorem lkWithout_own (a : Option Addr) (len cap : Nat) (xs : List A5) (w : World) (hI : IsActs w a len xs) (hm : len ≤ 1000) :
    Calls Try.prog 10 #[.slice a len cap] w fun e w' => ∃ v, e = .returned v ∧ OwnA w' w.heap.size v (xs.filter ownA) ∧ Below w.heap.size w w' := by
  obtain ⟨hl, hI⟩ := hI
  go_enter Try.func10, Try.ntmps10
  go_wp2
  go_loopw [3, 4] (fun v i wr => ∃ (k : Nat) (ys : List A5), k ≤ len ∧ i = .int .i64 k ∧ Hid (ys = (xs.take k).filter ownA) ∧ (∃ a c, v = .slice a ys.length c) ∧ Hid (OwnA wr w.heap.size v ys) ∧ Hid (Below w.heap.size w wr)) (fun _ i _ => len - (intOf i).toNat)
  case atStart => exact ⟨0, [], Nat.zero_le _, rfl, rfl, ⟨_, _, rfl⟩, OwnA.new w, (Below.refl _ _).alloc (Nat.le_refl _) _⟩
  case round =>
    obtain ⟨k, ys, hk, rfl, hys, ⟨ay, cy, rfl⟩, hO, hB⟩ := hrel
    have hs := hB.out.size
    by_cases hlt : k < len
    · have hki : (k : Int) < (len : Int) := by omega
      rcases hI with h0 | ⟨b, o, rfl, hb, hc⟩
      · omega
      have hyl : ys.length ≤ len := by rw [hys.out, ← hl]; exact filter_len _ _ _
      rcases hE : xs.getD k noA with ⟨a0, a1, a2, a3, a4⟩
      obtain ⟨c0, c1, c2, c3, c4⟩ := hc.at hB.out hb (by omega) hE
      have hbr : b < wr.heap.size := by omega
      have hstep1 := hidA (filter_step1 ownA xs k (by omega) hE)
      have hstep0 := hidA (filter_step0 ownA xs k (by omega) hE)
      rw [← hys.out] at hstep1 hstep0
      clear hE hc hys
      obtain ⟨g1, k1, w2, hApp, hO2, B2⟩ := app_lit w.heap.size (.slice ay ys.length cy) ys [(a0, a1, a2, a3, a4)] wr hO.out hs 1 rfl (by omega) (by omega) #[.int .i64 a0, .int .i64 a1, .int .i64 a2, .int .i64 a3, .int .i64 a4] rfl
      replace hO2 := hidA hO2
      have hB2 := hidA (hB.out.trans B2)
      clear B2
      replace hApp := hidA hApp
      by_cases h1 : 1 ≤ a0
      · by_cases h5 : a0 ≤ 5
        · have h1' : a0 ≥ 1 := h1
          have hs1 := hstep1.out (by simp [ownA, h1, h5])
          go_wp2
          rw [hApp.out, nextAp_ok]
          clear hApp
          go_wp2
          go_roundw
          case rel => exact ⟨k + 1, _, by omega, by go_num, hs1.symm, ⟨some ⟨g1, 0, none⟩, k1, by rw [List.length_append]; rfl⟩, hO2.out, hB2.out⟩
          case measure => simp [intOf]; omega
        · have h1' : a0 ≥ 1 := h1
          have hs0 := hstep0.out (by simp [ownA, h5])
          go_wp2
          go_roundw
          case rel => exact ⟨k + 1, ys, by omega, by go_num, hs0.symm, ⟨_, _, rfl⟩, hO.out, hB.out⟩
          case measure => simp [intOf]; omega
      · have h1' : ¬ a0 ≥ 1 := h1
        have hs0 := hstep0.out (by simp [ownA, h1])
        go_wp2
        go_roundw
        case rel => exact ⟨k + 1, ys, by omega, by go_num, hs0.symm, ⟨_, _, rfl⟩, hO.out, hB.out⟩
        case measure => simp [intOf]; omega
    · obtain rfl : k = len := by omega
      have hfin := hidA (show ys = xs.filter ownA by rw [hys.out, ← hl, List.take_length])
      clear hys
      go_wp2
      go_ret
      exact ⟨_, rfl, by rw [← hfin.out]; exact hO.out, hB.out⟩

set_option maxHeartbeats 4000000 in
theorem lkJust_own (a : Option Addr) (len cap : Nat) (g : Int) (xs : List A5) (w : World) (hI : IsActs w a len xs) (hm : len ≤ 1000) :
    Calls Try.prog 9 #[.slice a len cap, .int .i64 g] w fun e w' => ∃ v, e = .returned v ∧ OwnA w' w.heap.size v ((xs.filter fun a => a.2.1 == g).filter ownA) ∧ Below w.heap.size w w' := by
  obtain ⟨hl, hI⟩ := hI
  go_enter Try.func9, Try.ntmps9
  go_wp2
  go_loopw [5, 6] (fun v i wr => ∃ (k : Nat) (ys : List A5), k ≤ len ∧ i = .int .i64 k ∧ Hid (ys = (xs.take k).filter (fun a => a.2.1 == g)) ∧ (∃ a c, v = .slice a ys.length c) ∧ Hid (OwnA wr w.heap.size v ys) ∧ Hid (Below w.heap.size w wr)) (fun _ i _ => len - (intOf i).toNat)
  case atStart => exact ⟨0, [], Nat.zero_le _, rfl, rfl, ⟨_, _, rfl⟩, OwnA.new w, (Below.refl _ _).alloc (Nat.le_refl _) _⟩
  case round =>
    obtain ⟨k, ys, hk, rfl, hys, ⟨ay, cy, rfl⟩, hO, hB⟩ := hrel
    have hs := hB.out.size
    by_cases hlt : k < len
    · have hki : (k : Int) < (len : Int) := by omega
      rcases hI with h0 | ⟨b, o, rfl, hb, hc⟩
      · omega
      have hyl : ys.length ≤ len := by rw [hys.out, ← hl]; exact filter_len _ _ _
      rcases hE : xs.getD k noA with ⟨a0, a1, a2, a3, a4⟩
      obtain ⟨c0, c1, c2, c3, c4⟩ := hc.at hB.out hb (by omega) hE
      have hbr : b < wr.heap.size := by omega
      have hstep1 := hidA (filter_step1 (fun a => a.2.1 == g) xs k (by omega) hE)
      have hstep0 := hidA (filter_step0 (fun a => a.2.1 == g) xs k (by omega) hE)
      rw [← hys.out] at hstep1 hstep0
      clear hE hc hys
      obtain ⟨g1, k1, w2, hApp, hO2, B2⟩ := app_lit w.heap.size (.slice ay ys.length cy) ys [(a0, a1, a2, a3, a4)] wr hO.out hs 1 rfl (by omega) (by omega) #[.int .i64 a0, .int .i64 a1, .int .i64 a2, .int .i64 a3, .int .i64 a4] rfl
      replace hO2 := hidA hO2
      have hB2 := hidA (hB.out.trans B2)
      clear B2
      replace hApp := hidA hApp
      cases h1 : a1 == g
      · have hs0 := hstep0.out (h1)
        go_wp2
        go_roundw
        case rel => exact ⟨k + 1, ys, by omega, by go_num, hs0.symm, ⟨_, _, rfl⟩, hO.out, hB.out⟩
        case measure => simp [intOf]; omega
      · have hs1 := hstep1.out (h1)
        go_wp2
        rw [hApp.out, nextAp_ok]
        clear hApp
        go_wp2
        go_roundw
        case rel => exact ⟨k + 1, _, by omega, by go_num, hs1.symm, ⟨some ⟨g1, 0, none⟩, k1, by rw [List.length_append]; rfl⟩, hO2.out, hB2.out⟩
        case measure => simp [intOf]; omega
    · obtain rfl : k = len := by omega
      have hfin := hidA (show ys = xs.filter (fun a => a.2.1 == g) by rw [hys.out, ← hl, List.take_length])
      clear hys
      obtain ⟨a5, c5, e5, _, hI5, _⟩ := hO.out.acts
      cases e5
      have hyl : ys.length ≤ 1000 := by rw [hfin.out]; have := List.length_filter_le (fun a : A5 => a.2.1 == g) xs; omega
      have hW := lkWithout_own ay ys.length cy ys wr hI5 hyl
      replace hW := hidA hW
      clear hI5 hyl
      go_wp2_with (fail)
      refine hW.out.mono ?_
      rintro e w5 ⟨v, rfl, hO5, B5⟩
      obtain ⟨a7, c7, rfl, _⟩ := hO5.acts
      rw [hfin.out] at hO5 ⊢
      replace hO5 := hidA (hO5.lower hs)
      have HB5 := hidA (hB.out.trans (B5.mono hs))
      clear B5 hB hO
      generalize hzs : List.filter ownA (List.filter (fun a => a.2.1 == g) xs) = zs at *
      go_wp2
      go_ret
      exact ⟨_, rfl, by rw [hzs]; exact hO5.out, HB5.out⟩

theorem tidied_take (xs : List A5) (k : Nat) (hk : k < xs.length) {x : A5} (hx : xs.getD k noA = x) : tidied (xs.take (k + 1)) = tidied (xs.take k) ++ [x, (5, x.2.1, 0, 0, 0)] := by
  have hg : xs[k] = x := by rw [← hx, List.getD_eq_getElem?_getD, List.getElem?_eq_getElem hk]; rfl
  rw [List.take_succ_eq_append_getElem hk, hg, tidied_snoc]
theorem tidied_sm (xs : List A5) (h : ∀ x, x ∈ xs → SmA 2 x) : ∀ x, x ∈ tidied xs → SmA 2 x := fun x hx => by
  rw [tidied, List.mem_flatMap] at hx
  obtain ⟨a, ha, hx⟩ := hx
  have := h a ha
  simp only [List.mem_cons, List.not_mem_nil, or_false] at hx
  rcases hx with rfl | rfl
  · exact this
  · exact ⟨⟨(by dsimp only; omega), (by dsimp only; omega)⟩, this.2.1, ⟨(by dsimp only; omega), (by dsimp only; omega)⟩, ⟨(by dsimp only; omega), (by dsimp only; omega)⟩, ⟨(by dsimp only; omega), (by dsimp only; omega)⟩⟩
theorem app_litD (lo : Nat) (v : Value) (xs ys : List A5) (w : World) (h : OwnA w lo v xs) (hlo : lo ≤ w.heap.size) (m : Nat) (hm : ys.length = m) (h0 : 0 < m) (hn : xs.length + m ≤ 100000) (cs : Array Value) (hcs : cs.toList = flatA ys) :
    ∃ g cap w', apaRun Try.prog v (.slice (some ⟨w.heap.size, 0, none⟩) m m) (w.alloc (.cells cs 27)).drew = .ok (.slice (some ⟨g, 0, none⟩) (xs.length + m) cap) w' ∧ OwnA w' lo (.slice (some ⟨g, 0, none⟩) (xs.length + m) cap) (xs ++ ys) ∧ Below lo w w' := by
  have hO : OwnA (w.alloc (.cells cs 27)).drew lo v xs := World.ownsRow.alloc h (.cells cs 27)
  obtain ⟨g, cap, w', h1, h2, h3, _⟩ := app_acts lo v xs ys (w.alloc (.cells cs 27)).drew hO (by simp; omega) ⟨w.heap.size, 0, none⟩ m m hm h0 hn (fun j u hu => cells_new w cs _ j u (by rw [hcs]; exact hu))
  exact ⟨g, cap, w', h1, h2, (((Below.refl lo w).alloc hlo (.cells cs 27)).drew).trans h3⟩
set_option maxHeartbeats 8000000 in
theorem walk_FnTidyPart (a0 : Option Addr) (len0 cap0 : Nat) (z0 : List Int) (w : World) (w0 : IsRow .u8 w a0 len0 cap0 z0) :
    Calls Try.prog 3 #[.slice a0 len0 cap0] w fun e w' => e = .returned (.bool true) ∧ Below w.heap.size w w' := by
  by_cases hbig : (1048576 : Int) < (len0 : Int)
  · go_enter Try.func3, Try.ntmps3
    go_wp2
    go_ret
    exact ⟨rfl, Below.refl _ _⟩
  go_enter Try.func3, Try.ntmps3
  go_wp2_with (fail)
  refine (drawTidy a0 len0 cap0 z0 _ w0).mono ?_
  rintro e v1 ⟨a, c, xs, rfl, hac, hI, hT, hxl, hS, B1⟩
  clear w0
  go_wp2_with (fail)
  refine (implTidyV a xs.length c xs _ hI (by omega) hS).mono ?_
  rintro e v2 ⟨rfl, B2⟩
  go_wp2_with (fail)
  refine (specTidyV a xs.length c xs _ (hI.below B2) (by omega)).mono ?_
  rintro e v3 ⟨rfl, B3⟩
  have B13 := B2.trans (B3.mono B2.size)
  have HI := hidA (hI.below B13)
  have Bw := hidA (B1.trans (B13.mono B1.size))
  replace hS := hidA hS
  clear hI hT B1 B2 B3 B13
  go_wp2
  go_loopw [5, 6] (fun v i wr => ∃ (k : Nat) (ys : List A5), k ≤ xs.length ∧ i = .int .i64 k ∧ Hid (ys = tidied (xs.take k)) ∧ (∃ a c, v = .slice a ys.length c) ∧ Hid (OwnA wr v3.heap.size v ys) ∧ Hid (Below v3.heap.size v3 wr)) (fun _ i _ => xs.length - (intOf i).toNat)
  case atStart => exact ⟨0, [], Nat.zero_le _, rfl, rfl, ⟨_, _, rfl⟩, OwnA.new v3, (Below.refl _ _).alloc (Nat.le_refl _) _⟩
  case round =>
    obtain ⟨k, ys, hk, rfl, hys, ⟨ay, cy, rfl⟩, hO, hB⟩ := hrel
    have hs := hB.out.size
    by_cases hlt : k < xs.length
    · have hki : (k : Int) < (xs.length : Int) := by omega
      obtain ⟨_, h0 | ⟨b, o, rfl, hb, hc⟩⟩ := HI.out
      · omega
      have hyl : ys.length ≤ 120 := by rw [hys.out, tidied_len, List.length_take]; omega
      rcases hE : xs.getD k noA with ⟨a0, a1, a2, a3, a4⟩
      obtain ⟨c0, c1, c2, c3, c4⟩ := hc.at hB.out hb (by omega) hE
      have hbr : b < wr.heap.size := by omega
      have hstep := hidA (tidied_take xs k hlt hE)
      rw [← hys.out] at hstep
      clear hE hc hys
      obtain ⟨g1, k1, w2, hApp, hO2, B2⟩ := app_litD v3.heap.size (.slice ay ys.length cy) ys [(a0, a1, a2, a3, a4), (5, a1, 0, 0, 0)] wr hO.out hs 2 rfl (by omega) (by omega) #[.int .i64 a0, .int .i64 a1, .int .i64 a2, .int .i64 a3, .int .i64 a4, .int .i64 5, .int .i64 a1, .int .i64 0, .int .i64 0, .int .i64 0] rfl
      replace hO2 := hidA hO2
      have hB2 := hidA (hB.out.trans B2)
      clear B2 hO hB
      go_wp2
      go_region_with (fail)
      all_goals
        clear hApp
        go_wp2
        go_roundw
        case rel => exact ⟨k + 1, _, by omega, by go_num, hstep.out.symm, ⟨some ⟨g1, 0, none⟩, k1, by rw [List.length_append]; rfl⟩, hO2.out, hB2.out⟩
        case measure => simp [intOf]; omega
    · obtain rfl : k = xs.length := by omega
      rw [show ys = tidied xs by rw [hys.out, List.take_length]] at hO ⊢
      clear hys
      obtain ⟨a5, c5, e5, _, hI5, _⟩ := hO.out.acts
      cases e5
      have hl5 : (tidied xs).length ≤ 120 := by rw [tidied_len]; omega
      have h5 := implTidyV ay (tidied xs).length cy (tidied xs) wr hI5 (by omega) (tidied_sm xs hS.out)
      rw [tidyA_tidied] at h5
      generalize tidied xs = ts at *
      have HI4 := hidA (HI.out.below hB.out)
      have HB4 := hidA (Bw.out.trans (hB.out.mono Bw.out.size))
      clear hO hI5 hB HI Bw
      go_wp2_with (fail)
      refine h5.mono ?_
      rintro e w5 ⟨rfl, B5⟩
      have HI5 := hidA (HI4.out.below B5)
      have HB5 := hidA (HB4.out.trans (B5.mono HB4.out.size))
      clear h5 HI4 HB4 B5
      go_wp2_with (fail)
      refine (implTidyV none 0 0 [] _ ⟨rfl, Or.inl rfl⟩ (by omega) (fun x hx => by simp at hx)).mono ?_
      rintro e w6 ⟨rfl, B6⟩
      rw [show tidyA [] = true from rfl]
      have HI6 := hidA (HI5.out.below B6)
      have HB6 := hidA (HB5.out.trans (B6.mono HB5.out.size))
      clear HI5 HB5 B6
      have hj0 := hidA (lkJust_own a xs.length c 0 xs w6 HI6.out (by omega))
      go_wp2_with (fail)
      refine hj0.out.mono ?_
      rintro e w7 ⟨v7, rfl, hO7, B7⟩
      obtain ⟨a7, c7, rfl, _, hI7, _⟩ := hO7.acts
      have hl7 : ((xs.filter fun a => a.2.1 == 0).filter ownA).length ≤ 100 := by
        have h1 := List.length_filter_le ownA (xs.filter fun a => a.2.1 == 0)
        have h2 := List.length_filter_le (fun a : A5 => a.2.1 == 0) xs
        omega
      have h7 := implTidyV a7 _ c7 _ w7 hI7 (by omega) (fun x hx => hS.out x ((List.mem_filter.1 (List.mem_filter.1 hx).1).1))
      have t7 := hidA (show tidyA xs = true → tidyA ((xs.filter fun a => a.2.1 == 0).filter ownA) = true from fun h => by rw [tidyA_own]; exact tidyA_just xs 0 h)
      have HI7 := hidA (HI6.out.below B7)
      have HB7 := hidA (HB6.out.trans (B7.mono HB6.out.size))
      clear hO7 hI7 B7 hj0 HI6 HB6
      generalize (xs.filter fun a => a.2.1 == 0).filter ownA = f0 at *
      go_wp2_with (fail)
      refine h7.mono ?_
      rintro e w8 ⟨rfl, B8⟩
      have HI8 := hidA (HI7.out.below B8)
      have HB8 := hidA (HB7.out.trans (B8.mono HB7.out.size))
      clear h7 HI7 HB7 B8
      cases hb0 : tidyA f0
      · have hbx : tidyA xs = false := by
          cases h : tidyA xs
          · rfl
          · rw [t7.out h] at hb0; cases hb0
        rw [hbx]
        go_wp2
        go_ret
        exact ⟨rfl, HB8.out⟩
      · have hj1 := hidA (lkJust_own a xs.length c 1 xs w8 HI8.out (by omega))
        go_wp2_with (fail)
        refine hj1.out.mono ?_
        rintro e w9 ⟨v9, rfl, hO9, B9⟩
        obtain ⟨a9, c9, rfl, _, hI9, _⟩ := hO9.acts
        have hl9 : ((xs.filter fun a => a.2.1 == 1).filter ownA).length ≤ 100 := by
          have h1 := List.length_filter_le ownA (xs.filter fun a => a.2.1 == 1)
          have h2 := List.length_filter_le (fun a : A5 => a.2.1 == 1) xs
          omega
        have h9 := implTidyV a9 _ c9 _ w9 hI9 (by omega) (fun x hx => hS.out x ((List.mem_filter.1 (List.mem_filter.1 hx).1).1))
        have t9 := hidA (show tidyA xs = true → tidyA ((xs.filter fun a => a.2.1 == 1).filter ownA) = true from fun h => by rw [tidyA_own]; exact tidyA_just xs 1 h)
        have HI9 := hidA (HI8.out.below B9)
        have HB9 := hidA (HB8.out.trans (B9.mono HB8.out.size))
        clear hO9 hI9 B9 hj1 HI8 HB8
        generalize (xs.filter fun a => a.2.1 == 1).filter ownA = f1 at *
        go_wp2_with (fail)
        refine h9.mono ?_
        rintro e w10 ⟨rfl, B10⟩
        have HI10 := hidA (HI9.out.below B10)
        have HB10 := hidA (HB9.out.trans (B10.mono HB9.out.size))
        clear h9 HI9 HB9 B10
        cases hx : tidyA xs
        · go_wp2
          go_ret
          exact ⟨rfl, HB10.out⟩
        · rw [t9.out hx]
          have hw := hidA (lkWithout_own a xs.length c xs w10 HI10.out (by omega))
          go_wp2_with (fail)
          refine hw.out.mono ?_
          rintro e w11 ⟨v11, rfl, hO11, B11⟩
          obtain ⟨a11, c11, rfl, _, hI11, _⟩ := hO11.acts
          have hl11 : (xs.filter ownA).length ≤ 100 := by
            have h1 := List.length_filter_le ownA xs
            omega
          have h11 := implTidyV a11 _ c11 _ w11 hI11 (by omega) (fun x hx => hS.out x (List.mem_filter.1 hx).1)
          rw [tidyA_own, hx] at h11
          have HB11 := hidA (HB10.out.trans (B11.mono HB10.out.size))
          clear hO11 hI11 B11 hw HI10 HB10
          generalize xs.filter ownA = f2 at *
          go_wp2_with (fail)
          refine h11.mono ?_
          rintro e w12 ⟨rfl, B12⟩
          have HB12 := hidA (HB11.out.trans (B12.mono HB11.out.size))
          clear h11 HB11 B12
          go_wp2
          go_ret
          exact ⟨rfl, HB12.out⟩
end Go.Proofs.Ytdnaiifibpbobaa
