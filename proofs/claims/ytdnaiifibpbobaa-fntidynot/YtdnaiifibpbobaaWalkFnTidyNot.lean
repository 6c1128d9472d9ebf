/-
  The walk of the law FnTidyNot.
-/
import Derived.Test.YtdnaiifibpbobaaTidy2
import Derived.Deep.DeepCutAuto
import Derived.Deep.DrawnRows
set_option linter.unusedSimpArgs false
namespace Go.Proofs.Ytdnaiifibpbobaa
open Go.RowKit
attribute [local go_sem ↓] Go.wp_at_zero Go.wp_at_succ exec_apa
attribute [local go_sem] nextAp_ok

theorem c5_new (w : World) (v0 v1 v2 v3 v4 : Value) (t : TypeId) (b : Nat) (hb : w.heap.size = b) : C5 (w.alloc (.cells #[v0, v1, v2, v3, v4] t)) b v0 v1 v2 v3 v4 := by
  subst hb
  exact ⟨by simp, by simp, by simp, by simp, by simp, by simp, by simp⟩
theorem OwnA.drew {w : World} {lo : Nat} {v : Value} {xs : List A5} (h : OwnA w lo v xs) : OwnA w.drew lo v xs := h
/-- A literal and a row just begun, to which acts and the literal are appended: in each order. -/
theorem pair_one (zs ys : List A5) (w : World) (a : Option Addr) (c : Nat) (hI : IsActs w a zs.length zs) (hn : zs.length ≤ 10000) (h0 : 0 < zs.length) (m : Nat) (hm : ys.length = m) (h0m : 0 < m) (hmn : m ≤ 100) (cs : Array Value) (hcs : cs.toList = flatA ys) :
    ∃ g k w1 g2 k2 w2, apaRun Try.prog (.slice (some ⟨w.heap.size, 0, none⟩) 0 0) (.slice a zs.length c) (w.alloc (.cells #[] 27)).drew = .ok (.slice (some ⟨g, 0, none⟩) zs.length k) w1 ∧ Below w.heap.size w w1 ∧
      apaRun Try.prog (.slice (some ⟨g, 0, none⟩) zs.length k) (.slice (some ⟨w1.heap.size, 0, none⟩) m m) (w1.alloc (.cells cs 27)) = .ok (.slice (some ⟨g2, 0, none⟩) (zs.length + m) k2) w2 ∧ Hid (OwnA w2 w.heap.size (.slice (some ⟨g2, 0, none⟩) (zs.length + m) k2) (zs ++ ys)) ∧ Hid (Below w.heap.size w w2) := by
  obtain ⟨_, hI⟩ := hI
  rcases hI with h | ⟨b, o, rfl, hb, hc⟩
  · omega
  · have B1 : Below w.heap.size w (w.alloc (.cells #[] 27)).drew := ((Below.refl w.heap.size w).alloc (Nat.le_refl _) (.cells #[] 27)).drew
    obtain ⟨g, k, w1, e1, o1, b1, _⟩ := app_acts w.heap.size (.slice (some ⟨w.heap.size, 0, none⟩) 0 0) [] zs (w.alloc (.cells #[] 27)).drew (OwnA.drew (OwnA.new w)) (by simp) ⟨b, o, none⟩ zs.length c rfl h0 (by simp; omega) (fun j u hu => acts_flat (hc.below B1 hb) j u hu)
    simp only [List.length_nil, Nat.zero_add, List.nil_append] at e1 o1
    obtain ⟨g2, k2, w2, e2, o2, b2⟩ := app_lit w.heap.size (.slice (some ⟨g, 0, none⟩) zs.length k) zs ys w1 o1 (by have := (B1.trans b1).size; omega) m hm h0m (by omega) cs hcs
    exact ⟨g, k, w1, g2, k2, w2, e1, B1.trans b1, e2, o2, (B1.trans b1).trans b2⟩
theorem pair_gen (zs ys : List A5) (w W : World) (b0 l0 : Nat) (a : Option Addr) (c : Nat) (hI : IsActs w a zs.length zs) (hn : zs.length ≤ 10000) (h0 : 0 < zs.length) (m : Nat) (hm : ys.length = m) (h0m : 0 < m) (hmn : m ≤ 100)
    (hO : OwnA W w.heap.size (.slice (some ⟨b0, 0, none⟩) 0 0) []) (hB : Below w.heap.size w W) (hL : ∀ j u, (flatA ys)[j]? = some u → W.cell? ((⟨l0, 0, none⟩ : Addr).add j) = some u) (hl : l0 < W.heap.size) (hne : l0 ≠ b0) :
    ∃ g k w1 g2 k2 w2, apaRun Try.prog (.slice (some ⟨b0, 0, none⟩) 0 0) (.slice a zs.length c) W = .ok (.slice (some ⟨g, 0, none⟩) zs.length k) w1 ∧
      apaRun Try.prog (.slice (some ⟨g, 0, none⟩) zs.length k) (.slice (some ⟨l0, 0, none⟩) m m) w1 = .ok (.slice (some ⟨g2, 0, none⟩) (zs.length + m) k2) w2 ∧ Hid (OwnA w2 w.heap.size (.slice (some ⟨g2, 0, none⟩) (zs.length + m) k2) (zs ++ ys)) ∧ Hid (Below w.heap.size w w2) := by
  obtain ⟨_, hI⟩ := hI
  rcases hI with h | ⟨b, o, rfl, hb, hc⟩
  · omega
  · obtain ⟨g, k, w1, e1, o1, b1, g1⟩ := app_acts w.heap.size (.slice (some ⟨b0, 0, none⟩) 0 0) [] zs W hO hB.size ⟨b, o, none⟩ zs.length c rfl h0 (by simp; omega) (fun j u hu => acts_flat (hc.below hB hb) j u hu)
    simp only [List.length_nil, Nat.zero_add, List.nil_append] at e1 o1
    have ad : ∀ j, ((⟨l0, 0, none⟩ : Addr).add j).block = l0 := fun j => by by_cases h : j = 0 <;> simp [Addr.add, h]
    obtain ⟨g2, k2, w2, e2, o2, b2, _⟩ := app_acts w.heap.size (.slice (some ⟨g, 0, none⟩) zs.length k) zs ys w1 o1 ((hB.trans b1).size) ⟨l0, 0, none⟩ m m hm h0m (by omega) (fun j u hu => (g1.cell_far _ (by rw [ad]; exact hl) (by rw [ad]; intro e; exact hne (by simpa [Value.ownBlock] using e))).trans (hL j u hu))
    exact ⟨g, k, w1, g2, k2, w2, e1, e2, o2, (hB.trans b1).trans b2⟩
theorem pair_two (zs ys : List A5) (w : World) (a : Option Addr) (c : Nat) (hI : IsActs w a zs.length zs) (hn : zs.length ≤ 10000) (h0 : 0 < zs.length) (m : Nat) (hm : ys.length = m) (h0m : 0 < m) (hmn : m ≤ 100) (cs : Array Value) (hcs : cs.toList = flatA ys) :
    ∃ g k w1 g2 k2 w2, apaRun Try.prog (.slice (some ⟨w.heap.size, 0, none⟩) 0 0) (.slice a zs.length c) ((w.alloc (.cells #[] 27)).alloc (.cells cs 27)).drew = .ok (.slice (some ⟨g, 0, none⟩) zs.length k) w1 ∧
      apaRun Try.prog (.slice (some ⟨g, 0, none⟩) zs.length k) (.slice (some ⟨w.heap.size + 1, 0, none⟩) m m) w1 = .ok (.slice (some ⟨g2, 0, none⟩) (zs.length + m) k2) w2 ∧ Hid (OwnA w2 w.heap.size (.slice (some ⟨g2, 0, none⟩) (zs.length + m) k2) (zs ++ ys)) ∧ Hid (Below w.heap.size w w2) :=
  pair_gen zs ys w _ w.heap.size (w.heap.size + 1) a c hI hn h0 m hm h0m hmn (OwnA.drew (World.ownsRow.alloc (OwnA.new w) _)) (((Below.refl w.heap.size w).alloc (Nat.le_refl _) (.cells #[] 27)).alloc (by simp) (.cells cs 27)).drew
    (fun j u hu => by have := cells_new (w.alloc (.cells #[] 27)) cs 27 j u (by rw [hcs]; exact hu); rw [World.size_alloc] at this; exact this) (by simp) (by omega)
theorem pair_three (zs ys : List A5) (w : World) (a : Option Addr) (c : Nat) (hI : IsActs w a zs.length zs) (hn : zs.length ≤ 10000) (h0 : 0 < zs.length) (m : Nat) (hm : ys.length = m) (h0m : 0 < m) (hmn : m ≤ 100) (cs : Array Value) (hcs : cs.toList = flatA ys) :
    ∃ g k w1 g2 k2 w2, apaRun Try.prog (.slice (some ⟨w.heap.size + 1, 0, none⟩) 0 0) (.slice a zs.length c) ((w.alloc (.cells cs 27)).alloc (.cells #[] 27)).drew = .ok (.slice (some ⟨g, 0, none⟩) zs.length k) w1 ∧
      apaRun Try.prog (.slice (some ⟨g, 0, none⟩) zs.length k) (.slice (some ⟨w.heap.size, 0, none⟩) m m) w1 = .ok (.slice (some ⟨g2, 0, none⟩) (zs.length + m) k2) w2 ∧ Hid (OwnA w2 w.heap.size (.slice (some ⟨g2, 0, none⟩) (zs.length + m) k2) (zs ++ ys)) ∧ Hid (Below w.heap.size w w2) := by
  have hB : Below w.heap.size w (w.alloc (.cells cs 27)) := (Below.refl w.heap.size w).alloc (Nat.le_refl _) (.cells cs 27)
  have hO := OwnA.new (w.alloc (.cells cs 27))
  rw [World.size_alloc] at hO
  exact pair_gen zs ys w _ (w.heap.size + 1) w.heap.size a c hI hn h0 m hm h0m hmn (OwnA.drew (hO.lower (by omega))) (hB.alloc (by simp) (.cells #[] 27)).drew
    (fun j u hu => by
      have h1 := cells_new w cs 27 j u (by rw [hcs]; exact hu)
      have ad : ((⟨w.heap.size, 0, none⟩ : Addr).add j).block = w.heap.size := by by_cases h : j = 0 <;> simp [Addr.add, h]
      exact (World.cell?_alloc_lt _ _ _ (by rw [ad]; simp)).trans h1) (by simp; omega) (by omega)
set_option maxHeartbeats 4000000 in
theorem walk_FnTidyNot (a0 : Option Addr) (len0 cap0 : Nat) (z0 : List Int) (a1 : Option Addr) (len1 cap1 : Nat) (z1 : List Int) (w : World) (w0 : IsRow .u8 w a0 len0 cap0 z0) (_w1 : IsRow .u8 w a1 len1 cap1 z1) :
    Calls Try.prog 5 #[.slice a0 len0 cap0, .slice a1 len1 cap1] w fun e w' => e = .returned (.bool true) ∧ Below w.heap.size w w' := by
  by_cases hbig : (1048576 : Int) < (len0 : Int)
  · go_enter Try.func5, Try.ntmps5
    go_wp2
    go_ret
    exact ⟨rfl, Below.refl _ _⟩
  by_cases hbig' : (1048576 : Int) < (len1 : Int)
  · go_enter Try.func5, Try.ntmps5
    go_wp2
    go_ret
    exact ⟨rfl, Below.refl _ _⟩
  go_enter Try.func5, Try.ntmps5
  go_wp2_with (fail)
  refine (drawTidy a0 len0 cap0 z0 _ w0).mono ?_
  rintro e v1 ⟨a, c, xs, rfl, hac, hI, hT, hxl, hS, B1⟩
  clear w0
  go_wp2_with (fail)
  refine (implTidyV a xs.length c xs _ hI (by omega) hS).mono ?_
  rintro e v2 ⟨rfl, B2⟩
  go_wp2_with (fail)
  refine (specTidyV a xs.length c xs _ (hI.below B2) (by omega)).mono ?_
  rintro e v3 ⟨rfl, B3⟩
  have B13 := B2.trans (B3.mono B2.size)
  have hI := hI.below B13
  have Bw := B1.trans (B13.mono B1.size)
  have s1 := B1.size
  have s13 := B13.size
  obtain ⟨g, hg, hg2⟩ : ∃ g : Nat, (len1 : Int).tmod 2 = (g : Int) ∧ g < 2 := ⟨len1 % 2, by rw [Int.tmod_eq_emod_of_nonneg (by omega)]; omega, by omega⟩
  have hg' : (len1 : Int) % 2 = (g : Int) := by rw [← hg, Int.tmod_eq_emod_of_nonneg (by omega)]
  obtain ⟨W3, hW3⟩ : ∃ W3, W3 = ((v3.alloc (.cells #[.int .i64 2, .int .i64 g, .int .i64 g, .int .i64 0, .int .i64 5] 27)).alloc (.cells #[.int .i64 3, .int .i64 g, .int .i64 0, .int .i64 0, .int .i64 0] 27)).alloc (.cells #[.int .i64 5, .int .i64 g, .int .i64 0, .int .i64 0, .int .i64 0] 27) := ⟨_, rfl⟩
  have BW3 : Below v3.heap.size v3 W3 := by rw [hW3]; exact (((Below.refl _ _).alloc (Nat.le_refl _) _).alloc (by simp) _).alloc (by simp; omega) _
  have sW3 : W3.heap.size = v3.heap.size + 1 + 1 + 1 := by rw [hW3]; simp
  have hcw : Hid (C5 W3 v3.heap.size (.int .i64 2) (.int .i64 g) (.int .i64 g) (.int .i64 0) (.int .i64 5)) := by rw [hW3]; exact ((c5_new v3 _ _ _ _ _ _ _ rfl).alloc _).alloc _
  have hcr : Hid (C5 W3 (v3.heap.size + 1) (.int .i64 3) (.int .i64 g) (.int .i64 0) (.int .i64 0) (.int .i64 0)) := by rw [hW3]; exact (c5_new _ _ _ _ _ _ _ _ (by simp)).alloc _
  have hcf : Hid (C5 W3 (v3.heap.size + 1 + 1) (.int .i64 5) (.int .i64 g) (.int .i64 0) (.int .i64 0) (.int .i64 0)) := by rw [hW3]; exact c5_new _ _ _ _ _ _ _ _ (by simp)
  obtain ⟨g1, k1, w4, hA1, hO4, B4⟩ := app_all xs W3 a c (hI.below BW3) (by omega)
  have s4 := B4.size
  obtain ⟨g2, k2, w5, hA2, hO5, B5⟩ := app_lit W3.heap.size (.slice (some ⟨g1, 0, none⟩) xs.length k1) xs both5 w4 hO4 s4 2 rfl (by omega) (by omega) #[.int .i64 5, .int .i64 0, .int .i64 0, .int .i64 0, .int .i64 0, .int .i64 5, .int .i64 1, .int .i64 0, .int .i64 0, .int .i64 0] rfl
  have s5 := B5.size
  obtain ⟨zs, hzs⟩ : ∃ zs, zs = xs ++ both5 := ⟨_, rfl⟩
  have hzl : xs.length + 2 = zs.length := by rw [hzs, List.length_append]; rfl
  rw [← hzs, hzl] at hO5
  have hzl62 : zs.length ≤ 62 := by omega
  have hzl2 : 2 ≤ zs.length := by omega
  obtain ⟨a5, c5, e5, hac5, hI5, _⟩ := hO5.acts
  cases e5
  have B35 : Below W3.heap.size W3 w5 := B4.trans B5
  have hcw5 := hidA (hcw.out.adv (rb := W3.heap.size) (Adv.of_below B35 (Nat.le_refl _)) (by omega))
  have hcr5 := hidA (hcr.out.adv (rb := W3.heap.size) (Adv.of_below B35 (Nat.le_refl _)) (by omega))
  have hcf5 := hidA (hcf.out.adv (rb := W3.heap.size) (Adv.of_below B35 (Nat.le_refl _)) (by omega))
  have HW5 := hidA (show Below w.heap.size w w5 from Bw.trans ((BW3.mono Bw.size).trans (B35.mono (by omega))))
  have HI5 := hidA hI5
  have HSz : Hid (∀ x, x ∈ zs → SmA 2 x) := fun x hx => by
    rw [hzs, List.mem_append] at hx
    rcases hx with hx | hx
    · exact hS x hx
    · simp only [both5, List.mem_cons, List.not_mem_nil, or_false] at hx
      rcases hx with rfl | rfl
      · refine ⟨⟨?_, ?_⟩, ⟨?_, ?_⟩, ⟨?_, ?_⟩, ⟨?_, ?_⟩, ⟨?_, ?_⟩⟩ <;> (dsimp only; omega)
      · refine ⟨⟨?_, ?_⟩, ⟨?_, ?_⟩, ⟨?_, ?_⟩, ⟨?_, ?_⟩, ⟨?_, ?_⟩⟩ <;> (dsimp only; omega)
  have HSbad : Hid (∀ x, x ∈ zs ++ [(2, (g : Int), (g : Int), 0, 5), (3, (g : Int), 0, 0, 0)] → SmA 2 x) := fun x hx => by
    rw [List.mem_append] at hx
    rcases hx with hx | hx
    · exact HSz.out x hx
    · simp only [List.mem_cons, List.not_mem_nil, or_false] at hx
      rcases hx with rfl | rfl
      · refine ⟨⟨?_, ?_⟩, ⟨?_, ?_⟩, ⟨?_, ?_⟩, ⟨?_, ?_⟩, ⟨?_, ?_⟩⟩ <;> (dsimp only; omega)
      · refine ⟨⟨?_, ?_⟩, ⟨?_, ?_⟩, ⟨?_, ?_⟩, ⟨?_, ?_⟩, ⟨?_, ?_⟩⟩ <;> (dsimp only; omega)
  have HSgood : Hid (∀ x, x ∈ zs ++ [(2, (g : Int), (g : Int), 0, 5), (5, (g : Int), 0, 0, 0), (3, (g : Int), 0, 0, 0)] → SmA 2 x) := fun x hx => by
    rw [List.mem_append] at hx
    rcases hx with hx | hx
    · exact HSz.out x hx
    · simp only [List.mem_cons, List.not_mem_nil, or_false] at hx
      rcases hx with rfl | rfl | rfl
      · refine ⟨⟨?_, ?_⟩, ⟨?_, ?_⟩, ⟨?_, ?_⟩, ⟨?_, ?_⟩, ⟨?_, ?_⟩⟩ <;> (dsimp only; omega)
      · refine ⟨⟨?_, ?_⟩, ⟨?_, ?_⟩, ⟨?_, ?_⟩, ⟨?_, ?_⟩, ⟨?_, ?_⟩⟩ <;> (dsimp only; omega)
      · refine ⟨⟨?_, ?_⟩, ⟨?_, ?_⟩, ⟨?_, ?_⟩, ⟨?_, ?_⟩, ⟨?_, ?_⟩⟩ <;> (dsimp only; omega)
  have Hbad := hidA (show tidyA (zs ++ [(2, (g : Int), (g : Int), 0, 5), (3, (g : Int), 0, 0, 0)]) = false by
    rw [hzs, tidyA_both xs _ (g : Int) (by omega) (by simp), tidyA_bad (g : Int) (g : Int) (by omega), Bool.and_false])
  have Hgood := hidA (show tidyA (zs ++ [(2, (g : Int), (g : Int), 0, 5), (5, (g : Int), 0, 0, 0), (3, (g : Int), 0, 0, 0)]) = tidyA zs by
    rw [hzs, tidyA_both xs _ (g : Int) (by omega) (by simp), tidyA_good (g : Int) (g : Int), Bool.and_true])
  have l5 : v3.heap.size + 1 + 1 < w5.heap.size := by omega
  clear hO4 hO5 hI5 hI hT hzs BW3 B4 B5 B35 B1 B2 B3 B13 Bw hS hcw hcr hcf hac5
  rw [sW3] at hA1
  replace hA2 := hidA hA2
  replace hzl := hidA hzl
  clear s4 s5
  go_wp2
  rw [← hW3, hA1, nextAp_ok]
  clear hW3 hA1 sW3
  go_wp2
  rw [hA2.out, nextAp_ok, hzl.out]
  clear hA2
  go_wp2
  have l50 : v3.heap.size < w5.heap.size := by omega
  have l51 : v3.heap.size + 1 < w5.heap.size := by omega
  go_cut [12] (fun s12 wx => ∃ g4 k4, s12 = .slice (some ⟨g4, 0, none⟩) (zs.length + 2) k4 ∧ Hid (OwnA wx w5.heap.size (.slice (some ⟨g4, 0, none⟩) (zs.length + 2) k4) (zs ++ [(2, (g : Int), (g : Int), 0, 5), (3, (g : Int), 0, 0, 0)])) ∧ Hid (Below w5.heap.size w5 wx))
  case first =>
    obtain ⟨gA, kA, wA, gA2, kA2, wA2, hE1, bA, hE2, hOA, hBA⟩ := pair_one zs [(2, (g : Int), (g : Int), 0, 5), (3, (g : Int), 0, 0, 0)] w5 (some ⟨g2, 0, none⟩) k2 HI5.out (by omega) (by omega) 2 rfl (by omega) (by omega) #[.int .i64 2, .int .i64 g, .int .i64 g, .int .i64 0, .int .i64 5, .int .i64 3, .int .i64 g, .int .i64 0, .int .i64 0, .int .i64 0] rfl
    obtain ⟨x0, x1, x2, x3, x4, _⟩ := hcw5.out
    obtain ⟨y0, y1, y2, y3, y4, _⟩ := hcr5.out
    have HA := Adv.of_below bA (Nat.le_refl _) (rb := w5.heap.size)
    obtain ⟨p0, p1, p2, p3, p4, _⟩ := hcw5.out.adv HA (by omega)
    obtain ⟨q0, q1, q2, q3, q4, _⟩ := hcr5.out.adv HA (by omega)
    have sA := bA.size
    clear bA HA
    obtain ⟨gB, kB, wB, gB2, kB2, wB2, hF1, hF2, hOB, hBB⟩ := pair_two zs [(2, (g : Int), (g : Int), 0, 5), (3, (g : Int), 0, 0, 0)] w5 (some ⟨g2, 0, none⟩) k2 HI5.out (by omega) (by omega) 2 rfl (by omega) (by omega) #[.int .i64 2, .int .i64 g, .int .i64 g, .int .i64 0, .int .i64 5, .int .i64 3, .int .i64 g, .int .i64 0, .int .i64 0, .int .i64 0] rfl
    obtain ⟨gC, kC, wC, gC2, kC2, wC2, hG1, hG2, hOC, hBC⟩ := pair_three zs [(2, (g : Int), (g : Int), 0, 5), (3, (g : Int), 0, 0, 0)] w5 (some ⟨g2, 0, none⟩) k2 HI5.out (by omega) (by omega) 2 rfl (by omega) (by omega) #[.int .i64 2, .int .i64 g, .int .i64 g, .int .i64 0, .int .i64 5, .int .i64 3, .int .i64 g, .int .i64 0, .int .i64 0, .int .i64 0] rfl
    go_region_with (fail)
    all_goals go_wp2_with fail
    all_goals go_meet
    all_goals first | exact ⟨_, _, rfl, hOA, hBA⟩ | exact ⟨_, _, rfl, hOB, hBB⟩ | exact ⟨_, _, rfl, hOC, hBC⟩
  case rest =>
    obtain ⟨gb, kb, rfl, hOb, hBb⟩ := hcut
    have HAb := Adv.of_below hBb.out (Nat.le_refl _) (rb := w5.heap.size)
    have hcw7 := hidA (hcw5.out.adv HAb (by omega))
    have hcr7 := hidA (hcr5.out.adv HAb (by omega))
    have hcf7 := hidA (hcf5.out.adv HAb (by omega))
    have HI7 := hidA (HI5.out.below hBb.out)
    have HW7 := hidA (HW5.out.trans (hBb.out.mono HW5.out.size))
    have s7 := hBb.out.size
    clear HAb HI5 HW5 hcw5 hcr5 hcf5 hBb
    generalize wc = w7 at *
    go_wp2
    have m70 : v3.heap.size < w7.heap.size := by omega
    have m71 : v3.heap.size + 1 < w7.heap.size := by omega
    have m72 : v3.heap.size + 1 + 1 < w7.heap.size := by omega
    clear l50 l51 l5
    go_cut [13] (fun s13 wx => ∃ g4 k4, s13 = .slice (some ⟨g4, 0, none⟩) (zs.length + 3) k4 ∧ Hid (OwnA wx w7.heap.size (.slice (some ⟨g4, 0, none⟩) (zs.length + 3) k4) (zs ++ [(2, (g : Int), (g : Int), 0, 5), (5, (g : Int), 0, 0, 0), (3, (g : Int), 0, 0, 0)])) ∧ Hid (Below w7.heap.size w7 wx))
    case first =>
      obtain ⟨gA, kA, wA, gA2, kA2, wA2, hE1, bA, hE2, hOA, hBA⟩ := pair_one zs [(2, (g : Int), (g : Int), 0, 5), (5, (g : Int), 0, 0, 0), (3, (g : Int), 0, 0, 0)] w7 (some ⟨g2, 0, none⟩) k2 HI7.out (by omega) (by omega) 3 rfl (by omega) (by omega) #[.int .i64 2, .int .i64 g, .int .i64 g, .int .i64 0, .int .i64 5, .int .i64 5, .int .i64 g, .int .i64 0, .int .i64 0, .int .i64 0, .int .i64 3, .int .i64 g, .int .i64 0, .int .i64 0, .int .i64 0] rfl
      obtain ⟨x0, x1, x2, x3, x4, _⟩ := hcw7.out
      obtain ⟨y0, y1, y2, y3, y4, _⟩ := hcr7.out
      obtain ⟨z0, z1, z2, z3, z4, _⟩ := hcf7.out
      have HA := Adv.of_below bA (Nat.le_refl _) (rb := w7.heap.size)
      obtain ⟨p0, p1, p2, p3, p4, _⟩ := hcw7.out.adv HA (by omega)
      obtain ⟨q0, q1, q2, q3, q4, _⟩ := hcr7.out.adv HA (by omega)
      obtain ⟨r0, r1, r2, r3, r4, _⟩ := hcf7.out.adv HA (by omega)
      have sA := bA.size
      clear bA HA
      obtain ⟨gB, kB, wB, gB2, kB2, wB2, hF1, hF2, hOB, hBB⟩ := pair_two zs [(2, (g : Int), (g : Int), 0, 5), (5, (g : Int), 0, 0, 0), (3, (g : Int), 0, 0, 0)] w7 (some ⟨g2, 0, none⟩) k2 HI7.out (by omega) (by omega) 3 rfl (by omega) (by omega) #[.int .i64 2, .int .i64 g, .int .i64 g, .int .i64 0, .int .i64 5, .int .i64 5, .int .i64 g, .int .i64 0, .int .i64 0, .int .i64 0, .int .i64 3, .int .i64 g, .int .i64 0, .int .i64 0, .int .i64 0] rfl
      obtain ⟨gC, kC, wC, gC2, kC2, wC2, hG1, hG2, hOC, hBC⟩ := pair_three zs [(2, (g : Int), (g : Int), 0, 5), (5, (g : Int), 0, 0, 0), (3, (g : Int), 0, 0, 0)] w7 (some ⟨g2, 0, none⟩) k2 HI7.out (by omega) (by omega) 3 rfl (by omega) (by omega) #[.int .i64 2, .int .i64 g, .int .i64 g, .int .i64 0, .int .i64 5, .int .i64 5, .int .i64 g, .int .i64 0, .int .i64 0, .int .i64 0, .int .i64 3, .int .i64 g, .int .i64 0, .int .i64 0, .int .i64 0] rfl
      go_region_with (fail)
      all_goals go_wp2_with fail
      all_goals go_meet
      all_goals first | exact ⟨_, _, rfl, hOA, hBA⟩ | exact ⟨_, _, rfl, hOB, hBB⟩ | exact ⟨_, _, rfl, hOC, hBC⟩
    case rest =>
      obtain ⟨gg, kg, rfl, hOg, hBg⟩ := hcut
      have HI9 := hidA (HI7.out.below hBg.out)
      have HW9 := hidA (HW7.out.trans (hBg.out.mono HW7.out.size))
      have hOb9 := hidA (hOb.out.below hBg.out)
      obtain ⟨a8, c8, e8, _, hI8, _⟩ := hOb9.out.acts
      obtain ⟨a9, c9, e9, _, hI9, _⟩ := hOg.out.acts
      have HI8 := hidA (show IsActs wc (some ⟨gb, 0, none⟩) (zs.length + 2) (zs ++ [(2, (g : Int), (g : Int), 0, 5), (3, (g : Int), 0, 0, 0)]) by
        have h := Value.slice.inj e8
        rw [h.1, h.2.1]
        exact hI8)
      have HJ9 := hidA (show IsActs wc (some ⟨gg, 0, none⟩) (zs.length + 3) (zs ++ [(2, (g : Int), (g : Int), 0, 5), (5, (g : Int), 0, 0, 0), (3, (g : Int), 0, 0, 0)]) by
        have h := Value.slice.inj e9
        rw [h.1, h.2.1]
        exact hI9)
      clear HI7 HW7 hcw7 hcr7 hcf7 hBg hOb hOb9 hOg e8 e9 hI8 hI9
      generalize wc = w9 at *
      go_wp2_with (fail)
      refine (implTidyV _ _ _ _ _ HI8.out (by omega) HSbad.out).mono ?_
      rintro e w10 ⟨rfl, B10⟩
      rw [Hbad.out]
      have HJ10 := hidA (HJ9.out.below B10)
      have HI10 := hidA (HI9.out.below B10)
      have HW10 := hidA (HW9.out.trans (B10.mono HW9.out.size))
      clear HJ9 HI9 HW9 HI8 B10
      go_wp2_with (fail)
      refine (implTidyV _ _ _ _ _ HJ10.out (by omega) HSgood.out).mono ?_
      rintro e w11 ⟨rfl, B11⟩
      rw [Hgood.out]
      have HI11 := hidA (HI10.out.below B11)
      have HW11 := hidA (HW10.out.trans (B11.mono HW10.out.size))
      clear HJ10 HI10 HW10 B11
      go_wp2_with (fail)
      refine (implTidyV _ _ _ _ _ HI11.out (by omega) HSz.out).mono ?_
      rintro e w12 ⟨rfl, B12⟩
      have HW12 := hidA (HW11.out.trans (B12.mono HW11.out.size))
      clear HI11 HW11 B12
      go_wp2
      go_ret
      exact ⟨by simp, HW12.out⟩
end Go.Proofs.Ytdnaiifibpbobaa
