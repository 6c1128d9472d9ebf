/-
  The walk of the law FnHostOut.
-/
import Derived.Test.YtjegndgdpmlbaaaKOHL
import Derived.Test.YtjegndgdpmlbaaaKOHostDraw7
import Derived.Test.YtjegndgdpmlbaaaKOH
import Derived.Test.YtjegndgdpmlbaaaKOY
import Derived.Test.YtjegndgdpmlbaaaKOHD
import Derived.Test.YtjegndgdpmlbaaaKOB
import Derived.Test.YtjegndgdpmlbaaaKOPC
import Derived.Test.YtjegndgdpmlbaaaKOHostOk1
import Derived.Test.YtjegndgdpmlbaaaKOSpecCopy0
import Derived.Test.YtjegndgdpmlbaaaKOHE
import Derived.Test.YtjegndgdpmlbaaaKOHostOut0
set_option linter.unusedSimpArgs false
namespace Go.Proofs.Ytjegndgdpmlbaaa
open Go.RowKit

/-- All guests of a host, appended to nothing. -/
theorem appG {W : World} {N b T o n cg lo hi : Nat} {gs : List Gst} (hE : Emp W N 39 b) (hN : N ≤ W.heap.size) (hG : IsGuests W lo hi (some ⟨T, o, none⟩) n gs) (h1 : 1 ≤ n) (h2 : n ≤ 2) :
    ∃ X c' w1, appRun Try.prog 24 24 (.slice (some ⟨b, 0, none⟩) 0 0) (.slice (some ⟨T, o, none⟩) n cg) W = .ok (.slice (some ⟨X, 0, none⟩) n c') w1 ∧ Hid ((∀ i, i < n * 3 → w1.cell? ⟨X, i, none⟩ = W.cell? ⟨T, o + i, none⟩) ∧ Room w1 X (n * 3) ∧ (X = b ∨ X = W.heap.size) ∧ X < w1.heap.size ∧ W.grownBy w1 (some b)) := by
  obtain ⟨hl, hd⟩ := hG
  have hG' : ∀ i, i < n → GuestAt W lo hi T (o + i * 3) (gs.getD i noG) := by
    rcases hd with h0 | ⟨T', o', e, _, _, hh⟩
    · omega
    · cases e; exact hh
  have each : ∀ i, i < n * 3 → ∃ u : Value, W.cell? ⟨T, o + i, none⟩ = some u ∧ u.oneCell' = true := fun i hi => by
    obtain ⟨vm, vd, vs, c1, c2, c3, ⟨a1, k1, rfl, _⟩, ⟨a2, k2, rfl, _⟩, a3, k3, rfl, _⟩ := hG' (i / 3) (by omega)
    rcases (by omega : i % 3 = 0 ∨ i % 3 = 1 ∨ i % 3 = 2) with e | e | e
    · rw [show o + i / 3 * 3 = o + i by omega] at c1; exact ⟨_, c1, rfl⟩
    · rw [show o + i / 3 * 3 + 1 = o + i by omega] at c2; exact ⟨_, c2, rfl⟩
    · rw [show o + i / 3 * 3 + 2 = o + i by omega] at c3; exact ⟨_, c3, rfl⟩
  obtain ⟨f, hf⟩ := Go.Deep.choose_lt (α := Value) each
  have hlen : ((List.range (n * 3)).map f).length = n * 3 := by simp
  have hat : ∀ j u, ((List.range (n * 3)).map f)[j]? = some u → j < n * 3 ∧ u = f j := fun j u hj => by
    have hjl : j < n * 3 := by rw [← hlen]; exact (List.getElem?_eq_some_iff.1 hj).1
    rw [List.getElem?_map, List.getElem?_range hjl] at hj
    exact ⟨hjl, by cases hj; rfl⟩
  obtain ⟨i0, hi0, hz0, hz1, hz2⟩ := info_parts infoG
  obtain ⟨X, c', w1, hrun, hown, hgrow, hloc, hlt⟩ := run_append_lies (P := Try.prog) W 24 24 N 39 i0 _ 3 72 Try.underlying24 hi0 hz0 hz1 hz2 rfl (by decide) _ 0 [] (hE.own 3) ⟨T, o, none⟩ n cg ((List.range (n * 3)).map f) hlen (fun j u hj => by
    obtain ⟨hjl, rfl⟩ := hat j u hj
    rw [adN]; exact (hf j hjl).1) (fun u hu => by
    obtain ⟨i, hi, rfl⟩ := List.mem_map.1 hu
    exact (hf i (List.mem_range.1 hi)).2) (by omega) (by simp [maxLen]; omega) (by omega) hN _ rfl
  rw [Nat.zero_add] at hrun
  rw [Nat.zero_add, List.nil_append] at hown
  refine ⟨X, c', w1, hrun, fun i hi => ?_, own_room hown, ?_, hlt, hgrow⟩
  · have := own_range hown i (f i) (by simp [hi])
    rw [Nat.zero_add] at this
    rw [this, (hf i hi).1]
  · rcases hloc with e | e
    · left; simpa [Value.ownBlock] using e.symm
    · exact Or.inr e

/-- A host whose guests' row is copied, and one guest of which has no shades. -/
theorem forg_in {W : World} {lo hi hi' T o X n cX g S lf cf cg : Nat} {af : Option Addr} {h : Hst} (k : HostIn W lo hi (.slice af lf cf) (.slice (some ⟨T, o, none⟩) n cg) h) (hlf : h.frames.length = lf) (hn : h.guests.length = n) (hhi : hi ≤ hi') (hX1 : lo ≤ X) (hX2 : X < hi') (hS1 : lo ≤ S) (hS2 : S < hi') (hg : g < n) (hc : ∀ i, i < n * 3 → i ≠ g * 3 + 2 → W.cell? ⟨X, i, none⟩ = W.cell? ⟨T, o + i, none⟩) (hs : W.cell? ⟨X, g * 3 + 2, none⟩ = some (.slice (some ⟨S, 0, none⟩) 6 6)) (hQ : Quads W S 0 (List.replicate 6 noS)) :
    HostIn W lo hi' (.slice af lf cf) (.slice (some ⟨X, 0, none⟩) n cX) (forgP h g) := by
  have k' := k.wide (Nat.le_refl _) hhi
  obtain ⟨hF, hl, hd⟩ := k'.parts
  subst hlf
  subst hn
  have hG : ∀ i, i < h.guests.length → GuestAt W lo hi' T (o + i * 3) (h.guests.getD i noG) := by
    rcases hd with h0 | ⟨T', o', e, _, _, hh⟩
    · omega
    · cases e; exact hh
  refine ⟨⟨af, cf, rfl, hF⟩, some ⟨X, 0, none⟩, cX, by rw [forg_len], rfl, Or.inr ⟨X, 0, rfl, hX1, hX2, fun i hi => ?_⟩⟩
  rw [forg_len] at hi
  obtain ⟨vm, vd, vs, c1, c2, c3, h1, h2, h3⟩ := hG i hi
  have e1 := hc (i * 3) (by omega) (by omega)
  have e2 := hc (i * 3 + 1) (by omega) (by omega)
  rw [Nat.zero_add]
  by_cases e : i = g
  · subst e
    have eg : (forgP h i).guests.getD i noG = { gOf h i with shades := noSs } := gOf_set_same hi
    rw [eg]
    exact ⟨vm, vd, _, e1.trans c1, e2.trans (by rw [← Nat.add_assoc]; exact c2), hs, h1, h2, ⟨some ⟨S, 0, none⟩, 6, rfl, rfl, Or.inr ⟨S, 0, rfl, hS1, hS2, hQ⟩⟩⟩
  · have eg : (forgP h g).guests.getD i noG = h.guests.getD i noG := gOf_set_ne e
    have e3 := hc (i * 3 + 2) (by omega) (by omega)
    rw [eg]
    exact ⟨vm, vd, vs, e1.trans c1, e2.trans (by rw [← Nat.add_assoc]; exact c2), e3.trans (by rw [← Nat.add_assoc]; exact c3), h1, h2, h3⟩

attribute [local go_sem ↓] Go.wp_at_zero Go.wp_at_succ exec_app
attribute [local go_sem] bigNext_ok bigSkip_ok
set_option maxRecDepth 100000 in
set_option maxHeartbeats 8000000 in
theorem walk_FnHostOut (a0 : Option Addr) (len0 cap0 : Nat) (z0 : List Int) (w : World) (w0 : IsRow .u8 w a0 len0 cap0 z0) :
    Calls Try.prog 7 #[.slice a0 len0 cap0] w fun e w' => e = .returned (.bool true) ∧ Below w.heap.size w w' := by
  by_cases hbig : (1048576 : Int) < (len0 : Int)
  · go_enter Try.func7, Try.ntmps7
    go_wp2
    go_ret
    exact ⟨rfl, Below.refl _ _⟩
  have hdr := drawSee a0 len0 cap0 z0 w w0
  clear w0
  go_enter Try.func7, Try.ntmps7
  go_wp2_with (fail)
  refine hdr.mono ?_
  rintro e v1 ⟨vf, vg, h, G, rfl, hd, _, B1⟩
  clear hdr
  obtain ⟨hI, hS, wf, hg1, hg4⟩ := hd
  have hI' := hI
  obtain ⟨⟨af, cf, rfl, _⟩, ag, cg, rfl, _⟩ := hI'
  obtain ⟨lf, hlf⟩ : ∃ lf, h.frames.length = lf := ⟨_, rfl⟩
  obtain ⟨n, hn⟩ : ∃ n, h.guests.length = n := ⟨_, rfl⟩
  rw [hlf, hn] at hI
  obtain ⟨W1, hW1⟩ : ∃ W1, W1 = v1.alloc (.cells #[.slice af lf cf, .slice ag n cg, .int .i64 h.hand] 26) := ⟨_, rfl⟩
  have hv := HV.new hI (Nat.le_refl _) 26
  rw [← hW1] at hv
  have C1 : Below v1.heap.size v1 W1 := by rw [hW1]; exact (Below.refl _ _).alloc (Nat.le_refl _) _
  have HB := hidE (B1.trans (C1.mono B1.size))
  obtain ⟨b, hb⟩ : ∃ b, b = v1.heap.size := ⟨_, rfl⟩
  rw [← hb] at hv
  have him := implHostSee _ _ af ag lf cf n cg h G W1 hv.2.2.1 hv.2.2.2 wf
  rw [hlf, hn]
  clear C1 B1 hI
  go_wp2_with (fail)
  rw [← hW1, ← hb]
  clear hW1 hb
  refine him.mono ?_
  rintro e v2 ⟨al, cl, rfl, hO, B2⟩
  clear him
  have hJ := hO.mem
  have hv2 := hv.below B2
  have HB2 := hidE (HB.out.trans (B2.mono HB.out.size))
  clear hv B2 HB hO
  have hsp := specHostSee _ _ af ag lf cf n cg h G v2 hv2.2.2.1 hlf hn hv2.2.2.2 hS
  obtain ⟨⟨q0, q1, q2⟩, lb, _⟩ := id hv2
  obtain ⟨hl6, hl4⟩ := see_small h G
  go_wp2_with (fail)
  refine hsp.mono ?_
  rintro e v3 ⟨a3, c3, rfl, hO3, B3⟩
  clear hsp
  have hJ3 := hO3.mem
  have hv3' := hidE (show v2.heap.size ≤ v3.heap.size from B3.size)
  have hJ' := hJ.same (below_sameIn B3 (Nat.le_refl _))
  have hv3 := hv2.below B3
  have HB3 := hidE (HB2.out.trans (B3.mono HB2.out.size))
  have heq := lkMem_same _ _ _ _ al a3 (seeH h G).length cl c3 (seeH h G) v3 hJ' hJ3 B3.size (Nat.le_refl _) (by omega) (fun i hi => by have := hl4 i hi; omega)
  clear hv2 B3 HB2 hO3 q0 q1 q2 lb hJ hJ3
  go_wp2_with (fail)
  refine heq.mono ?_
  rintro e v4 ⟨rfl, D4⟩
  clear heq
  have hv4 := hv3.below D4
  have HB4 := hidE (HB3.out.trans (D4.mono HB3.out.size))
  have hJ4 := hJ'.same (below_sameIn D4 hv3'.out)
  have hs4 := hidE (show v2.heap.size ≤ v4.heap.size from Nat.le_trans hv3'.out D4.size)
  clear hv3 HB3 hJ' D4 hv3'
  have hsp := hostOk_core _ _ af ag lf cf n cg h v4 hlf hv4.2.2.1.parts.1 hn hv4.2.2.1.parts.2 hv4.2.2.2 hS
  obtain ⟨⟨q0, q1, q2⟩, lb, _⟩ := id hv4
  go_wp2_with (fail)
  refine hsp.mono ?_
  rintro e v5 ⟨rfl, B5⟩
  clear hsp q0 q1 q2 lb
  have hJ5 := hJ4.same (below_sameIn B5 hs4.out)
  have hv5 := hv4.below B5
  have HB5 := hidE (HB4.out.trans (B5.mono HB4.out.size))
  have hs5 := hidE (show v2.heap.size ≤ v5.heap.size from Nat.le_trans hs4.out B5.size)
  clear hv4 HB4 B5 hJ4 hs4
  obtain ⟨ok, hok⟩ : ∃ ok, okHost h = ok := ⟨_, rfl⟩
  rw [hok]
  cases ok
  · have hsp := specHostSee _ _ af ag lf cf n cg h G v5 hv5.2.2.1 hlf hn hv5.2.2.2 hS
    obtain ⟨⟨q0, q1, q2⟩, lb, _⟩ := id hv5
    go_wp2_with (fail)
    refine hsp.mono ?_
    rintro e v7 ⟨a7, c7, rfl, hO7, B7⟩
    clear hsp
    have hJ7 := hO7.mem
    have hJ' := hJ5.same (below_sameIn B7 hs5.out)
    have HB7 := hidE (HB5.out.trans (B7.mono HB5.out.size))
    have heq := lkMem_same _ _ _ _ al a7 (seeH h G).length cl c7 (seeH h G) v7 hJ' hJ7 (Nat.le_trans hs5.out B7.size) (Nat.le_refl _) (by omega) (fun i hi => by have := hl4 i hi; omega)
    clear B7 HB5 hO7 q0 q1 q2 lb hJ5 hJ7 hv5
    go_wp2_with (fail)
    refine heq.mono ?_
    rintro e v8 ⟨rfl, B8⟩
    clear heq
    have HB8 := hidE (HB7.out.trans (B8.mono HB7.out.size))
    clear B8
    go_wp2
    go_ret
    exact ⟨rfl, HB8.out⟩
  · have kk := okHost_of hok
    have hn2 : n ≤ 2 := by have := kk.n2; omega
    by_cases hG : 0 ≤ G ∧ G < (n : Int)
    · obtain ⟨g, rfl⟩ : ∃ g : Nat, G = g := ⟨G.toNat, by omega⟩
      have hgl : g < n := by omega
      obtain ⟨⟨q0, q1, q2⟩, lb, hI5, hb5⟩ := id hv5
      obtain ⟨T, o, _, _, _, rfl, hTb, _, _, _, _, _⟩ := host_map hI5 kk hn hgl (show 0 < 6 by omega)
      have hT5 : T < v5.heap.size := Nat.lt_of_lt_of_le hTb hb5
      have hlt : ((g : Int) < (n : Int)) := by omega
      have hge : ¬ ((n : Int) ≤ (g : Int)) := by omega
      have hng : ¬ ((g : Int) < 0) := by omega
      obtain ⟨W6, hW6⟩ : ∃ W6, W6 = (v5.alloc (.cells #[.slice af lf cf, .slice (some ⟨T, o, none⟩) n cg, .int .i64 h.hand] 26)).alloc (.cells #[] 39) := ⟨_, rfl⟩
      have B6 : Below v5.heap.size v5 W6 := by rw [hW6]; exact ((Below.refl _ _).alloc (Nat.le_refl _) _).alloc (by simp) _
      have s6 : W6.heap.size = v5.heap.size + 2 := by rw [hW6]; simp
      have x6 : W6.cell? ⟨v5.heap.size, 0, none⟩ = some (.slice af lf cf) ∧ W6.cell? ⟨v5.heap.size, 1, none⟩ = some (.slice (some ⟨T, o, none⟩) n cg) ∧ W6.cell? ⟨v5.heap.size, 2, none⟩ = some (.int .i64 h.hand) := by rw [hW6]; simp
      have E6 : Emp W6 (v5.heap.size + 1) 39 (v5.heap.size + 1) := by rw [hW6]; have := emp_new (N := v5.heap.size + 1) (v5.alloc (.cells #[.slice af lf cf, .slice (some ⟨T, o, none⟩) n cg, .int .i64 h.hand] 26)) 39 (by simp); simpa using this
      obtain ⟨X, cX, W7, hrun, H7⟩ := appG (cg := cg) E6 (by omega) ((hI5.same (below_sameIn B6 hb5)).parts.2) (by omega) hn2
      rw [hW6] at hrun
      obtain ⟨k7, R7, hX7, lX7, G7⟩ := H7.out
      have B7 : Below (v5.heap.size + 1) W6 W7 := grown_below G7 (Nat.le_refl _) (by omega)
      have x7 := cells3 (B7.mono (Nat.le_refl _)) (b := v5.heap.size) (by omega) x6
      obtain ⟨y0, y1, y2⟩ := x7
      obtain ⟨⟨r7, er7⟩, fr7⟩ := R7 (g * 3 + 2) (by omega)
      have nX : X ≠ v5.heap.size := by omega
      have nX' : v5.heap.size ≠ X := by omega
      have lx7 : v5.heap.size < W7.heap.size := by have := B7.size; omega
      have f6 : W6.frozen? ⟨v5.heap.size, 1, none⟩ = false := by rw [hW6]; simp
      have fx7 : W7.frozen? ⟨v5.heap.size, 1, none⟩ = false := (B7.frozen (p := ⟨v5.heap.size, 1, none⟩) (by show v5.heap.size < v5.heap.size + 1; omega)).trans f6
      have H7' := hidE (And.intro k7 (And.intro B7 (And.intro R7 hX7)))
      have HI5 := hidE hI5
      have H6 := hidE (And.intro B6 (And.intro s6 hW6))
      clear k7 R7 hX7 G7 B7 hI5 B6 hW6 x6 E6 H7
      go_wp2_with (fail)
      obtain ⟨W8, hW8⟩ : ∃ W8, W8 = W7.setCell ⟨v5.heap.size, 1, none⟩ (.slice (some ⟨X, 0, none⟩) n cX) := ⟨_, rfl⟩
      have z8 : W8.cell? ⟨v5.heap.size, 0, none⟩ = some (.slice af lf cf) ∧ W8.cell? ⟨v5.heap.size, 1, none⟩ = some (.slice (some ⟨X, 0, none⟩) n cX) ∧ W8.cell? ⟨v5.heap.size, 2, none⟩ = some (.int .i64 h.hand) := by
        rw [hW8]
        exact ⟨cellk_else y0 (by decide), cellk_same y1, cellk_else y2 (by decide)⟩
      have g8 : W8.cell? ⟨X, g * 3 + 2, none⟩ = some r7 := by rw [hW8, cell_off nX]; exact er7
      have f8 : W8.frozen? ⟨X, g * 3 + 2, none⟩ = false := by rw [hW8, ← fr7]; go_simp
      have s8 : W8.heap.size = W7.heap.size := by rw [hW8]; simp
      rw [← hW8]
      obtain ⟨z0, z1, z2⟩ := z8
      have lx8 : v5.heap.size < W8.heap.size := by omega
      have lX8 : X < W8.heap.size := by omega
      have H8 := hidE hW8
      clear hW8 y0 y1 y2 er7 fr7 fx7 f6
      obtain ⟨mk24, h24⟩ : ∃ c, c = madeCells #[.bool false, .int .i64 0, .int .i64 0, .bool false] 24 := ⟨_, rfl⟩
      have hb24 := hidE (fun (V : World) (b : Nat) (e : V.heap.size = b) => (show MadeQ (V.alloc (.cells mk24 49)) b by rw [h24]; exact madeQ_of V e))
      have hm2 : ∀ w : World, (Instr.makeSlice 37 (.int .i64 6) (.int .i64 6)).run Try.prog w = .ok (.slice (some ⟨w.heap.size, 0, none⟩) 6 6) (w.alloc (.cells mk24 49)) := fun w => by rw [h24]; exact make_shades 6 (by omega) w
      clear h24
      obtain ⟨W9, hW9⟩ : ∃ W9, W9 = ((W8.setCell ⟨X, g * 3 + 2, none⟩ (.slice (some ⟨W7.heap.size, 0, none⟩) 6 6)).alloc (.cells mk24 49)).drew := ⟨_, rfl⟩
      obtain ⟨k7, B7, R7, hX7⟩ := H7'.out
      obtain ⟨B6, s6, hW6⟩ := H6.out
      have s9 : W9.heap.size = W7.heap.size + 1 := by rw [hW9, World.size_drew, World.size_alloc]; simp [s8]
      have D56 : Below v5.heap.size v5 W7 := B6.trans (B7.mono (by omega))
      have D8 : Below v5.heap.size v5 W8 := by rw [H8.out]; exact D56.setCell (p := ⟨v5.heap.size, 1, none⟩) (Nat.le_refl _) _
      have D9 : Below v5.heap.size v5 W9 := by rw [hW9]; exact ((D8.setCell (p := ⟨X, g * 3 + 2, none⟩) (by show v5.heap.size ≤ X; omega) _).alloc (by simp; omega) _).drew
      have oT : ∀ i, W9.cell? ⟨T, o + i, none⟩ = W6.cell? ⟨T, o + i, none⟩ := fun i => (D9.cell (p := ⟨T, o + i, none⟩) hT5).trans (B6.cell (p := ⟨T, o + i, none⟩) hT5).symm
      have hxc : ∀ i, i < n * 3 → i ≠ g * 3 + 2 → W9.cell? ⟨X, i, none⟩ = W9.cell? ⟨T, o + i, none⟩ := fun i hi hne => by
        rw [oT, ← k7 i hi]
        obtain ⟨⟨ri, eri⟩, _⟩ := R7 i hi
        have e8 : W8.cell? ⟨X, i, none⟩ = some ri := by rw [H8.out, cell_off nX]; exact eri
        have e9 := cellk_else (u := .slice (some ⟨W7.heap.size, 0, none⟩) 6 6) e8 hne
        rw [eri, hW9]
        exact (((Below.refl (W8.setCell ⟨X, g * 3 + 2, none⟩ (.slice (some ⟨W7.heap.size, 0, none⟩) 6 6)).heap.size (W8.setCell ⟨X, g * 3 + 2, none⟩ (.slice (some ⟨W7.heap.size, 0, none⟩) 6 6))).alloc (Nat.le_refl _) (.cells mk24 49)).drew.cell (p := ⟨X, i, none⟩) (by simp; omega)).trans e9
      have hxs : W9.cell? ⟨X, g * 3 + 2, none⟩ = some (.slice (some ⟨W7.heap.size, 0, none⟩) 6 6) := by
        have e9 := cellk_same (u := .slice (some ⟨W7.heap.size, 0, none⟩) 6 6) g8
        rw [hW9]
        exact (((Below.refl (W8.setCell ⟨X, g * 3 + 2, none⟩ (.slice (some ⟨W7.heap.size, 0, none⟩) 6 6)).heap.size (W8.setCell ⟨X, g * 3 + 2, none⟩ (.slice (some ⟨W7.heap.size, 0, none⟩) 6 6))).alloc (Nat.le_refl _) (.cells mk24 49)).drew.cell (p := ⟨X, g * 3 + 2, none⟩) (by simp; omega)).trans e9
      have hQ9 : Quads W9 W7.heap.size 0 (List.replicate 6 noS) := by
        rw [hW9]
        exact (hb24.out (W8.setCell ⟨X, g * 3 + 2, none⟩ (.slice (some ⟨W7.heap.size, 0, none⟩) 6 6)) W7.heap.size (by simp [s8])).1
      have hgh : g < h.guests.length := by omega
      have hw5 := HB5.out.size
      have hx := forg_in (cX := cX) (S := W7.heap.size) (hi' := W9.heap.size) (HI5.out.same (below_sameIn D9 hb5)) hlf hn (Nat.le_trans hb5 D9.size) (X := X) (by omega) (by omega) (by omega) (by omega) hgl hxc hxs hQ9
      have kx := (forg_ok kk hgh).1
      have hse : seeH (forgP h g) (g : Int) = seeH h (g : Int) := seeH_same kk kx (forg_len _ _) (fun g' p' _ _ => (forg_ok kk hgh).2.1 g' p') _
      have hJ9 := hJ5.same (below_sameIn D9 hs5.out)
      have wx := okH_wfs kx
      have HB9 := hidE (HB5.out.trans (D9.mono HB5.out.size))
      have hsz9 := hidE (show v2.heap.size ≤ W9.heap.size from Nat.le_trans hs5.out D9.size)
      have hse1 := implHostSee _ _ af (some ⟨X, 0, none⟩) lf cf n cX (forgP h g) (g : Int) W9 hx (Nat.le_refl _) wx
      rw [hse] at hse1
      have hoks := hidE (fun (V : World) (B : Below W9.heap.size W9 V) => implHostOk _ _ af (some ⟨X, 0, none⟩) lf cf n cX (forgP h g) V (hx.same (below_sameIn B (Nat.le_refl _))) B.size wx)
      have hokx := hidE (show okHost (forgP h g) = true from okHost_mk kx)
      have hhand : (forgP h g).hand = h.hand := rfl
      rw [hhand] at hse1 hoks
      have z9 : W9.cell? ⟨v5.heap.size, 0, none⟩ = some (.slice af lf cf) ∧ W9.cell? ⟨v5.heap.size, 1, none⟩ = some (.slice (some ⟨X, 0, none⟩) n cX) ∧ W9.cell? ⟨v5.heap.size, 2, none⟩ = some (.int .i64 h.hand) := by
        have q : ∀ i, W9.cell? ⟨v5.heap.size, i, none⟩ = W8.cell? ⟨v5.heap.size, i, none⟩ := fun i => by
          rw [hW9]
          refine (((Below.refl (W8.setCell ⟨X, g * 3 + 2, none⟩ (.slice (some ⟨W7.heap.size, 0, none⟩) 6 6)).heap.size (W8.setCell ⟨X, g * 3 + 2, none⟩ (.slice (some ⟨W7.heap.size, 0, none⟩) 6 6))).alloc (Nat.le_refl _) (.cells mk24 49)).drew.cell (p := ⟨v5.heap.size, i, none⟩) (by simp; omega)).trans ?_
          exact cell_off nX'
        exact ⟨(q 0).trans z0, (q 1).trans z1, (q 2).trans z2⟩
      have H9 := hidE z9
      clear k7 B7 R7 hX7 B6 s6 D56 D8 D9 oT hxc hxs hQ9 hx kx hse wx z9 hhand hJ5 HI5 H6 H7' H8 hrun kk
      go_region_with (fail)
      all_goals go_wp2_with (fail)
      all_goals
        rw [← hW9]
        refine hse1.mono ?_
        rintro e u1 ⟨ax, cx, rfl, hO, Bu⟩
        have hJx := hJ9.same (below_sameIn Bu hsz9.out)
        have heq := lkMem_same _ _ _ _ ax al (seeH h (g : Int)).length cx cl (seeH h (g : Int)) u1 hO.mem hJx (Nat.le_refl _) (Nat.le_trans hsz9.out Bu.size) (by omega) (fun i hi => by have := hl4 i hi; omega)
        have h9 := cells3 Bu (b := v5.heap.size) (by omega) H9.out
        have HBu := hidE (And.intro Bu (HB9.out.trans (Bu.mono HB9.out.size)))
        have lu : v5.heap.size < u1.heap.size := by have := Bu.size; omega
        obtain ⟨z0, z1, z2⟩ := h9
        clear hO hJx Bu
        go_wp2_with (fail)
        refine heq.mono ?_
        rintro e u2 ⟨rfl, Bu2⟩
        have hok2 := hoks.out u2 (HBu.out.1.trans (Bu2.mono HBu.out.1.size))
        rw [hokx.out] at hok2
        have z2' := cells3 Bu2 (b := v5.heap.size) lu ⟨z0, z1, z2⟩
        have HB2 := hidE (HBu.out.2.trans (Bu2.mono HBu.out.2.size))
        have lu2 : v5.heap.size < u2.heap.size := by have := Bu2.size; omega
        clear z0 z1 z2 Bu2 heq
        obtain ⟨z0, z1, z2⟩ := z2'
        go_wp2_with (fail)
        refine hok2.mono ?_
        rintro e u3 ⟨rfl, Bu3⟩
        have HB3 := hidE (HB2.out.trans (Bu3.mono HB2.out.size))
        clear Bu3 hok2 z0 z1 z2
        go_wp2
        go_ret
        exact ⟨rfl, HB3.out⟩
    · have hse : seeH h G = [] := by
        have hb : seeB h G = false := by
          cases hb : seeB h G
          · rfl
          · exfalso
            simp only [seeB, Bool.and_eq_true, decide_eq_true_eq] at hb
            exact hG ⟨hb.2.1, by omega⟩
        rw [seeH, hb]; rfl
      rw [hse]
      obtain ⟨⟨q0, q1, q2⟩, lb, _⟩ := id hv5
      by_cases hG0 : G < 0
      · go_wp2
        go_ret
        exact ⟨rfl, HB5.out⟩
      · have hG1 : (n : Int) ≤ G := by omega
        have hG0' : 0 ≤ G := by omega
        go_wp2
        go_ret
        exact ⟨rfl, HB5.out⟩
end Go.Proofs.Ytjegndgdpmlbaaa
