/-
  What the program's HostCarry does.
-/
import Derived.Test.YtbhenppclgolpaaKSpecCarry0
import Derived.Test.YtbhenppclgolpaaKH
import Derived.Test.YtbhenppclgolpaaKM
import Derived.Test.YtbhenppclgolpaaKPC
import Derived.Deep.AppendLies
set_option linter.unusedSimpArgs false
namespace Go.Proofs.Ytbhenppclgolpaa
open Go.RowKit
attribute [local go_sem ↓] Go.wp_at_zero Go.wp_at_succ exec_app exec_lod exec_house exec_mapsA exec_allocL exec_storeL exec_buildL exec_idxM exec_look exec_upd exec_allocH exec_buildH exec_storeH exec_bsL exec_storeQ exec_loadQ exec_idxQ
attribute [local go_sem] bigNext_ok bigSkip_ok

theorem infoSh : (Try.prog.info? 71).map (fun i => (i.zero, i.size, i.bytes)) = some (some (.agg #[.int .i64 0, .int .i64 0, .int .i64 0, .int .i64 0]), 4, 32) := by kernel_rfl
/-- What the first guests have, page behind page. -/
def allM (h : Hst) (k : Nat) : List (List Int) := (List.range k).flatMap fun g => seeM h.frames (gOf h g)
theorem allM_succ (h : Hst) (k : Nat) : allM h (k + 1) = allM h k ++ seeM h.frames (gOf h k) := by
  rw [allM, List.range_succ, List.flatMap_append, allM, List.flatMap_cons, List.flatMap_nil, List.append_nil]
theorem allM_len (h : Hst) : ∀ k, (allM h k).length = k * 6
  | 0 => rfl
  | k + 1 => by rw [allM_succ, List.length_append, allM_len h k, seeM_len]; omega
theorem allM_get (h : Hst) : ∀ k i, i < k * 6 → (allM h k).getD i [] = (seeM h.frames (gOf h (i / 6))).getD (i % 6) []
  | 0, i, hi => by omega
  | k + 1, i, hi => by
    rw [allM_succ]
    by_cases hl : i < k * 6
    · rw [List.getD_eq_getElem?_getD, List.getElem?_append_left (by rw [allM_len]; exact hl), ← List.getD_eq_getElem?_getD, allM_get h k i hl]
    · rw [List.getD_eq_getElem?_getD, List.getElem?_append_right (by rw [allM_len]; omega), ← List.getD_eq_getElem?_getD, allM_len, show i - k * 6 = i % 6 by omega, show i / 6 = k by omega]
theorem allM_ok {h : Hst} (k : OkH h) {n : Nat} (hn : n ≤ h.guests.length) {i : Nat} (hi : i < n * 6) : okP ((allM h n).getD i []) = true := by
  rw [allM_get h n i hi, seeM_get _ _ (by omega : i % 6 < 6)]
  exact pAt_ok k (by omega) (by omega)
theorem allM_four {h : Hst} (k : OkH h) : ∀ i, i < h.guests.length * 6 → ((allM h h.guests.length).getD i []).length = 4 := fun i hi => by
  have := allM_ok k (Nat.le_refl _) hi
  simp only [okP, Bool.and_eq_true, beq_iff_eq] at this
  exact this.2
theorem allM_part (h : Hst) (i : Nat) : ∀ n, i < n → ((allM h n).drop (i * 6)).take 6 = seeM h.frames (gOf h i)
  | 0, hi => by omega
  | n + 1, hi => by
    rw [allM_succ]
    by_cases hl : i < n
    · rw [List.drop_append_of_le_length (by rw [allM_len]; omega), List.take_append_of_le_length (by rw [List.length_drop, allM_len]; omega)]
      exact allM_part h i n hl
    · obtain rfl : i = n := by omega
      rw [List.drop_left' (allM_len h i), List.take_of_length_le (by rw [seeM_len]; exact Nat.le_refl _)]
theorem allM_load {h : Hst} (k : OkH h) : loadB (allM h h.guests.length) = true ∧ loadH (allM h h.guests.length) = ⟨zeroM 8, carG h, 0⟩ := by
  have hb : loadB (allM h h.guests.length) = true := by
    have := k.n1
    have := k.n2
    rw [loadB, allM_len, okM_mk (fun i hi => allM_ok k (Nat.le_refl _) (by rw [allM_len] at hi; exact hi))]
    simp
    omega
  refine ⟨hb, ?_⟩
  rw [loadH, hb, allM_len, Nat.mul_div_cancel _ (by decide)]
  show Hst.mk (zeroM 8) _ 0 = Hst.mk (zeroM 8) _ 0
  congr 1
  refine List.ext_getElem (by simp [carG]) fun i h1 h2 => ?_
  simp only [List.length_map, List.length_range] at h1
  simp only [carG, List.getElem_map, List.getElem_range]
  rw [ldG, allM_part h i _ h1, outG, gOf, getD_lt h1]
theorem GivesH.allocH {w w' : World} {e : Ending} {h : Hst} (k : GivesH w w' e h) (o : Obj) : GivesH w (w'.alloc o) e h := by
  obtain ⟨a1, l1, c1, a2, l2, c2, he, hO, hB⟩ := k
  exact ⟨a1, l1, c1, a2, l2, c2, he, (hO.allocK (Nat.le_refl _) o).wide (Nat.le_refl _) (by simp), hB.alloc hB.size o⟩
theorem sheetsC_app (a b : List (List Int)) : sheetsC (a ++ b) = sheetsC a ++ sheetsC b := List.flatMap_append
theorem own_belowM {W w' : World} {lo m : Nat} {t : TypeId} {v : Value} {n : Nat} {vs : List Value} (h : W.ownsRow lo t m v n vs) (hB : Below W.heap.size W w') : w'.ownsRow lo t m v n vs := by
  refine h.kept (below_grown hB) ?_
  cases v.ownBlock
  · exact Or.inl rfl
  · exact Or.inr (by simp)
theorem okH_fr0 {h : Hst} (k : OkH h) {g p : Nat} (hg : g < h.guests.length) (hp : p < 6) (hm : ((h.guests.getD g noG).maps.getD p noM).1 = true) : ∃ F : Nat, F < 8 ∧ ((h.guests.getD g noG).maps.getD p noM).2.1 = (F : Int) := by
  obtain ⟨a, b, _⟩ := k.mi g p hg hp hm
  exact ⟨(mAt h g p).2.1.toNat, by omega, by show (mAt h g p).2.1 = _; omega⟩
set_option maxRecDepth 100000 in
set_option maxHeartbeats 8000000 in
theorem implHostCarryG (lo hi : Nat) (af ag : Option Addr) (lf cf n cg : Nat) (h : Hst) (w : World) (hH : HostIn w lo hi (.slice af lf cf) (.slice ag n cg) h) (hh : hi ≤ w.heap.size) (hwf : WfGs h.guests.length h.guests) :
    Calls Try.prog 38 #[.agg #[.slice af lf cf, .slice ag n cg, .int .i64 h.hand]] w fun e w' => GivesH w w' e (carH h) := by
  obtain ⟨W0, hW0⟩ : ∃ W0, W0 = (w.alloc (.cells #[.slice af lf cf, .slice ag n cg, .int .i64 h.hand] 27)).alloc (.cells #[.slice none 0 0, .slice none 0 0, .int .i64 0] 27) := ⟨_, rfl⟩
  have B0 : Below w.heap.size w W0 := by rw [hW0]; exact ((Below.refl _ _).alloc (Nat.le_refl _) _).alloc (by simp) _
  have s0 : w.heap.size + 1 < W0.heap.size := by rw [hW0]; simp
  have r0 : Var3 W0 (w.heap.size + 1) (.slice none 0 0) (.slice none 0 0) (.int .i64 0) := by rw [hW0]; exact var3_newK (by simp)
  have hc := implHouseOf lo hi af ag lf cf n cg h _ (hH.same (below_sameIn B0 hh)) (Nat.le_trans hh B0.size) hwf
  obtain ⟨zH, hzs, hAl, hSt⟩ := house_var
  clear hH
  cases hok : okHost h
  · rw [show carH h = noH by rw [carH, hok]; rfl]
    go_enter Try.func38, Try.ntmps38
    go_wp2_with (fail)
    rw [← hW0]
    clear hW0
    refine hc.mono ?_
    rintro e w1 ⟨cs, hl, h1, rfl, B1, _⟩
    rw [houseB_eq, hok]
    have hS := hSt w1 cs hl h1
    obtain ⟨W2, hW2⟩ : ∃ W2, W2 = w1.alloc (.cells cs.toArray 74) := ⟨_, rfl⟩
    have HB : Hid (Below w.heap.size w W2) := by rw [hW2]; exact (B0.trans (B1.mono B0.size)).alloc (B0.trans (B1.mono B0.size)).size _
    have s2 : W2.heap.size = w1.heap.size + 1 := by rw [hW2]; simp
    have r2 : Var3 W2 (w.heap.size + 1) (.slice none 0 0) (.slice none 0 0) (.int .i64 0) := by rw [hW2]; exact (r0.same (B1.block _ s0)).allocK _
    obtain ⟨q0, q1, q2, f0, f1, f2⟩ := r2
    have hlt : w.heap.size + 1 < W2.heap.size := by have := B1.size; omega
    rw [← hW2] at hS
    generalize hcs : cs.toArray = hs at *
    clear hSt hc B0 B1 r0 hW2 s2
    go_wp2
    refine bodyPost_ret (v := .agg #[.slice none 0 0, .slice none 0 0, .int .i64 0]) (by simp [results, Try.results38, go_sem, *]) rfl ?_
    exact givesH_no HB.out (Nat.le_succ _) _ _ _
  · obtain ⟨hf8, hf4, _⟩ := okHost_frames hok
    have hgs := fun {G : Nat} (hG : G < h.guests.length) => okHost_guest hok hG
    rw [show carH h = ⟨zeroM 8, carG h, 0⟩ by rw [carH, hok]; rfl]
    go_enter Try.func38, Try.ntmps38
    go_wp2_with (fail)
    rw [← hW0]
    clear hW0
    refine hc.mono ?_
    rintro e w1 ⟨cs, hl, h1, rfl, B1, hL⟩
    rw [houseB_eq] at hL ⊢
    rw [hok]
    obtain ⟨L, c, rfl, hL1, hL2, hL3⟩ := hL hok
    have hS := hSt w1 _ hl h1
    have hW := houseW_new (c := c) hok hL2 hL3
    have kk := okHost_of hok
    have hLw1 := hL2.2.1
    have s01 := B1.size
    have hB1 : Below w.heap.size w w1 := B0.trans (B1.mono B0.size)
    have BA : Below w1.heap.size w1 (w1.alloc (.cells (houseC h.frames (.slice (some ⟨L, 0, none⟩) h.guests.length c) h.hand).toArray 74)) := (Below.refl _ _).alloc (Nat.le_refl _) _
    obtain ⟨W2, hW2⟩ : ∃ W2, W2 = w1.alloc (.cells (houseC h.frames (.slice (some ⟨L, 0, none⟩) h.guests.length c) h.hand).toArray 74) := ⟨_, rfl⟩
    rw [← hW2] at hW BA hS
    have s2 : W2.heap.size ≤ w1.heap.size + 1 ∧ w1.heap.size + 1 ≤ W2.heap.size := by rw [hW2]; simp
    have Bw2 := hidE (hB1.trans (BA.mono hB1.size))
    have r2 := hidE ((r0.same (B1.block _ s0)).same (BA.block _ (by omega)))
    have HW := hidE hW
    have hlods := (hW.lods).1
    have lB2 : w1.heap.size < W2.heap.size := by omega
    generalize hcs : (houseC h.frames (.slice (some ⟨L, 0, none⟩) h.guests.length c) h.hand).toArray = hs at *
    have Hcs := hidE hcs
    clear hSt hc hL hW2 hL2 hL3 BA r0 hW hl h1 hcs hgs hf4 hf8 B1 hB1
    obtain ⟨i0, hi0, hz0, hz1, hz2⟩ := info_parts infoSh
    go_wp2_with (fail)
    go_loopw [5, 6, 20] (fun v _ i wr => ∃ k : Nat, k ≤ h.guests.length ∧ i = .int .i64 k ∧ Hid (wr.ownsRow W2.heap.size 71 4 v (k * 6) (sheetsC (allM h k))) ∧ Hid (Below W2.heap.size W2 wr)) (fun _ _ i _ => h.guests.length - (intOf i).toNat)
    case atStart => exact ⟨0, Nat.zero_le _, rfl, World.ownsRow_nil _ _ _ _, Below.refl _ _⟩
    case round =>
      obtain ⟨k, hk, rfl, hown, HB⟩ := hrel
      have sB := HB.out.size
      have kr := HW.out.belowK HB.out
      have hld := kr.give
      rw [Hcs.out] at hld
      by_cases hkl : k < h.guests.length
      · have hki : (k : Int) < (h.guests.length : Int) := by omega
        have hsn := implSeen L h.guests.length c k h.frames h.hand h.guests wr kk.f8 (fun i hi => kr.2.2.2.2.2.2.1 i hi) hkl kr.2.2.1 (fun p hp hm => okH_fr0 kk hkl hp hm)
        rw [Hcs.out] at hsn
        have HN := hidE (fun (W : World) (X : Nat) (hB : Below wr.heap.size wr W) (hXl : wr.heap.size ≤ X) (hXh : X < W.heap.size) (hSh : Sheets W X (seeM h.frames (h.guests.getD k noG))) => by
          have hown2 := own_belowM hown.out hB
          have hr := sheets_range hSh
          exact run_append_lies (P := Try.prog) W 66 66 W2.heap.size 71 i0 (.agg #[.int .i64 0, .int .i64 0, .int .i64 0, .int .i64 0]) 4 32 Try.underlying66 hi0 hz0 hz1 hz2 rfl (by decide) _ (k * 6) _ hown2 ⟨X, 0, none⟩ 6 6 (sheetsC (seeM h.frames (h.guests.getD k noG))) (by rw [sheetsC_len, seeM_len]) (fun j u hj => by have := hr j u hj; rw [ad0]; simpa using this) (sheetsC_one _) (by decide) (by unfold maxLen; have := kk.n2; omega) (by omega) (by have := hB.size; omega) _ rfl)
        go_wp2_with (fail)
        refine hsn.mono ?_
        rintro e w3 ⟨X, rfl, hX1, hX2, hSh, B3⟩
        have s3 := B3.size
        obtain ⟨g, c', w4, happ, hown4, hgrow, hat, hlt⟩ := HN.out w3 X B3 hX1 hX2 hSh
        have HB4 := hidE (Below.grown (HB.out.trans (B3.mono sB)) hgrow (by omega) (fun j hj => by have := ((own_belowM hown.out B3).lt _ hj).1; omega))
        have happ' : appRun Try.prog 66 66 u5 (.slice (some ⟨X, 0, none⟩) 6 6) w3 = .ok (.slice (some ⟨g, 0, none⟩) (k * 6 + 6) c') w4 := happ
        have Hown4 := hidE (show w4.ownsRow W2.heap.size 71 4 (.slice (some ⟨g, 0, none⟩) (k * 6 + 6) c') ((k + 1) * 6) (sheetsC (allM h (k + 1))) by
          rw [allM_succ, sheetsC_app, Nat.add_mul]
          exact hown4)
        clear hsn hSh hown hgrow hat hlt HN happ hown4 hld kr
        go_wp2
        go_roundw
        case rel => exact ⟨k + 1, by omega, by go_num, Hown4.out, HB4.out⟩
        case measure => simp [intOf]; omega
      · obtain rfl : k = h.guests.length := by omega
        have hn1 := kk.n1
        have hn2 := kk.n2
        obtain ⟨T, cT, e, hT1⟩ : ∃ T cT, u5 = .slice (some ⟨T, 0, none⟩) (h.guests.length * 6) cT ∧ T < wr.heap.size := by
          obtain ⟨_, hd⟩ := hown.out
          rcases hd with ⟨_, h0⟩ | ⟨g, cap, cur, e, hg, hh, hcap, _⟩
          · omega
          · exact ⟨g, cap, e, (hown.out.lt g (by rw [e]; rfl)).2⟩
        subst e
        have hrg : wr.rangeAt T 0 (sheetsC (allM h h.guests.length)) := fun j v hj => by
          have := hown.out.cells rfl j v hj
          rw [ad0] at this
          rw [Nat.zero_add]
          exact this
        have hmo := fun (W : World) (B : Below wr.heap.size wr W) => memOf_at T 0 (h.guests.length * 6) cT (allM h h.guests.length) W (allM_len h _) (by have := B.size; omega) (range_sheets (range_below hrg B hT1)) (allM_four kk) (by omega)
        have hbase : Hid (Below w.heap.size w wr) := hidE (Bw2.out.trans (HB.out.mono Bw2.out.size))
        have hres := hidE (r2.out.same (HB.out.block _ (by omega)))
        clear HW kr hld hown hrg hwf Hcs hS hAl r2 HB hz0 hz1 hz2 hi0
        go_wp2_with (fail)
        refine (hmo wr (Below.refl _ _)).mono ?_
        rintro e w5 ⟨T2, rfl, hM5, B5⟩
        have s5 := B5.size
        have hLd := implLoadG wr.heap.size w5.heap.size (some ⟨T2, 0, none⟩) (h.guests.length * 6) (h.guests.length * 6) _ w5 hM5.mem (Nat.le_refl _) (by omega)
        rw [(allM_load kk).1, (allM_load kk).2] at hLd
        go_wp2_with (fail)
        refine hLd.mono ?_
        rintro e w6 ⟨a1, l1, c1, a2, l2, c2, rfl, hO6, B6⟩
        have s6 := B6.size
        clear hmo hLd hM5
        obtain ⟨q0, q1, q2, f0, f1, f2⟩ := (hres.out.same (B5.block _ (by omega))).same (B6.block _ (by omega))
        have hlt6 : w.heap.size + 1 < w6.heap.size := by omega
        have hlt7 : w.heap.size + 1 < w6.heap.size + 1 := by omega
        have hne6 : w.heap.size + 1 ≠ w6.heap.size := by omega
        have hne7 : w6.heap.size ≠ w.heap.size + 1 := by omega
        have hO7 := hidE hO6
        have HB5 := hidE (hbase.out.trans (B5.mono hbase.out.size))
        have HB7 := hidE B6
        have hR := hidE (show w.heap.size + 1 < w5.heap.size by omega)
        clear hO6 B5 B6 hbase hres
        go_wp2_with (fail)
        refine bodyPost_ret (v := .agg #[.slice a1 l1 c1, .slice a2 l2 c2, .int .i64 0]) (by simp [results, Try.results38, go_sem, *]) rfl ?_
        exact (givesH_ret (h := ⟨zeroM 8, carG h, 0⟩) HB5.out hO7.out HB7.out (Nat.le_succ _) hR.out _ _ _).allocH _
end Go.Proofs.Ytbhenppclgolpaa
