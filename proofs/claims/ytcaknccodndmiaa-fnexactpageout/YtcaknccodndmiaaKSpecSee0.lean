/-
  What the given l12Page, l12See and HostSee do.
-/
import Derived.Test.YtcaknccodndmiaaKHostOk1
import Derived.Test.YtcaknccodndmiaaKH
import Derived.Test.YtcaknccodndmiaaKWalkFnExactHostOk
set_option linter.unusedSimpArgs false
namespace Go.Proofs.Ytcaknccodndmiaa
open Go.RowKit
attribute [local go_sem ↓] Go.wp_at_zero Go.wp_at_succ exec_app
attribute [local go_sem] bigNext_ok

set_option maxRecDepth 100000 in
set_option maxHeartbeats 4000000 in
theorem specPage12 (lo hi : Nat) (af ag : Option Addr) (cf n cg G P : Nat) (h : Hst) (w : World) (hF : IsMem w lo hi af 8 h.frames) (hG : IsGuests w lo hi ag n h.guests) (hh : hi ≤ w.heap.size) (ho : okHost h = true) (hn : h.guests.length = n) (hGn : G < n) (hP : P < 6) :
    Calls Try.prog 125 #[.agg #[.slice af 8 cf, .slice ag n cg, .int .i64 h.hand], .int .i64 G, .int .i64 P] w fun e w' => ∃ p c, e = .returned (.slice (some ⟨p, 0, none⟩) 4 c) ∧ w'.ownsRow w.heap.size 3 1 (.slice (some ⟨p, 0, none⟩) 4 c) 4 (zv (pageM h.frames (h.guests.getD G noG) P)) ∧ Below w.heap.size w w' := by
  obtain ⟨i0, hi0, hz0, hz1, hz2⟩ := info_parts infoZ
  obtain ⟨hsz, _, hog⟩ := okHost_guest ho (by omega : G < h.guests.length)
  have hin := fun e => okMap_in (okGuest_map hog hP).1 e
  have h4 := pageM_len ho (by omega : G < h.guests.length) hP
  obtain ⟨b, o, am, cm, ad, cd, aS, cs, rfl, hb1, hb2, q1, q2, q3, hM, hD, _⟩ := hG.get hGn
  have hgF := fun F (hF8 : F < 8) => hF.get hF8
  have hfr4 := (okHost_frames ho).2.1
  obtain ⟨hs1, hs2, hs3, hs4⟩ := hsz
  rw [hs1] at q1 hM
  rw [hs2] at q2 hD
  have hgi : (G : Int) < (n : Int) := by omega
  have hpi : (P : Int) < 6 := by omega
  have hp4 : pageM h.frames (h.guests.getD G noG) P = bif ((h.guests.getD G noG).maps.getD P noM).1 then h.frames.getD ((h.guests.getD G noG).maps.getD P noM).2.1.toNat [] else (h.guests.getD G noG).disk.getD P [] := rfl
  obtain ⟨bm, om, rfl, hbm1, hbm2, r0, r1, r2⟩ := hM.get hP
  obtain ⟨bd, od, a', l, c, rfl, hbd1, hbd2, u0, hI⟩ := hD.get hP
  have hfin : ∀ (W : World) (zs : List Int) (b' o' l c : Nat), Below w.heap.size w W → Ints W b' o' zs → b' < W.heap.size → zs.length = l → l = 4 → ∃ p c' w1, appRun Try.prog 36 36 (.slice (some ⟨W.heap.size, 0, none⟩) 0 0) (.slice (some ⟨b', o', none⟩) l c) (W.alloc (.cells #[] 3)) = .ok (.slice (some ⟨p, 0, none⟩) 4 c') w1 ∧ Hid (w1.ownsRow w.heap.size 3 1 (.slice (some ⟨p, 0, none⟩) 4 c') 4 (zv zs) ∧ Below w.heap.size w w1) := fun W zs b' o' l c hB hI hb' hl hl4 => by
    subst hl4
    have hs := hB.size
    have own0 : (W.alloc (.cells #[] 3)).ownsRow W.heap.size 3 1 (.slice (some ⟨W.heap.size, 0, none⟩) 0 0) 0 [] := World.ownsRow_made W #[] 0 (Nat.le_refl _) (by simp [maxLen]) rfl
    have HN := ints_zv (hI.below ((Below.refl W.heap.size W).alloc (Nat.le_refl _) (.cells #[] 3)) hb')
    obtain ⟨p, c', w1, hrun, hown, hgrow, hat, hlt⟩ := run_append_lies (P := Try.prog) (W.alloc (.cells #[] 3)) 36 36 W.heap.size 3 i0 (.int .i64 0) 1 8 Try.underlying36 hi0 hz0 hz1 hz2 rfl (by decide) _ 0 [] own0 ⟨b', o', none⟩ 4 c (zv zs) (by rw [zv, List.length_map]; omega) HN (zv_one _) (by decide) (by simp [maxLen]) (by omega) (by simp) _ rfl
    rw [Nat.zero_add, List.nil_append] at hown
    rw [Nat.zero_add] at hrun
    refine ⟨p, c', w1, hrun, own_down hown hs, ?_⟩
    exact Below.grown (hB.alloc hs _) hgrow (by simp; omega) (fun j hj => by have := (own0.lt _ hj).1; omega)
  obtain ⟨W1, hW1⟩ : ∃ W1, W1 = w.alloc (.cells #[.slice af 8 cf, .slice (some ⟨b, o, none⟩) n cg, .int .i64 h.hand] 27) := ⟨_, rfl⟩
  have s1 : W1.heap.size = w.heap.size + 1 := by rw [hW1]; simp
  have B1 : Below w.heap.size w W1 := by rw [hW1]; exact (Below.refl _ _).alloc (Nat.le_refl _) _
  rw [hp4] at h4 ⊢
  clear hp4 hM hD hog ho hF hG
  generalize hgg : h.guests.getD G noG = g at *
  clear hgg
  generalize g.maps.getD P noM = mm at *
  obtain ⟨mi, mf, mw⟩ := mm
  simp only at r0 r1 r2 hin h4 ⊢
  have hbw : b < w.heap.size := by omega
  have hbmw : bm < w.heap.size := by omega
  have hbdw : bd < w.heap.size := by omega
  have hbw1 : b < w.heap.size + 1 := by omega
  have hbw2 : b < w.heap.size + 1 + 1 := by omega
  have hbmw1 : bm < w.heap.size + 1 := by omega
  have hbdw1 : bd < w.heap.size + 1 := by omega
  have hbdw2 : bd < w.heap.size + 1 + 1 := by omega
  cases mi
  · simp only [cond_false] at h4 ⊢
    obtain ⟨hl, hd⟩ := hI
    rcases hd with h0 | ⟨b', o', rfl, _, hb2', hc'⟩
    · omega
    have hb'w : b' < w.heap.size := by omega
    have BV : Below w.heap.size w (W1.alloc (.cells #[.bool false, .int .i64 mf, .bool mw] 86)) := B1.alloc (by omega) _
    obtain ⟨p, c2, w2, happ, HR⟩ := hfin (W1.alloc (.cells #[.bool false, .int .i64 mf, .bool mw] 86)) (g.disk.getD P []) b' o' l c BV (hc'.below BV (by omega)) (by rw [World.size_alloc]; omega) hl (by omega)
    rw [World.size_alloc, s1, hW1] at happ
    clear hfin hgF hfr4 hin hc' hW1 s1 B1 BV
    generalize g.disk.getD P [] = zs at *
    go_enter Try.func125, Try.ntmps125
    go_wp2
    go_ret
    exact ⟨p, c2, rfl, HR.out.1, HR.out.2⟩
  · obtain ⟨F, hF8, rfl⟩ := hin rfl
    simp only [cond_true, Int.toNat_natCast] at h4 ⊢
    obtain ⟨bf, of, a2, l2, c2', rfl, hbf1, hbf2, v0, hIF⟩ := hgF F hF8
    obtain ⟨hl, hd⟩ := hIF
    have h4F := hfr4 F hF8
    rcases hd with h0 | ⟨b', o', rfl, _, hb2', hc'⟩
    · omega
    have hb'w : b' < w.heap.size := by omega
    have hbfw : bf < w.heap.size := by omega
    have hbfw1 : bf < w.heap.size + 1 := by omega
    have hbfw2 : bf < w.heap.size + 1 + 1 := by omega
    have hfi : (F : Int) < 8 := by omega
    have BV : Below w.heap.size w (W1.alloc (.cells #[.bool true, .int .i64 F, .bool mw] 86)) := B1.alloc (by omega) _
    obtain ⟨p, c2, w2, happ, HR⟩ := hfin (W1.alloc (.cells #[.bool true, .int .i64 F, .bool mw] 86)) (h.frames.getD F []) b' o' l2 c2' BV (hc'.below BV (by omega)) (by rw [World.size_alloc]; omega) hl (by omega)
    rw [World.size_alloc, s1, hW1] at happ
    clear hfin hgF hfr4 hin hc' hW1 s1 B1 BV
    generalize h.frames.getD F [] = zs at *
    go_enter Try.func125, Try.ntmps125
    go_wp2
    go_ret
    exact ⟨p, c2, rfl, HR.out.1, HR.out.2⟩

theorem own_belowN {W w' : World} {lo N : Nat} {t : TypeId} {v : Value} {n : Nat} {vs : List Value} (h : W.ownsRow lo t 1 v n vs) (hB : Below N W w') (hN : N = W.heap.size) : w'.ownsRow lo t 1 v n vs := by
  subst hN
  exact own_below h hB

end Go.Proofs.Ytcaknccodndmiaa
