/-
  What the given copying of memory does, empty pages too.
-/
import Derived.Test.YteelpikhijkmdaaDoorMemCopy0
namespace Go.Proofs.YteelpikhijkmdaaDoor
open Go.RowKit

set_option maxHeartbeats 2000000 in
theorem specCopyAll (lo hi : Nat) (a : Option Addr) (len cap : Nat) (ms : List (List Int)) (w : World) (h : IsMem w lo hi a len ms) (hh : hi ≤ w.heap.size) (hn : len ≤ 1048576) (hL : ∀ i, i < len → (ms.getD i []).length ≤ 1048576) :
    Calls Tryd.prog 28 #[.slice a len cap] w fun e w' => ∃ a c, e = .returned (.slice a len c) ∧ OwnMem w' w.heap.size w'.heap.size a len ms ∧ Below w.heap.size w w' := by
  obtain ⟨hl, hd⟩ := h
  obtain ⟨i0, hi0, hz0, hz1, hz2⟩ := info_parts infoZ
  obtain ⟨i1, hi1, hy0, hy1, hy2⟩ := info_parts infoS
  go_enter Tryd.func28, Tryd.ntmps28
  go_wp2
  go_loopw [3, 4] (fun v i wr => ∃ k : Nat, ∃ vs, k ≤ len ∧ i = .int .i64 k ∧ Hid (wr.ownsRow w.heap.size 56 1 v k vs) ∧ Hid (PagesUp wr w.heap.size k ms vs) ∧ Below w.heap.size w wr) (fun _ i _ => len - (intOf i).toNat)
  case atStart => exact ⟨0, [], Nat.zero_le _, rfl, World.ownsRow_made w #[] 0 (Nat.le_refl _) (by simp [maxLen]) rfl, ⟨rfl, fun _ => 0, fun _ => 0, fun i j h1 h2 => by omega, fun i hi => by omega⟩, (Below.refl _ _).alloc (Nat.le_refl _) _⟩
  case round =>
    obtain ⟨k, vs, hk, rfl, hownH, hPH, hB⟩ := hrel
    have hown := hownH.out
    have hP := hPH.out
    have sW := hB.size
    by_cases hkl : k < len
    · rcases hd with h0 | ⟨b, o, rfl, hb1, hb2, hc⟩
      · omega
      obtain ⟨a', l, c, q, hI⟩ := hc k hkl
      have hbs : b < w.heap.size := by omega
      have c0 := (hB.cell (p := ⟨b, o + k, none⟩) hbs).trans q
      obtain ⟨hll, hdd⟩ := hI.same (below_sameIn hB hh)
      have hL2 := hL k hkl
      have hki : (k : Int) < (len : Int) := by omega
      have hbw : b < wr.heap.size := by omega
      have own0 : (wr.alloc (.cells #[] 3)).ownsRow wr.heap.size 3 1 (.slice (some ⟨wr.heap.size, 0, none⟩) 0 0) 0 [] := World.ownsRow_made wr #[] 0 (Nat.le_refl _) (by simp [maxLen]) rfl
      by_cases hl0 : l = 0
      · subst hl0
        have hg0 : ms.getD k [] = [] := List.eq_nil_of_length_eq_zero hll
        have B2 : Below wr.heap.size wr (wr.alloc (.cells #[] 3)) := (Below.refl _ _).alloc (Nat.le_refl _) _
        have HO2 : Hid ((wr.alloc (.cells #[] 3)).ownsRow w.heap.size 3 1 (.slice (some ⟨wr.heap.size, 0, none⟩) 0 0) 0 (zv (ms.getD k []))) := by
          rw [hg0]
          exact own_down own0 sW
        have HP2 : Hid (PagesUp (wr.alloc (.cells #[] 3)) w.heap.size k ms vs) := hP.kept (below_grown B2) (fun T e => by cases e)
        have hown2 := (own_below hown B2).alloc (.cells #[.slice (some ⟨wr.heap.size, 0, none⟩) 0 0] 56)
        have HC := one_new (wr.alloc (.cells #[] 3)) (.slice (some ⟨wr.heap.size, 0, none⟩) 0 0) 56
        rw [show (wr.alloc (.cells #[] 3)).heap.size = wr.heap.size + 1 by simp] at HC
        clear q hI hc own0
        cases a'
        all_goals
          go_wp2_with (at_builtin; refine wpList_append_own _ rfl (.tmp 12) (.tmp 19) 23 rfl w.heap.size 56 i1 (.slice none 0 0) 1 24 Tryd.underlying23 hi1 hy0 hy1 hy2 rfl (by decide) _ _ _ rfl hown2 ⟨wr.heap.size + 1, 0, none⟩ 1 1 [.slice (some ⟨wr.heap.size, 0, none⟩) 0 0] rfl rfl HC (by simp [Value.oneCell']) (by unfold maxLen; omega) (by omega) (by simp; omega) ?_; intro v3 w3 own3 grow3 nil3)
          have hB2 : Below w.heap.size w (wr.alloc (.cells #[] 3)) := hB.trans (B2.mono sW)
          have hB3 : Below w.heap.size w w3 := Below.grown (hB2.alloc (by simp; omega) _) grow3 (by simp; omega) (fun j hj => (hown2.lt _ hj).1)
          have HO3 : Hid (w3.ownsRow w.heap.size 56 1 v3 (k + 1) (vs ++ [.slice (some ⟨wr.heap.size, 0, none⟩) 0 0])) := own3
          have HP3 : Hid (PagesUp w3 w.heap.size (k + 1) ms (vs ++ [.slice (some ⟨wr.heap.size, 0, none⟩) 0 0])) := by
            have k1 : PagesUp ((wr.alloc (.cells #[] 3)).alloc (.cells #[.slice (some ⟨wr.heap.size, 0, none⟩) 0 0] 56)) w.heap.size (k + 1) ms (vs ++ [.slice (some ⟨wr.heap.size, 0, none⟩) 0 0]) :=
              PagesUp.snoc hP (HP2.out.kept (below_grown ((Below.refl _ _).alloc (Nat.le_refl _) _)) (fun T e => by cases e)) (Nat.le_refl _) hll (HO2.out.alloc _)
            exact k1.kept grow3 (own_row hown2)
          clear own3 grow3 nil3 hown2 HC HP2 HO2 hown hP
          go_wp2
          go_roundw
          case rel => exact ⟨k + 1, _, by omega, by go_num, HO3, HP3, hB3⟩
          case measure => simp [intOf]; omega
      rcases hdd with h0 | ⟨b', o', rfl, hb1', hb2', hc'⟩
      · omega
      have HN := ints_zv (hc'.below ((Below.refl wr.heap.size wr).alloc (Nat.le_refl _) (.cells #[] 3)) (by omega))
      have hzl : (zv (ms.getD k [])).length = l * 1 := by rw [zv, List.length_map]; omega
      clear q hI hc hc'
      go_wp2_with (first | (at_builtin; refine wpList_append_own _ rfl (.tmp 13) (.tmp 17) 56 rfl wr.heap.size 3 i0 (.int .i64 0) 1 8 Tryd.underlying56 hi0 hz0 hz1 hz2 rfl (by decide) _ _ _ rfl own0 ⟨b', o', none⟩ l c (zv (ms.getD k [])) rfl hzl HN (zv_one _) (by unfold maxLen; omega) (by omega) (by simp) ?_; intro v2 w2 own2 grow2 nil2; rw [Nat.zero_add, List.nil_append] at own2; have B2 : Below wr.heap.size wr w2 := Below.grown ((Below.refl wr.heap.size wr).alloc (Nat.le_refl _) (.cells #[] 3)) grow2 (by simp) (fun j hj => (own0.lt _ hj).1); obtain ⟨p, c2, hv2, hp⟩ := own_at1 own2 (by omega); subst hv2; have HP2 : Hid (PagesUp w2 w.heap.size k ms vs) := (hP.kept (below_grown B2) (fun T e => by cases e)); have HO2 : Hid (w2.ownsRow w.heap.size 3 1 (.slice (some ⟨p, 0, none⟩) l c2) l (zv (ms.getD k []))) := own_down own2 sW; have hown2 := (own_below hown B2).alloc (.cells #[.slice (some ⟨p, 0, none⟩) l c2] 56); have HC := one_new w2 (.slice (some ⟨p, 0, none⟩) l c2) 56; have hs2 := B2.size; clear own2 grow2 nil2 HN own0) | (at_builtin; refine wpList_append_own _ rfl (.tmp 12) (.tmp 19) 23 rfl w.heap.size 56 i1 (.slice none 0 0) 1 24 Tryd.underlying23 hi1 hy0 hy1 hy2 rfl (by decide) _ _ _ rfl hown2 ⟨w2.heap.size, 0, none⟩ 1 1 [.slice (some ⟨p, 0, none⟩) l c2] rfl rfl HC (by simp [Value.oneCell']) (by unfold maxLen; omega) (by omega) (by simp; omega) ?_; intro v3 w3 own3 grow3 nil3))
      have hB2 : Below w.heap.size w w2 := hB.trans (B2.mono sW)
      have hB3 : Below w.heap.size w w3 := Below.grown (hB2.alloc (by omega) _) grow3 (by simp; omega) (fun j hj => (hown2.lt _ hj).1)
      have HO3 : Hid (w3.ownsRow w.heap.size 56 1 v3 (k + 1) (vs ++ [.slice (some ⟨p, 0, none⟩) l c2])) := own3
      have HP3 : Hid (PagesUp w3 w.heap.size (k + 1) ms (vs ++ [.slice (some ⟨p, 0, none⟩) l c2])) := by
        have k1 : PagesUp (w2.alloc (.cells #[.slice (some ⟨p, 0, none⟩) l c2] 56)) w.heap.size (k + 1) ms (vs ++ [.slice (some ⟨p, 0, none⟩) l c2]) :=
          PagesUp.snoc hP (HP2.out.kept (below_grown ((Below.refl _ _).alloc (Nat.le_refl _) _)) (fun T e => by cases e)) hp hll (HO2.out.alloc _)
        exact k1.kept grow3 (own_row hown2)
      clear own3 grow3 nil3 hown2 HC HP2 HO2 hown hP
      go_wp2
      go_roundw
      case rel => exact ⟨k + 1, _, by omega, by go_num, HO3, HP3, hB3⟩
      case measure => simp [intOf]; omega
    · have hkk : k = len := by omega
      subst hkk
      obtain ⟨a3, c3, hv3, hM, _⟩ := own_mem hP hl hown
      subst hv3
      clear hown hP hownH hPH
      go_wp2
      go_ret
      exact ⟨a3, c3, rfl, hM, hB⟩
end Go.Proofs.YteelpikhijkmdaaDoor
