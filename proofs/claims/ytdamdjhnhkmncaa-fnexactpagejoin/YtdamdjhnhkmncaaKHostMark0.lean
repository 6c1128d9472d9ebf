/-
  What the laws' own marking of hosts, and their looking for the marks, do.
-/
import Derived.Test.YtdamdjhnhkmncaaKC
import Derived.Test.YtdamdjhnhkmncaaKE
namespace Go.Proofs.Ytdamdjhnhkmncaa
open Go.RowKit

theorem Only.amid {b : Nat} {w w' : World} (h : Only b w w') : Amid b (b + 1) w w' := ⟨h.os, h.tape, h.output, h.size, fun k hk => h.block k (by omega)⟩

set_option maxHeartbeats 1000000 in
theorem markMapS_any (b len cap k0 : Nat) (w : World) (hR : Room w b (len * 3)) (hn : len ≤ 1048576) (hk0 : k0 ≤ 100000000) :
    Calls Try.prog 107 #[.slice (some ⟨b, 0, none⟩) len cap, .int .i64 k0] w fun e w' => e = .returned (.int .i64 ((k0 + 3 * len : Nat) : Int)) ∧ Ents w' b 0 (marks k0 len) ∧ Room w' b (len * 3) ∧ Only b w w' := by
  go_enter Try.func107, Try.ntmps107
  go_wp2
  go_loopw [1, 5] (fun n i wr => ∃ k : Nat, k ≤ len ∧ i = .int .i64 k ∧ n = .int .i64 ((k0 + 3 * k : Nat) : Int) ∧ Hid (Ents wr b 0 ((marks k0 len).take k)) ∧ Hid (Room wr b (len * 3)) ∧ Hid (Only b w wr)) (fun _ i _ => len - (intOf i).toNat)
  case atStart => exact ⟨0, Nat.zero_le _, rfl, rfl, fun i hi => by simp at hi, hR, Only.refl _ _⟩
  case round =>
    obtain ⟨k, hk, rfl, rfl, hE, hRo, hO⟩ := hrel
    by_cases hkl : k < len
    · obtain ⟨⟨u0, d0⟩, f0⟩ := hRo.out (k * 3) (by omega)
      obtain ⟨⟨u1, d1⟩, f1⟩ := hRo.out (k * 3 + 1) (by omega)
      obtain ⟨⟨u2, d2⟩, f2⟩ := hRo.out (k * 3 + 2) (by omega)
      have hm : Hid ((marks k0 len).getD k (false, 0, false) = mkE ((k0 + 3 * k : Nat) : Int)) := marks_get k0 len k hkl
      have hnx : ((k0 + 3 * (k + 1) : Nat) : Int) = ((k0 + 3 * k : Nat) : Int) + 1 + 1 + 1 := by omega
      have HX : Hid (((k0 + 3 * (k + 1) : Nat) : Int) = ((k0 + 3 * k : Nat) : Int) + 1 + 1 + 1) := hnx
      clear hnx
      generalize hN : ((k0 + 3 * k : Nat) : Int) = N at hm HX
      have hN0 : 0 ≤ N := by omega
      have hN1 : N ≤ 200000000 := by omega
      clear hN
      have hki : (k : Int) < (len : Int) := by omega
      go_wp2
      go_roundw
      case rel =>
        refine ⟨k + 1, by omega, by go_num, by rw [HX.out], ents_put hRo.out hE.out (by rw [marks_len]; omega) (by omega) hm.out, ((hRo.out.put _).put _).put _, ((hO.out.put _ _).put _ _).put _ _⟩
      case measure => simp [intOf]; omega
    · have hkk : k = len := by omega
      subst hkk
      have HE : Hid (Ents wr b 0 (marks k0 k)) := by
        have := hE.out
        rwa [List.take_of_length_le (by rw [marks_len]; omega)] at this
      clear hE
      go_wp2
      go_ret
      exact ⟨rfl, HE.out, hRo.out, hO.out⟩

set_option maxHeartbeats 1000000 in
theorem heldMapS_any (lo hi : Nat) (a : Option Addr) (len cap k0 : Nat) (w : World) (h : IsMaps w lo hi a len (marks k0 len)) (hn : len ≤ 1048576) (hk0 : k0 ≤ 100000000) :
    Calls Try.prog 110 #[.slice a len cap, .int .i64 k0] w fun e w' => e = .returned (.int .i64 ((k0 + 3 * len : Nat) : Int)) ∧ w' = w := by
  go_enter Try.func110, Try.ntmps110
  go_wp2
  go_loop [1, 5] (fun n i => ∃ k : Nat, k ≤ len ∧ i = .int .i64 k ∧ n = .int .i64 ((k0 + 3 * k : Nat) : Int)) (fun _ i => len - (intOf i).toNat)
  case atStart => exact ⟨0, Nat.zero_le _, rfl, rfl⟩
  case round =>
    obtain ⟨k, hk, rfl, rfl⟩ := hrel
    by_cases hkl : k < len
    · obtain ⟨b, o, rfl, _, _, c0, c1, c2⟩ := h.get hkl
      rw [show noM = (false, 0, false) from rfl, marks_get k0 len k hkl] at c0 c1 c2
      simp only [mkE] at c0 c1 c2
      have HX : Hid (((k0 + 3 * (k + 1) : Nat) : Int) = ((k0 + 3 * k : Nat) : Int) + 1 + 1 + 1) := by show _ = _; omega
      generalize hN : ((k0 + 3 * k : Nat) : Int) = N at c0 c1 c2 HX
      have hN0 : 0 ≤ N := by omega
      have hN1 : N ≤ 200000000 := by omega
      clear hN
      have hki : (k : Int) < (len : Int) := by omega
      go_wp2
      go_round
      case rel => exact ⟨k + 1, by omega, by go_num, by rw [HX.out]⟩
      case measure => simp [intOf]; omega
    · have hkk : k = len := by omega
      subst hkk
      go_wp2
      go_ret
      exact ⟨rfl, rfl⟩

/-- Shades as they are marked. -/
def mkS (n : Int) : S4 := (n % 3 == 0, n + 1, n + 1 + 1, (n + 1 + 1 + 1) % 3 == 0)
def qmarks (k0 len : Nat) : List S4 := (List.range len).map fun j => mkS ((k0 + 4 * j : Nat) : Int)
theorem qmarks_len (k0 len : Nat) : (qmarks k0 len).length = len := by simp [qmarks]
theorem qmarks_get (k0 len j : Nat) (h : j < len) : (qmarks k0 len).getD j noS = mkS ((k0 + 4 * j : Nat) : Int) := by simp [qmarks, List.getD_eq_getElem?_getD, h]
theorem quads_put {w : World} {b n k : Nat} {ss : List S4} (hR : Room w b n) (hE : Quads w b 0 (ss.take k)) (hk : k < ss.length) (hn : k * 4 + 3 < n) {sh : Bool} {sp sf : Int} {sw : Bool} (hg : ss.getD k noS = (sh, sp, sf, sw)) :
    Quads ((((w.setCell ⟨b, k * 4, none⟩ (.bool sh)).setCell ⟨b, k * 4 + 1, none⟩ (.int .i64 sp)).setCell ⟨b, k * 4 + 2, none⟩ (.int .i64 sf)).setCell ⟨b, k * 4 + 3, none⟩ (.bool sw)) b 0 (ss.take (k + 1)) := by
  have key : ∀ x v, w.cell? ⟨b, x, none⟩ = some v → ((((w.setCell ⟨b, k * 4, none⟩ (.bool sh)).setCell ⟨b, k * 4 + 1, none⟩ (.int .i64 sp)).setCell ⟨b, k * 4 + 2, none⟩ (.int .i64 sf)).setCell ⟨b, k * 4 + 3, none⟩ (.bool sw)).cell? ⟨b, x, none⟩ =
      some (if x = k * 4 + 3 then .bool sw else if x = k * 4 + 2 then .int .i64 sf else if x = k * 4 + 1 then .int .i64 sp else if x = k * 4 then .bool sh else v) := fun x v hv => cell_put (cell_put (cell_put (cell_put hv)))
  intro i hi
  simp only [List.length_take] at hi
  simp only [Nat.zero_add]
  have hget : (ss.take (k + 1)).getD i noS = ss.getD i noS := by
    simp only [List.getD_eq_getElem?_getD]
    rw [List.getElem?_take_of_lt (by omega)]
  rw [hget]
  by_cases hik : i = k
  · subst hik
    rw [hg]
    obtain ⟨⟨u0, d0⟩, _⟩ := hR (i * 4) (by omega)
    obtain ⟨⟨u1, d1⟩, _⟩ := hR (i * 4 + 1) (by omega)
    obtain ⟨⟨u2, d2⟩, _⟩ := hR (i * 4 + 2) (by omega)
    obtain ⟨⟨u3, d3⟩, _⟩ := hR (i * 4 + 3) (by omega)
    refine ⟨(key _ _ d0).trans ?_, (key _ _ d1).trans ?_, (key _ _ d2).trans ?_, (key _ _ d3).trans ?_⟩
    · rw [if_neg (by omega), if_neg (by omega), if_neg (by omega), if_pos rfl]
    · rw [if_neg (by omega), if_neg (by omega), if_pos rfl]
    · rw [if_neg (by omega), if_pos rfl]
    · rw [if_pos rfl]
  · have hi' : i < (ss.take k).length := by simp only [List.length_take]; omega
    obtain ⟨e0, e1, e2, e3⟩ := hE i hi'
    simp only [Nat.zero_add] at e0 e1 e2 e3
    have hget' : (ss.take k).getD i noS = ss.getD i noS := by
      simp only [List.getD_eq_getElem?_getD]
      rw [List.getElem?_take_of_lt (by omega)]
    rw [hget'] at e0 e1 e2 e3
    refine ⟨(key _ _ e0).trans ?_, (key _ _ e1).trans ?_, (key _ _ e2).trans ?_, (key _ _ e3).trans ?_⟩
    all_goals rw [if_neg (by omega), if_neg (by omega), if_neg (by omega), if_neg (by omega)]

set_option maxHeartbeats 2000000 in
theorem markShadeS_any (b len cap k0 : Nat) (w : World) (hR : Room w b (len * 4)) (hn : len ≤ 1048576) (hk0 : k0 ≤ 100000000) :
    Calls Try.prog 108 #[.slice (some ⟨b, 0, none⟩) len cap, .int .i64 k0] w fun e w' => e = .returned (.int .i64 ((k0 + 4 * len : Nat) : Int)) ∧ Quads w' b 0 (qmarks k0 len) ∧ Room w' b (len * 4) ∧ Only b w w' := by
  go_enter Try.func108, Try.ntmps108
  go_wp2
  go_loopw [1, 5] (fun n i wr => ∃ k : Nat, k ≤ len ∧ i = .int .i64 k ∧ n = .int .i64 ((k0 + 4 * k : Nat) : Int) ∧ Hid (Quads wr b 0 ((qmarks k0 len).take k)) ∧ Hid (Room wr b (len * 4)) ∧ Hid (Only b w wr)) (fun _ i _ => len - (intOf i).toNat)
  case atStart => exact ⟨0, Nat.zero_le _, rfl, rfl, fun i hi => by simp at hi, hR, Only.refl _ _⟩
  case round =>
    obtain ⟨k, hk, rfl, rfl, hE, hRo, hO⟩ := hrel
    by_cases hkl : k < len
    · obtain ⟨⟨u0, d0⟩, f0⟩ := hRo.out (k * 4) (by omega)
      obtain ⟨⟨u1, d1⟩, f1⟩ := hRo.out (k * 4 + 1) (by omega)
      obtain ⟨⟨u2, d2⟩, f2⟩ := hRo.out (k * 4 + 2) (by omega)
      obtain ⟨⟨u3, d3⟩, f3⟩ := hRo.out (k * 4 + 3) (by omega)
      have hm : Hid ((qmarks k0 len).getD k noS = mkS ((k0 + 4 * k : Nat) : Int)) := qmarks_get k0 len k hkl
      have hnx : ((k0 + 4 * (k + 1) : Nat) : Int) = ((k0 + 4 * k : Nat) : Int) + 1 + 1 + 1 + 1 := by omega
      have HX : Hid (((k0 + 4 * (k + 1) : Nat) : Int) = ((k0 + 4 * k : Nat) : Int) + 1 + 1 + 1 + 1) := hnx
      clear hnx
      generalize hN : ((k0 + 4 * k : Nat) : Int) = N at hm HX
      have hN0 : 0 ≤ N := by omega
      have hN1 : N ≤ 200000000 := by omega
      clear hN
      have hki : (k : Int) < (len : Int) := by omega
      go_wp2
      go_roundw
      case rel =>
        refine ⟨k + 1, by omega, by go_num, by rw [HX.out], quads_put hRo.out hE.out (by rw [qmarks_len]; omega) (by omega) hm.out, (((hRo.out.put _).put _).put _).put _, (((hO.out.put _ _).put _ _).put _ _).put _ _⟩
      case measure => simp [intOf]; omega
    · have hkk : k = len := by omega
      subst hkk
      have HE : Hid (Quads wr b 0 (qmarks k0 k)) := by
        have := hE.out
        rwa [List.take_of_length_le (by rw [qmarks_len]; omega)] at this
      clear hE
      go_wp2
      go_ret
      exact ⟨rfl, HE.out, hRo.out, hO.out⟩

set_option maxHeartbeats 2000000 in
theorem heldShadeS_any (lo hi : Nat) (a : Option Addr) (len cap k0 : Nat) (w : World) (h : IsShades w lo hi a len (qmarks k0 len)) (hn : len ≤ 1048576) (hk0 : k0 ≤ 100000000) :
    Calls Try.prog 111 #[.slice a len cap, .int .i64 k0] w fun e w' => e = .returned (.int .i64 ((k0 + 4 * len : Nat) : Int)) ∧ w' = w := by
  go_enter Try.func111, Try.ntmps111
  go_wp2
  go_loop [1, 5] (fun n i => ∃ k : Nat, k ≤ len ∧ i = .int .i64 k ∧ n = .int .i64 ((k0 + 4 * k : Nat) : Int)) (fun _ i => len - (intOf i).toNat)
  case atStart => exact ⟨0, Nat.zero_le _, rfl, rfl⟩
  case round =>
    obtain ⟨k, hk, rfl, rfl⟩ := hrel
    by_cases hkl : k < len
    · obtain ⟨b, o, rfl, _, _, c0, c1, c2, c3⟩ := h.get hkl
      rw [qmarks_get k0 len k hkl] at c0 c1 c2 c3
      simp only [mkS] at c0 c1 c2 c3
      have HX : Hid (((k0 + 4 * (k + 1) : Nat) : Int) = ((k0 + 4 * k : Nat) : Int) + 1 + 1 + 1 + 1) := by show _ = _; omega
      generalize hN : ((k0 + 4 * k : Nat) : Int) = N at c0 c1 c2 c3 HX
      have hN0 : 0 ≤ N := by omega
      have hN1 : N ≤ 200000000 := by omega
      clear hN
      have hki : (k : Int) < (len : Int) := by omega
      go_wp2
      go_round
      case rel => exact ⟨k + 1, by omega, by go_num, by rw [HX.out]⟩
      case measure => simp [intOf]; omega
    · have hkk : k = len := by omega
      subst hkk
      go_wp2
      go_ret
      exact ⟨rfl, rfl⟩
end Go.Proofs.Ytdamdjhnhkmncaa
