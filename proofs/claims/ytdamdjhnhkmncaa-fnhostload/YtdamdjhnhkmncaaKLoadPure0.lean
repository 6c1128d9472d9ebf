/-
  What is loaded, plainly: an ok host whose guests have what was loaded.
-/
import Derived.Test.YtdamdjhnhkmncaaKPC
import Derived.Test.YtdamdjhnhkmncaaKM
set_option linter.unusedSimpArgs false
namespace Go.Proofs.Ytdamdjhnhkmncaa
open Go.RowKit

theorem wf_sml {z : Int} (h0 : 0 ≤ z) (h7 : z ≤ 7) : (Lit.int .i64 z).wf = true := by
  rcases (by omega : z = 0 ∨ z = 1 ∨ z = 2 ∨ z = 3 ∨ z = 4 ∨ z = 5 ∨ z = 6 ∨ z = 7) with e | e | e | e | e | e | e | e <;> subst e <;> decide
theorem okH_wfs {h : Hst} (k : OkH h) : WfGs h.guests.length h.guests := fun i hi p hp => by
  cases hm : (mAt h i p).1
  · have := k.mo i p hi hp hm
    show (Lit.int .i64 (mAt h i p).2.1).wf = true
    rw [this]
    decide
  · obtain ⟨a, b, _⟩ := k.mi i p hi hp hm
    exact wf_sml a b
theorem ld_get (ms : List (List Int)) (g p : Nat) (hp : p < 6) : ((ms.drop (g * 6)).take 6).getD p [] = ms.getD (g * 6 + p) [] := by
  rw [List.getD_eq_getElem?_getD, List.getD_eq_getElem?_getD, List.getElem?_take_of_lt hp, List.getElem?_drop]
theorem load_ok {ms : List (List Int)} {n : Nat} (hlen : ms.length = n * 6) (h1 : 1 ≤ n) (h2 : n ≤ 2) (hb : loadB ms = true) : OkH (loadH ms) ∧ (loadH ms).guests.length = n ∧ ∀ g : Nat, g < n → seeH (loadH ms) (g : Int) = (ms.drop (g * 6)).take 6 := by
  have hok : okM ms = true := by
    unfold loadB at hb
    simp only [Bool.and_eq_true] at hb
    exact hb.1
  rw [loadH_yes hlen hb]
  have hl : (⟨zeroM 8, (List.range n).map (ldG ms), 0⟩ : Hst).guests.length = n := by simp
  have hg' : ∀ g, g < n → gOf (⟨zeroM 8, (List.range n).map (ldG ms), 0⟩ : Hst) g = ldG ms g := fun g hg => by
    show ((List.range n).map (ldG ms)).getD g noG = _
    simp [List.getD_eq_getElem?_getD, hg]
  have hm : ∀ g p, g < n → p < 6 → mAt (⟨zeroM 8, (List.range n).map (ldG ms), 0⟩ : Hst) g p = noM := fun g p hg hp => by
    unfold mAt
    rw [hg' g hg]
    rcases (by omega : p = 0 ∨ p = 1 ∨ p = 2 ∨ p = 3 ∨ p = 4 ∨ p = 5) with e | e | e | e | e | e <;> subst e <;> rfl
  have hs : ∀ g p, g < n → p < 6 → sAt (⟨zeroM 8, (List.range n).map (ldG ms), 0⟩ : Hst) g p = noS := fun g p hg hp => by
    unfold sAt
    rw [hg' g hg]
    rcases (by omega : p = 0 ∨ p = 1 ∨ p = 2 ∨ p = 3 ∨ p = 4 ∨ p = 5) with e | e | e | e | e | e <;> subst e <;> rfl
  have hd : ∀ g p, g < n → p < 6 → dAt (⟨zeroM 8, (List.range n).map (ldG ms), 0⟩ : Hst) g p = ms.getD (g * 6 + p) [] := fun g p hg hp => by
    unfold dAt
    rw [hg' g hg]
    exact ld_get ms g p hp
  have hdl : ∀ g, g < n → ((ms.drop (g * 6)).take 6).length = 6 := fun g hg => by
    rw [List.length_take, List.length_drop, hlen]
    have : g * 6 + 6 ≤ n * 6 := by omega
    omega
  have hK : OkH (⟨zeroM 8, (List.range n).map (ldG ms), 0⟩ : Hst) := by
    refine ⟨rfl, fun f hf => ?_, by rw [hl]; exact h1, by rw [hl]; exact h2, by show (0 : Int) ≤ 0; omega, by show (0 : Int) ≤ 7; omega, fun g hg => ?_, fun g p hg hp => ?_, fun g p hg hp _ => ?_, fun g p hg hp hx => ?_, fun g p g' p' hg hp _ _ hx _ _ _ => ?_, fun g p hg hp _ => ?_, fun g p hg hp hx => ?_⟩
    · rcases (by omega : f = 0 ∨ f = 1 ∨ f = 2 ∨ f = 3 ∨ f = 4 ∨ f = 5 ∨ f = 6 ∨ f = 7) with e | e | e | e | e | e | e | e <;> subst e <;> rfl
    · rw [hl] at hg
      rw [hg' g hg]
      exact ⟨rfl, hdl g hg, rfl⟩
    · rw [hl] at hg
      rw [hd g p hg hp]
      exact okM_at hok (by omega)
    · rw [hl] at hg; exact hm g p hg hp
    · rw [hl] at hg; rw [hm g p hg hp] at hx; cases hx
    · rw [hl] at hg; rw [hm g p hg hp] at hx; cases hx
    · rw [hl] at hg; exact hs g p hg hp
    · rw [hl] at hg; rw [hs g p hg hp] at hx; cases hx
  refine ⟨hK, hl, fun g hg => ?_⟩
  have hb2 : seeB (⟨zeroM 8, (List.range n).map (ldG ms), 0⟩ : Hst) (g : Int) = true := by
    unfold seeB
    rw [okHost_mk hK, hl]
    simp
    omega
  rw [seeH, hb2, cond_true, Int.toNat_natCast]
  show seeM _ (gOf (⟨zeroM 8, (List.range n).map (ldG ms), 0⟩ : Hst) g) = _
  apply List.ext_getElem?
  intro p
  by_cases hp : p < 6
  · have e1 := see_get (h := (⟨zeroM 8, (List.range n).map (ldG ms), 0⟩ : Hst)) (g := g) hp
    rw [pAt_eq, hm g p hg hp, hd g p hg hp] at e1
    have e2 := ld_get ms g p hp
    rw [List.getD_eq_getElem?_getD, List.getElem?_eq_getElem (by rw [seeM_len]; exact hp)] at e1
    rw [List.getD_eq_getElem?_getD, List.getElem?_eq_getElem (by rw [hdl g hg]; exact hp)] at e2
    rw [List.getElem?_eq_getElem (by rw [seeM_len]; exact hp), List.getElem?_eq_getElem (by rw [hdl g hg]; exact hp)]
    simp only [Option.getD_some] at e1 e2
    rw [e1, e2]
    rfl
  · rw [List.getElem?_eq_none (by rw [seeM_len]; omega), List.getElem?_eq_none (by rw [hdl g hg]; omega)]
end Go.Proofs.Ytdamdjhnhkmncaa
