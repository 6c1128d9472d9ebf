/-
  What is loaded, plainly: an ok host whose guests have what was loaded.
-/
import Derived.Test.YtjegndgdpmlbaaaKOPC
import Derived.Test.YtjegndgdpmlbaaaKOM
import Derived.Test.YtjegndgdpmlbaaaKOA
set_option linter.unusedSimpArgs false
namespace Go.Proofs.Ytjegndgdpmlbaaa
open Go.RowKit

theorem wf_sml {z : Int} (h0 : 0 ≤ z) (h7 : z ≤ 7) : (Lit.int .i64 z).wf = true := by
  rcases (by omega : z = 0 ∨ z = 1 ∨ z = 2 ∨ z = 3 ∨ z = 4 ∨ z = 5 ∨ z = 6 ∨ z = 7) with e | e | e | e | e | e | e | e <;> subst e <;> decide
theorem okH_wfs {h : Hst} (k : OkH h) : WfGs h.guests.length h.guests := fun i hi p hp => by
  cases hm : (mAt h i p).1
  · have := k.mo i p hi hp hm
    show (Lit.int .i64 (mAt h i p).2.1).wf = true
    rw [this]
    decide
  · obtain ⟨a, b, _⟩ := k.mi i p hi hp hm
    exact wf_sml a b
theorem ld_get (ms : List (List Int)) (g p : Nat) (hp : p < 6) : ((ms.drop (g * 6)).take 6).getD p [] = ms.getD (g * 6 + p) [] := by
  rw [List.getD_eq_getElem?_getD, List.getD_eq_getElem?_getD, List.getElem?_take_of_lt hp, List.getElem?_drop]
theorem load_ok {ms : List (List Int)} {n : Nat} (hlen : ms.length = n * 6) (h1 : 1 ≤ n) (h2 : n ≤ 2) (hb : loadB ms = true) : OkH (loadH ms) ∧ (loadH ms).guests.length = n ∧ ∀ g : Nat, g < n → seeH (loadH ms) (g : Int) = (ms.drop (g * 6)).take 6 := by
  have hok : okM ms = true := by
    unfold loadB at hb
    simp only [Bool.and_eq_true] at hb
    exact hb.1
  rw [loadH_yes hlen hb]
  have hl : (⟨zeroM 8, (List.range n).map (ldG ms), 0⟩ : Hst).guests.length = n := by simp
  have hg' : ∀ g, g < n → gOf (⟨zeroM 8, (List.range n).map (ldG ms), 0⟩ : Hst) g = ldG ms g := fun g hg => by
    show ((List.range n).map (ldG ms)).getD g noG = _
    simp [List.getD_eq_getElem?_getD, hg]
  have hm : ∀ g p, g < n → p < 6 → mAt (⟨zeroM 8, (List.range n).map (ldG ms), 0⟩ : Hst) g p = noM := fun g p hg hp => by
    unfold mAt
    rw [hg' g hg]
    rcases (by omega : p = 0 ∨ p = 1 ∨ p = 2 ∨ p = 3 ∨ p = 4 ∨ p = 5) with e | e | e | e | e | e <;> subst e <;> rfl
  have hs : ∀ g p, g < n → p < 6 → sAt (⟨zeroM 8, (List.range n).map (ldG ms), 0⟩ : Hst) g p = noS := fun g p hg hp => by
    unfold sAt
    rw [hg' g hg]
    rcases (by omega : p = 0 ∨ p = 1 ∨ p = 2 ∨ p = 3 ∨ p = 4 ∨ p = 5) with e | e | e | e | e | e <;> subst e <;> rfl
  have hd : ∀ g p, g < n → p < 6 → dAt (⟨zeroM 8, (List.range n).map (ldG ms), 0⟩ : Hst) g p = ms.getD (g * 6 + p) [] := fun g p hg hp => by
    unfold dAt
    rw [hg' g hg]
    exact ld_get ms g p hp
  have hdl : ∀ g, g < n → ((ms.drop (g * 6)).take 6).length = 6 := fun g hg => by
    rw [List.length_take, List.length_drop, hlen]
    have : g * 6 + 6 ≤ n * 6 := by omega
    omega
  have hK : OkH (⟨zeroM 8, (List.range n).map (ldG ms), 0⟩ : Hst) := by
    refine ⟨rfl, fun f hf => ?_, by rw [hl]; exact h1, by rw [hl]; exact h2, by show (0 : Int) ≤ 0; omega, by show (0 : Int) ≤ 7; omega, fun g hg => ?_, fun g p hg hp => ?_, fun g p hg hp _ => ?_, fun g p hg hp hx => ?_, fun g p g' p' hg hp _ _ hx _ _ _ => ?_, fun g p hg hp _ => ?_, fun g p hg hp hx => ?_⟩
    · rcases (by omega : f = 0 ∨ f = 1 ∨ f = 2 ∨ f = 3 ∨ f = 4 ∨ f = 5 ∨ f = 6 ∨ f = 7) with e | e | e | e | e | e | e | e <;> subst e <;> rfl
    · rw [hl] at hg
      rw [hg' g hg]
      exact ⟨rfl, hdl g hg, rfl⟩
    · rw [hl] at hg
      rw [hd g p hg hp]
      exact okM_at hok (by omega)
    · rw [hl] at hg; exact hm g p hg hp
    · rw [hl] at hg; rw [hm g p hg hp] at hx; cases hx
    · rw [hl] at hg; rw [hm g p hg hp] at hx; cases hx
    · rw [hl] at hg; exact hs g p hg hp
    · rw [hl] at hg; rw [hs g p hg hp] at hx; cases hx
  refine ⟨hK, hl, fun g hg => ?_⟩
  have hb2 : seeB (⟨zeroM 8, (List.range n).map (ldG ms), 0⟩ : Hst) (g : Int) = true := by
    unfold seeB
    rw [okHost_mk hK, hl]
    simp
    omega
  rw [seeH, hb2, cond_true, Int.toNat_natCast]
  show seeM _ (gOf (⟨zeroM 8, (List.range n).map (ldG ms), 0⟩ : Hst) g) = _
  apply List.ext_getElem?
  intro p
  by_cases hp : p < 6
  · have e1 := see_get (h := (⟨zeroM 8, (List.range n).map (ldG ms), 0⟩ : Hst)) (g := g) hp
    rw [pAt_eq, hm g p hg hp, hd g p hg hp] at e1
    have e2 := ld_get ms g p hp
    rw [List.getD_eq_getElem?_getD, List.getElem?_eq_getElem (by rw [seeM_len]; exact hp)] at e1
    rw [List.getD_eq_getElem?_getD, List.getElem?_eq_getElem (by rw [hdl g hg]; exact hp)] at e2
    rw [List.getElem?_eq_getElem (by rw [seeM_len]; exact hp), List.getElem?_eq_getElem (by rw [hdl g hg]; exact hp)]
    simp only [Option.getD_some] at e1 e2
    rw [e1, e2]
    rfl
  · rw [List.getElem?_eq_none (by rw [seeM_len]; omega), List.getElem?_eq_none (by rw [hdl g hg]; omega)]
end Go.Proofs.Ytjegndgdpmlbaaa

/-
  The hand behind a joining, and a move.
-/
namespace Go.Proofs.Ytjegndgdpmlbaaa
open Go.RowKit

theorem joinH_hand {h : Hst} (k : OkH h) : (joinH h).hand = h.hand := by
  rw [joinH]
  cases ht : twins h with
  | none => rfl
  | some x => exact (settleAll_at _ _ k.six (plc_share h x.2 x.1)).2.2.1
theorem moveH_hand {h : Hst} (k : OkH h) {F : Nat} (hF : F < 8) : (moveH h F).hand = h.hand := by
  rw [moveH]
  cases hb : moveB h F
  · rfl
  · simp only [moveB, Bool.and_eq_true, decide_eq_true_eq] at hb
    rcases firstH_cases h with ⟨e, _⟩ | ⟨r, e, hr, hu, _⟩
    · omega
    · rw [e, Int.toNat_natCast, cond_true]
      exact (move_ok k hF hr hu).2.2.1
end Go.Proofs.Ytjegndgdpmlbaaa

/-
  Acts, plainly: whose they are, when they are tidy, told by looking ahead (as the given one does) and by keeping each guest's last act (as the program does).
-/
namespace Go.Proofs.Ytjegndgdpmlbaaa
open Go.RowKit

/-- An act: kind, guest, page, place, word. -/
abbrev A5 := Int × Int × Int × Int × Int
def noA : A5 := (0, 0, 0, 0, 0)
def ownA (a : A5) : Bool := decide (1 ≤ a.1) && decide (a.1 ≤ 5)

end Go.Proofs.Ytjegndgdpmlbaaa

/-
  Each act on a host, plainly: an ok host stays ok; what the host does nobody sees; what a guest does no other one sees.
-/
namespace Go.Proofs.Ytjegndgdpmlbaaa
open Go.RowKit

def inI (z lo hi : Int) : Bool := decide (lo ≤ z) && decide (z ≤ hi)
theorem inI_iff {z lo hi : Int} : inI z lo hi = true ↔ lo ≤ z ∧ z ≤ hi := by simp [inI]
def actG (h : Hst) (a : A5) : Bool := inI a.2.1 0 ((h.guests.length : Int) - 1)
def placeA (a : A5) : Bool := inI a.2.2.1 0 5 && inI a.2.2.2.1 0 3
def wordA (a : A5) : Bool := inI a.2.2.2.2 0 63
/-- An act of a guest's own, of a guest that there is. -/
def guestH (h : Hst) (a : A5) : Hst × Int :=
  bif a.1 == 5 then (forgP h a.2.1.toNat, 0) else
    bif placeA a then
      (bif a.1 == 1 then (inP h a.2.1.toNat a.2.2.1.toNat, zAt h a.2.1.toNat a.2.2.1.toNat a.2.2.2.1.toNat) else
        bif a.1 == 3 then (rinH h a.2.1.toNat a.2.2.1.toNat, rinG h a.2.1.toNat a.2.2.1.toNat a.2.2.2.1.toNat) else
          bif wordA a then
            (bif a.1 == 2 then (wrH h a.2.1.toNat a.2.2.1.toNat a.2.2.2.1.toNat a.2.2.2.2, zAt h a.2.1.toNat a.2.2.1.toNat a.2.2.2.1.toNat) else (winH h a.2.1.toNat a.2.2.1.toNat a.2.2.2.1.toNat a.2.2.2.2, winG h a.2.1.toNat a.2.2.1.toNat a.2.2.2.1.toNat))
          else (h, -3))
    else (h, -3)
def doH (h : Hst) (a : A5) : Hst × Int :=
  bif a.1 == 6 then (bif actG h a && inI a.2.2.1 0 5 then (outP h a.2.1.toNat a.2.2.1.toNat, 0) else (h, -3)) else
    bif a.1 == 7 then (joinH h, bif joinB h then 0 else -3) else
      bif a.1 == 8 then (bif inI a.2.2.1 0 7 then (moveH h a.2.2.1.toNat, bif moveB h a.2.2.1.toNat then 0 else -3) else (h, -3)) else
        bif a.1 == 9 then (carP h, 0) else
          bif actG h a && ownA a then guestH h a else (h, -3)
/-- Ok still, with as many guests; and all but the given one see what they saw. -/
def Keeps (h h' : Hst) (q : Nat → Prop) : Prop := OkH h' ∧ h'.guests.length = h.guests.length ∧ ∀ g p, g < h.guests.length → p < 6 → ¬ q g → pAt h' g p = pAt h g p
theorem Keeps.refl {h : Hst} (k : OkH h) (q : Nat → Prop) : Keeps h h q := ⟨k, rfl, fun _ _ _ _ _ => rfl⟩
theorem guestH_keeps {h : Hst} (k : OkH h) {a : A5} (hg : actG h a = true) : Keeps h (guestH h a).1 (fun g => g = a.2.1.toNat) := by
  have hgl : a.2.1.toNat < h.guests.length := by have := inI_iff.1 hg; omega
  unfold guestH
  cases a.1 == 5
  · rw [cond_false]
    cases hp : placeA a
    · exact Keeps.refl k _
    · rw [cond_true]
      simp only [placeA, Bool.and_eq_true] at hp
      obtain ⟨hp1, hp2⟩ := hp
      have hp6 : a.2.2.1.toNat < 6 := by have := inI_iff.1 hp1; omega
      cases a.1 == 1
      · rw [cond_false]
        cases a.1 == 3
        · rw [cond_false]
          cases hw : wordA a
          · exact Keeps.refl k _
          · rw [cond_true]
            obtain ⟨w0, w63⟩ := inI_iff.1 hw
            cases a.1 == 2
            · rw [cond_false]
              obtain ⟨k1, l1, hd⟩ := win_ok k (o := a.2.2.2.1.toNat) hgl hp6 w0 w63
              refine ⟨k1, l1, fun g p h1 h2 h3 => ?_⟩
              rcases hd with ⟨_, _, hd⟩ | ⟨q, _, _, _, _, hd⟩
              · exact hd g p h1 h2
              · show pAt (winH h a.2.1.toNat a.2.2.1.toNat a.2.2.2.1.toNat a.2.2.2.2) g p = _
                rw [hd g p h1 h2, if_neg (fun e => h3 e.1)]
            · rw [cond_true]
              obtain ⟨k1, l1, hd⟩ := wrH_ok k (o := a.2.2.2.1.toNat) hgl hp6 w0 w63
              refine ⟨k1, l1, fun g p h1 h2 h3 => ?_⟩
              show pAt (wrH h a.2.1.toNat a.2.2.1.toNat a.2.2.2.1.toNat a.2.2.2.2) g p = _
              rw [hd g p h1 h2, if_neg (fun e => h3 e.1)]
        · rw [cond_true]
          obtain ⟨k1, l1, c1⟩ := rin_ok k hgl hp6
          exact ⟨k1, l1, fun g p h1 h2 _ => c1 g p h1 h2⟩
      · rw [cond_true]
        obtain ⟨k1, c1, _⟩ := inP_ok k hgl hp6
        exact ⟨k1, inP_len k _ _, fun g p h1 h2 _ => c1 g p h1 h2⟩
  · rw [cond_true]
    obtain ⟨k1, c1, _⟩ := forg_ok k hgl
    exact ⟨k1, forg_len _ _, fun g p _ _ _ => c1 g p⟩
theorem doH_keeps {h : Hst} (k : OkH h) (a : A5) : Keeps h (doH h a).1 (fun g => ownA a = true ∧ g = a.2.1.toNat) := by
  unfold doH
  cases a.1 == 6
  · rw [cond_false]
    cases a.1 == 7
    · rw [cond_false]
      cases a.1 == 8
      · rw [cond_false]
        cases a.1 == 9
        · rw [cond_false]
          cases hb : actG h a && ownA a
          · exact Keeps.refl k _
          · rw [cond_true]
            rw [Bool.and_eq_true] at hb
            obtain ⟨k1, l1, c1⟩ := guestH_keeps k hb.1
            exact ⟨k1, l1, fun g p h1 h2 h3 => c1 g p h1 h2 (fun e => h3 ⟨hb.2, e⟩)⟩
        · rw [cond_true]
          obtain ⟨k1, l1, c1, _⟩ := car_ok k
          exact ⟨k1, l1, fun g p h1 h2 _ => c1 g p h1 h2⟩
      · rw [cond_true]
        cases hb : inI a.2.2.1 0 7
        · exact Keeps.refl k _
        · rw [cond_true]
          obtain ⟨b0, b7⟩ := inI_iff.1 hb
          obtain ⟨k1, l1, c1⟩ := moveH_ok k (show a.2.2.1.toNat < 8 by omega)
          exact ⟨k1, l1, fun g p h1 h2 _ => c1 g p h1 h2⟩
    · rw [cond_true]
      obtain ⟨k1, l1, c1⟩ := join_ok k
      exact ⟨k1, l1, fun g p h1 h2 _ => c1 g p h1 h2⟩
  · rw [cond_true]
    cases hb : actG h a && inI a.2.2.1 0 5
    · exact Keeps.refl k _
    · rw [cond_true]
      rw [Bool.and_eq_true] at hb
      obtain ⟨b1, b2⟩ := hb
      have hg : a.2.1.toNat < h.guests.length := by have := inI_iff.1 b1; omega
      have hp : a.2.2.1.toNat < 6 := by have := inI_iff.1 b2; omega
      exact ⟨okHost_of (okHost_out (okHost_mk k) hg hp), outP_len _ _ _, fun g p _ _ _ => pAt_out k hg hp g p⟩
end Go.Proofs.Ytjegndgdpmlbaaa
