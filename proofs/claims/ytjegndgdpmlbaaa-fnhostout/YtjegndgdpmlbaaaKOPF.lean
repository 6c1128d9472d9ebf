/-
  The first two frames that have the same, found pair by pair.
-/
import Derived.Test.YtjegndgdpmlbaaaKOPC
import Derived.Test.YtjegndgdpmlbaaaKOPD
namespace Go.Proofs.Ytjegndgdpmlbaaa
open Go.RowKit

theorem find_first {α : Type} (p : α → Bool) : ∀ (l : List α) (i : Nat) (x : α), l[i]? = some x → p x = true → (∀ j y, j < i → l[j]? = some y → p y = false) → l.find? p = some x
  | [], i, x, h, _, _ => by simp at h
  | a :: l, 0, x, h, hp, _ => by
    simp only [List.getElem?_cons_zero, Option.some.injEq] at h
    subst h
    rw [List.find?_cons, hp]
  | a :: l, i + 1, x, h, hp, hno => by
    have h0 := hno 0 a (by omega) rfl
    rw [List.find?_cons, h0]
    exact find_first p l i x (by simpa using h) hp (fun j y hj hy => hno (j + 1) y (by omega) (by simpa using hy))
theorem find_none {α : Type} (p : α → Bool) (l : List α) (h : ∀ x, x ∈ l → p x = false) : l.find? p = none := by
  rw [List.find?_eq_none]
  intro x hx
  rw [h x hx]
  simp
/-- Pairs ahead of one. -/
def ahead (x y : Nat × Nat) : Bool := decide (x.1 < y.1) || (decide (x.1 = y.1) && decide (x.2 < y.2))
theorem pairs_at : ∀ t, t < 8 → ∀ f, f < 8 → t < f → ∃ i, i < 28 ∧ pairsL[i]? = some (t, f) ∧ ∀ j, j < i → ∃ y, pairsL[j]? = some y ∧ ahead y (t, f) = true ∧ y.1 < y.2 ∧ y.2 < 8 := by
  have h0 : pairsL = [(0, 1), (0, 2), (0, 3), (0, 4), (0, 5), (0, 6), (0, 7), (1, 2), (1, 3), (1, 4), (1, 5), (1, 6), (1, 7), (2, 3), (2, 4), (2, 5), (2, 6), (2, 7), (3, 4), (3, 5), (3, 6), (3, 7), (4, 5), (4, 6), (4, 7), (5, 6), (5, 7), (6, 7)] := by decide
  have key : ∀ i, i < 28 → ∀ j, j < i → ∃ x, pairsL[i]? = some x ∧ ∃ y, pairsL[j]? = some y ∧ ahead y x = true ∧ y.1 < y.2 ∧ y.2 < 8 := by
    rw [h0]
    have : ∀ i, i < 28 → ∀ j, j < i → (match ([(0, 1), (0, 2), (0, 3), (0, 4), (0, 5), (0, 6), (0, 7), (1, 2), (1, 3), (1, 4), (1, 5), (1, 6), (1, 7), (2, 3), (2, 4), (2, 5), (2, 6), (2, 7), (3, 4), (3, 5), (3, 6), (3, 7), (4, 5), (4, 6), (4, 7), (5, 6), (5, 7), (6, 7)] : List (Nat × Nat))[i]?, ([(0, 1), (0, 2), (0, 3), (0, 4), (0, 5), (0, 6), (0, 7), (1, 2), (1, 3), (1, 4), (1, 5), (1, 6), (1, 7), (2, 3), (2, 4), (2, 5), (2, 6), (2, 7), (3, 4), (3, 5), (3, 6), (3, 7), (4, 5), (4, 6), (4, 7), (5, 6), (5, 7), (6, 7)] : List (Nat × Nat))[j]? with
      | some x, some y => ahead y x && (decide (y.1 < y.2) && decide (y.2 < 8))
      | _, _ => false) = true := by decide
    intro i hi j hj
    have h1 := this i hi j hj
    split at h1
    · rename_i x y hx hy
      simp only [Bool.and_eq_true, decide_eq_true_eq] at h1
      exact ⟨x, hx, y, hy, h1.1, h1.2.1, h1.2.2⟩
    · cases h1
  intro t ht f hf htf
  obtain ⟨i, hi, he⟩ := List.getElem_of_mem (mem_pairsL.2 ⟨htf, hf⟩)
  have hi28 : i < 28 := by rw [h0] at hi; simpa using hi
  have he' : pairsL[i]? = some (t, f) := by rw [List.getElem?_eq_getElem hi, he]
  refine ⟨i, hi28, he', fun j hj => ?_⟩
  obtain ⟨x, hx, y, hy, h1, h2, h3⟩ := key i hi28 j hj
  rw [he'] at hx
  cases hx
  exact ⟨y, hy, h1, h2, h3⟩
theorem twins_some {h : Hst} {t f : Nat} (ht : t < f) (hf : f < 8) (hb : twinB h (t, f) = true) (hno : ∀ t' f', t' < f' → f' < 8 → (t' < t ∨ (t' = t ∧ f' < f)) → twinB h (t', f') = false) : twins h = some (t, f) := by
  obtain ⟨i, _, hi, hj⟩ := pairs_at t (by omega) f hf ht
  refine find_first _ _ i _ hi hb (fun j y hji hy => ?_)
  obtain ⟨y', hy', ha, h1, h2⟩ := hj j hji
  rw [hy] at hy'
  cases hy'
  obtain ⟨a, b⟩ := y
  simp only [ahead, Bool.or_eq_true, Bool.and_eq_true, decide_eq_true_eq] at ha
  exact hno a b h1 h2 ha
theorem twins_none {h : Hst} (hno : ∀ t f, t < f → f < 8 → twinB h (t, f) = false) : twins h = none :=
  find_none _ _ (fun x hx => by
    obtain ⟨a, b⟩ := x
    obtain ⟨h1, h2⟩ := mem_pairsL.1 hx
    exact hno a b h1 h2)
end Go.Proofs.Ytjegndgdpmlbaaa

/-
  What the given l13Same and l13Join do.
-/
set_option linter.unusedSimpArgs false
namespace Go.Proofs.Ytjegndgdpmlbaaa
open Go.RowKit
attribute [local go_sem ↓] Go.wp_at_zero Go.wp_at_succ exec_app
attribute [local go_sem] bigNext_ok

set_option maxRecDepth 100000 in
set_option maxHeartbeats 2000000 in
theorem specSame (b b' c c' : Nat) (xs ys : List Int) (w : World) (hx : Ints w b 0 xs) (hy : Ints w b' 0 ys) (h4 : xs.length = 4) (h4' : ys.length = 4) (hb : b < w.heap.size) (hb' : b' < w.heap.size) :
    Calls Try.prog 95 #[.slice (some ⟨b, 0, none⟩) 4 c, .slice (some ⟨b', 0, none⟩) 4 c'] w fun e w' => e = .returned (.bool (xs == ys)) ∧ Below w.heap.size w w' := by
  obtain ⟨res, hres⟩ : ∃ res, res = (xs == ys) := ⟨_, rfl⟩
  rw [← hres]
  have hno := hidE (fun k (hk : k < 4) (hne : xs.getD k 0 ≠ ys.getD k 0) => (show res = false by
    rw [hres]
    cases he : (xs == ys)
    · rfl
    · exact (hne (by rw [beq_iff_eq.1 he])).elim))
  have hyes := hidE (fun (hall : ∀ k, k < 4 → xs.getD k 0 = ys.getD k 0) => (show res = true by
    rw [hres, beq_iff_eq]
    exact list_ext 0 (by rw [h4, h4']) (fun i hi => hall i (by omega))))
  clear hres
  go_enter Try.func95, Try.ntmps95
  go_wp2_with (fail)
  go_loopw [5] (fun i wr => ∃ k : Nat, k ≤ 4 ∧ i = .int .i64 k ∧ Hid (∀ j, j < k → xs.getD j 0 = ys.getD j 0) ∧ Hid (Below w.heap.size w wr)) (fun i _ => 4 - (intOf i).toNat)
  case atStart => exact ⟨0, Nat.zero_le _, rfl, fun j hj => by omega, Below.refl _ _⟩
  case round =>
    obtain ⟨k, hk, rfl, HE, HB⟩ := hrel
    by_cases hkl : k < 4
    · have hki : (k : Int) < 4 := by omega
      have x1 : wr.cell? ⟨b, k, none⟩ = some (.int .i64 (xs.getD k 0)) := by have e := hx k (by omega); rw [Nat.zero_add] at e; exact (HB.out.cell (p := ⟨b, k, none⟩) hb).trans e
      have x2 : wr.cell? ⟨b', k, none⟩ = some (.int .i64 (ys.getD k 0)) := by have e := hy k (by omega); rw [Nat.zero_add] at e; exact (HB.out.cell (p := ⟨b', k, none⟩) hb').trans e
      have Hno := hidE (hno.out k hkl)
      obtain ⟨vx, hvx⟩ : ∃ vx, vx = xs.getD k 0 := ⟨_, rfl⟩
      obtain ⟨vy, hvy⟩ : ∃ vy, vy = ys.getD k 0 := ⟨_, rfl⟩
      rw [← hvx] at x1
      rw [← hvy] at x2
      rw [← hvx, ← hvy] at Hno
      have Hv := hidE (And.intro hvx hvy)
      clear hvx hvy
      by_cases he : vx = vy
      · subst he
        have Hm := hidE (show ∀ j, j < k + 1 → xs.getD j 0 = ys.getD j 0 from fun j hj => by
          by_cases e : j = k
          · rw [e, ← Hv.out.1, ← Hv.out.2]
          · exact HE.out j (by omega))
        clear Hno
        go_wp2_with (fail)
        go_quiet (fail)
        go_wp2
        go_roundw
        case rel => exact ⟨k + 1, by omega, by go_num, Hm.out, below_drewN HB.out _⟩
        case measure => simp [intOf]; omega
      · have hne : (vx == vy) = false := beq_eq_false_iff_ne.2 he
        have hn2 : (vx != vy) = true := by rw [bne, hne]; rfl
        have Hr := hidE (Hno.out he)
        clear Hno he
        go_wp2_with (fail)
        go_quiet (fail)
        go_wp2
        refine bodyPost_ret (v := .bool false) (by simp [results, Try.results95, go_sem]) rfl ?_
        rw [Hr.out]
        exact ⟨rfl, below_drewN HB.out _⟩
    · obtain rfl : k = 4 := by omega
      have Hr := hidE (hyes.out HE.out)
      go_wp2
      refine bodyPost_ret (v := .bool true) (by simp [results, Try.results95, go_sem]) rfl ?_
      rw [Hr.out]
      exact ⟨rfl, HB.out⟩

/-- Whether two frames are used and have the same. -/
theorem twinB_eq (h : Hst) (t f : Nat) : twinB h (t, f) = (decide (0 < usersH h t) && (decide (0 < usersH h f) && (fAt h t == fAt h f))) := rfl

set_option maxRecDepth 100000 in
set_option maxHeartbeats 8000000 in
theorem specJoin (N : Nat) (A : Pl → Nat) (h : Hst) (n cf cg : Nat) (w : World) (k : SepH w N A h) (kk : OkH h) (hn : h.guests.length = n) (hN : N ≤ w.heap.size) :
    Calls Try.prog 70 #[.agg #[.slice (some ⟨A .fr, 0, none⟩) 8 cf, .slice (some ⟨A .gs, 0, none⟩) n cg, .int .i64 h.hand]] w fun e w' => e = .returned (.tuple #[.agg #[.slice (some ⟨A .fr, 0, none⟩) 8 cf, .slice (some ⟨A .gs, 0, none⟩) n cg, .int .i64 h.hand], .bool (joinB h)]) ∧ Mv w w' w.heap.size N n A A (joinH h) := by
  obtain ⟨W2, hW2⟩ : ∃ W2, W2 = (w.alloc (.cells #[.slice (some ⟨A .fr, 0, none⟩) 8 cf, .slice (some ⟨A .gs, 0, none⟩) n cg, .int .i64 h.hand] 26)).alloc (.cells #[.slice none 0 0, .slice none 0 0, .int .i64 0] 26) := ⟨_, rfl⟩
  have B2 : Below w.heap.size w W2 := by rw [hW2]; exact ((Below.refl _ _).alloc (Nat.le_refl _) _).alloc (by simp) _
  have s2 : W2.heap.size ≤ w.heap.size + 2 ∧ w.heap.size + 2 ≤ W2.heap.size := by rw [hW2]; simp
  have p2 := hidE (show Var3 W2 w.heap.size (.slice (some ⟨A .fr, 0, none⟩) 8 cf) (.slice (some ⟨A .gs, 0, none⟩) n cg) (.int .i64 h.hand) by rw [hW2]; exact (var3_new w _ _ _ _).allocK _)
  have r2 := hidE (show Var3 W2 (w.heap.size + 1) (.slice none 0 0) (.slice none 0 0) (.int .i64 0) by rw [hW2]; exact var3_newK (by simp))
  have hAl : ∀ x, x.ok n → A x < w.heap.size := fun x hx => (k.low x (by rw [hn]; exact hx)).2
  have kW : SepH W2 N A h := k.belowK B2
  have Hus := hidE (fun (W : World) (B : Below W2.heap.size W2 W) (f : Nat) => specUsers N W.heap.size _ _ h (f : Int) W (by have := (kW.belowK B).hostIn cf cg; rw [hn] at this; exact this) (Nat.le_refl _) (by have := kk.n2; omega) (fun i hi => by rw [show (h.guests.getD i noG).maps.length = 6 from (kk.six i hi).1]; omega))
  have Hsame := hidE (fun (W : World) (B : Below W2.heap.size W2 W) (t f : Nat) (ht : t < 8) (hf : f < 8) (c1 c2 : Nat) => specSame (A (.page t)) (A (.page f)) c1 c2 (fAt h t) (fAt h f) W ((kW.belowK B).held (.page t) ht).1 ((kW.belowK B).held (.page f) hf).1 (kW.f4 t ht) (kW.f4 f hf) ((kW.belowK B).low (.page t) ht).2 ((kW.belowK B).low (.page f) hf).2)
  have Hsome := hidE (fun (t f : Nat) => twins_some (h := h) (t := t) (f := f))
  have Hnone := hidE (twins_none (h := h))
  obtain ⟨jb, hjb⟩ : ∃ jb, jb = joinB h := ⟨_, rfl⟩
  obtain ⟨jh, hjh⟩ : ∃ jh, jh = joinH h := ⟨_, rfl⟩
  have HJ := hidE (And.intro hjb hjh)
  rw [← hjb, ← hjh]
  clear hjb hjh
  have M2 := hidE (show Mv w W2 (w.heap.size + 2) N n A A h from Mv.start k hn B2 hN (Nat.le_add_right _ _) s2.2)
  go_enter Try.func70, Try.ntmps70
  go_wp2_with (fail)
  rw [← hW2]
  clear hW2
  have hAr := hidE (fun t (ht : t < 8) => (kW.held .fr trivial t ht).1)
  have lfr := (kW.low .fr trivial).2
  have l2 : w.heap.size < W2.heap.size := by omega
  clear kW k
  go_loopw [4, 5] (fun i _ wr => ∃ t : Nat, t ≤ 8 ∧ i = .int .i64 t ∧ Hid (∀ t' f', t' < f' → f' < 8 → t' < t → twinB h (t', f') = false) ∧ Hid (Below W2.heap.size W2 wr)) (fun i _ _ => 8 - (intOf i).toNat)
  case atStart => exact ⟨0, Nat.zero_le _, rfl, fun t' f' _ _ h3 => by omega, Below.refl _ _⟩
  case round =>
    obtain ⟨t, ht, rfl, HE, HB⟩ := hrel
    by_cases htl : t < 8
    · have hti : (t : Int) < 8 := by omega
      have hwt : IntKind.i64.wrap ((t : Int) + 1) = (t : Int) + 1 := wrap_small _ (by omega) (by omega)
      go_wp2_with (fail)
      go_loopw [5] (fun i wr => ∃ f : Nat, t + 1 ≤ f ∧ f ≤ 8 ∧ i = .int .i64 f ∧ Hid (∀ f', t < f' → f' < f → twinB h (t, f') = false) ∧ Hid (Below W2.heap.size W2 wr)) (fun i _ => 8 - (intOf i).toNat)
      case atStart => exact ⟨t + 1, Nat.le_refl _, by omega, by simp, fun f' h1 h2 => by omega, HB.out⟩
      case round =>
        clear HB
        obtain ⟨f, hf1, hf, rfl, HF, HB⟩ := hrel
        by_cases hfl : f < 8
        · have hfi : (f : Int) < 8 := by omega
          have P := hidE (p2.out.same (HB.out.block w.heap.size l2))
          obtain ⟨p0, p1, p3, f0, f1, f2⟩ := P.out
          have sB := HB.out.size
          have lP : w.heap.size < wr.heap.size := by omega
          obtain ⟨ut, hut⟩ : ∃ ut, ut = usersH h (t : Int) := ⟨_, rfl⟩
          obtain ⟨uf, huf⟩ : ∃ uf, uf = usersH h (f : Int) := ⟨_, rfl⟩
          have Hut := hidE (And.intro hut huf)
          clear hut huf
          have Hno := hidE (fun (e : twinB h (t, f) = false) => (show ∀ f', t < f' → f' < f + 1 → twinB h (t, f') = false from fun f' h1 h2 => by
            by_cases e2 : f' = f
            · rw [e2]; exact e
            · exact HF.out f' h1 (by omega)))
          have hut0 := hidE (And.intro (show usersH h (t : Int) = ut from Hut.out.1.symm) (show usersH h (f : Int) = uf from Hut.out.2.symm))
          obtain ⟨c1, x1⟩ := hAr.out t htl
          obtain ⟨c2, x2⟩ := hAr.out f hfl
          obtain ⟨Sx, hSE⟩ : ∃ Sx : World → Prop, Sx = fun W' => Below W2.heap.size W2 W' := ⟨_, rfl⟩
          have hSB : ∀ W', Below W2.heap.size W2 W' → Sx W' := by rw [hSE]; exact fun _ h => h
          have hSU : ∀ W', Sx W' → Below W2.heap.size W2 W' := by rw [hSE]; exact fun _ h => h
          have hcells : ∀ W', Sx W' → W'.cell? ⟨w.heap.size, 0, none⟩ = some (.slice (some ⟨A .fr, 0, none⟩) 8 cf) ∧ W'.cell? ⟨w.heap.size, 1, none⟩ = some (.slice (some ⟨A .gs, 0, none⟩) n cg) ∧ W'.cell? ⟨w.heap.size, 2, none⟩ = some (.int .i64 h.hand) ∧ W'.cell? ⟨A .fr, t, none⟩ = some (.slice (some ⟨A (.page t), 0, none⟩) 4 c1) ∧ W'.cell? ⟨A .fr, f, none⟩ = some (.slice (some ⟨A (.page f), 0, none⟩) 4 c2) := fun W' B => by
            obtain ⟨p0, p1, p3, _⟩ := p2.out.same ((hSU _ B).block w.heap.size l2)
            exact ⟨p0, p1, p3, ((hSU _ B).cell (p := ⟨A .fr, t, none⟩) lfr).trans x1, ((hSU _ B).cell (p := ⟨A .fr, f, none⟩) lfr).trans x2⟩
          have hC1 : ∀ W', Sx W' → Calls Try.prog 60 #[.agg #[.slice (some ⟨A .fr, 0, none⟩) 8 cf, .slice (some ⟨A .gs, 0, none⟩) n cg, .int .i64 h.hand], .int .i64 t] W' fun e w' => e = .returned (.int .i64 ut) ∧ Sx w' := fun W' B => by
            have hu := Hus.out W' (hSU _ B) t
            rw [hut0.out.1] at hu
            refine hu.mono ?_
            rintro e w' ⟨rfl, B'⟩
            exact ⟨rfl, hSB _ ((hSU _ B).trans (B'.mono (hSU _ B).size))⟩
          have hC2 : ∀ W', Sx W' → Calls Try.prog 60 #[.agg #[.slice (some ⟨A .fr, 0, none⟩) 8 cf, .slice (some ⟨A .gs, 0, none⟩) n cg, .int .i64 h.hand], .int .i64 f] W' fun e w' => e = .returned (.int .i64 uf) ∧ Sx w' := fun W' B => by
            have hu := Hus.out W' (hSU _ B) f
            rw [hut0.out.2] at hu
            refine hu.mono ?_
            rintro e w' ⟨rfl, B'⟩
            exact ⟨rfl, hSB _ ((hSU _ B).trans (B'.mono (hSU _ B).size))⟩
          obtain ⟨sm, hsm⟩ : ∃ sm, sm = (fAt h t == fAt h f) := ⟨_, rfl⟩
          have hC3 : ∀ W', Sx W' → Calls Try.prog 95 #[.slice (some ⟨A (.page t), 0, none⟩) 4 c1, .slice (some ⟨A (.page f), 0, none⟩) 4 c2] W' fun e w' => e = .returned (.bool sm) ∧ Sx w' := fun W' B => by
            have hu := Hsame.out W' (hSU _ B) t f htl hfl c1 c2
            rw [← hsm] at hu
            refine hu.mono ?_
            rintro e w' ⟨rfl, B'⟩
            exact ⟨rfl, hSB _ ((hSU _ B).trans (B'.mono (hSU _ B).size))⟩
          have hSd : ∀ W', Sx W' → Sx W'.drew := fun W' B => hSB _ (hSU _ B).drew
          have Hsm := hidE hsm
          clear hsm hSE x1 x2 p0 p1 p3 f0 f1 f2
          go_wp2_with (fail)
          by_cases h0t : ut = 0
          · have Hb := hidE (Hno.out (by rw [twinB_eq, ← Hut.out.1, h0t]; rfl))
            subst h0t
            refine wp_region_held_drew (S := Sx) (by kernel_rfl) (hSB _ (HB.out.drew)) (fun hHeld => ?_)
            refine wpAnyH_take (i := 0) (v := ?_) (by simp only [List.getElem?_toArray, List.getElem?_cons_succ, List.getElem?_cons_zero]; rfl) (by kernel_rfl) (by kernel_rfl) (by kernel_rfl) (by exact fun _ _ _ h => h) (Or.inl ⟨by rfl, ?_⟩) hHeld ?_
            rotate_left
            · intro W' hW'; obtain ⟨y0,y1,y2,y3,y4⟩ := hcells W' hW'; go_simp <;> with_reducible rfl
            simp only [Act.put, List.setIfInBounds_toArray, List.set_cons_zero, List.set_cons_succ]
            refine wpAnyH_take (i := 1) (v := ?_) (by simp only [List.getElem?_toArray, List.getElem?_cons_succ, List.getElem?_cons_zero]; rfl) (by kernel_rfl) (by kernel_rfl) (by kernel_rfl) (by exact fun _ _ _ h => h) (Or.inl ⟨by rfl, ?_⟩) hHeld ?_
            rotate_left
            · intro W' hW'; go_simp <;> with_reducible rfl
            simp only [Act.put, List.setIfInBounds_toArray, List.set_cons_zero, List.set_cons_succ]
            refine wpAnyH_ready (rs := [2]) (by kernel_rfl) (by simp) ?_
            refine AllReadyH.cons (by simp only [List.getElem?_toArray, List.getElem?_cons_succ, List.getElem?_cons_zero]; rfl) (fun K hK => ?_) AllReadyH.nil
            rw [if_pos (by rfl)]
            go_simp
            refine (hC1 _ hHeld).mono ?_
            clear hHeld
            rintro e W1 ⟨rfl, hS1⟩
            try go_wp2_with (fail)
            refine hK.out _ _ hS1 (fun hHeld => ?_)
            clear hK K hS1
            try simp only [Act.put, List.setIfInBounds_toArray, List.set_cons_zero, List.set_cons_succ]
            refine wpAnyH_take (i := 3) (v := ?_) (by simp only [List.getElem?_toArray, List.getElem?_cons_succ, List.getElem?_cons_zero]; rfl) (by kernel_rfl) (by kernel_rfl) (by kernel_rfl) (by exact fun _ _ _ h => h) (Or.inl ⟨by rfl, ?_⟩) hHeld ?_
            rotate_left
            · intro W' hW'; go_simp <;> with_reducible rfl
            simp only [Act.put, List.setIfInBounds_toArray, List.set_cons_zero, List.set_cons_succ]
            refine wpAnyH_take (i := 4) (v := ?_) (by simp only [List.getElem?_toArray, List.getElem?_cons_succ, List.getElem?_cons_zero]; rfl) (by kernel_rfl) (by kernel_rfl) (by kernel_rfl) (by exact fun _ _ _ h => h) (Or.inl ⟨by rfl, ?_⟩) hHeld ?_
            rotate_left
            · intro W' hW'; go_simp <;> with_reducible rfl
            simp only [Act.put, List.setIfInBounds_toArray, List.set_cons_zero, List.set_cons_succ]
            refine wpAnyH_take (i := 5) (v := undef) (by simp only [List.getElem?_toArray, List.getElem?_cons_succ, List.getElem?_cons_zero]; rfl) (by kernel_rfl) (by kernel_rfl) (by kernel_rfl) (by exact fun _ _ _ h => h) (Or.inr ⟨by rfl, rfl⟩) hHeld ?_
            try simp only [Act.put, List.setIfInBounds_toArray, List.set_cons_zero, List.set_cons_succ]
            refine wpAnyH_take (i := 6) (v := undef) (by simp only [List.getElem?_toArray, List.getElem?_cons_succ, List.getElem?_cons_zero]; rfl) (by kernel_rfl) (by kernel_rfl) (by kernel_rfl) (by exact fun _ _ _ h => h) (Or.inr ⟨by rfl, rfl⟩) hHeld ?_
            try simp only [Act.put, List.setIfInBounds_toArray, List.set_cons_zero, List.set_cons_succ]
            refine wpAnyH_take (i := 7) (v := undef) (by simp only [List.getElem?_toArray, List.getElem?_cons_succ, List.getElem?_cons_zero]; rfl) (by kernel_rfl) (by kernel_rfl) (by kernel_rfl) (by exact fun _ _ _ h => h) (Or.inr ⟨by rfl, rfl⟩) hHeld ?_
            try simp only [Act.put, List.setIfInBounds_toArray, List.set_cons_zero, List.set_cons_succ]
            refine wpAnyH_take (i := 8) (v := undef) (by simp only [List.getElem?_toArray, List.getElem?_cons_succ, List.getElem?_cons_zero]; rfl) (by kernel_rfl) (by kernel_rfl) (by kernel_rfl) (by exact fun _ _ _ h => h) (Or.inr ⟨by rfl, rfl⟩) hHeld ?_
            try simp only [Act.put, List.setIfInBounds_toArray, List.set_cons_zero, List.set_cons_succ]
            refine wpAnyH_take (i := 9) (v := ?_) (by simp only [List.getElem?_toArray, List.getElem?_cons_succ, List.getElem?_cons_zero]; rfl) (by kernel_rfl) (by kernel_rfl) (by kernel_rfl) (by exact fun _ _ _ h => h) (Or.inl ⟨by rfl, ?_⟩) hHeld ?_
            rotate_left
            · intro W' hW'; go_simp <;> with_reducible rfl
            simp only [Act.put, List.setIfInBounds_toArray, List.set_cons_zero, List.set_cons_succ]
            refine wpAnyH_take (i := 10) (v := ?_) (by simp only [List.getElem?_toArray, List.getElem?_cons_succ, List.getElem?_cons_zero]; rfl) (by kernel_rfl) (by kernel_rfl) (by kernel_rfl) (by exact fun _ _ _ h => h) (Or.inl ⟨by rfl, ?_⟩) hHeld ?_
            rotate_left
            · intro W' hW'; go_simp <;> with_reducible rfl
            simp only [Act.put, List.setIfInBounds_toArray, List.set_cons_zero, List.set_cons_succ]
            refine wpAnyH_take (i := 11) (v := undef) (by simp only [List.getElem?_toArray, List.getElem?_cons_succ, List.getElem?_cons_zero]; rfl) (by kernel_rfl) (by kernel_rfl) (by kernel_rfl) (by exact fun _ _ _ h => h) (Or.inr ⟨by rfl, rfl⟩) hHeld ?_
            try simp only [Act.put, List.setIfInBounds_toArray, List.set_cons_zero, List.set_cons_succ]
            refine wpAnyH_take (i := 12) (v := undef) (by simp only [List.getElem?_toArray, List.getElem?_cons_succ, List.getElem?_cons_zero]; rfl) (by kernel_rfl) (by kernel_rfl) (by kernel_rfl) (by exact fun _ _ _ h => h) (Or.inr ⟨by rfl, rfl⟩) hHeld ?_
            try simp only [Act.put, List.setIfInBounds_toArray, List.set_cons_zero, List.set_cons_succ]
            refine wpAnyH_take (i := 13) (v := undef) (by simp only [List.getElem?_toArray, List.getElem?_cons_succ, List.getElem?_cons_zero]; rfl) (by kernel_rfl) (by kernel_rfl) (by kernel_rfl) (by exact fun _ _ _ h => h) (Or.inr ⟨by rfl, rfl⟩) hHeld ?_
            try simp only [Act.put, List.setIfInBounds_toArray, List.set_cons_zero, List.set_cons_succ]
            refine wpAnyH_take (i := 14) (v := undef) (by simp only [List.getElem?_toArray, List.getElem?_cons_succ, List.getElem?_cons_zero]; rfl) (by kernel_rfl) (by kernel_rfl) (by kernel_rfl) (by exact fun _ _ _ h => h) (Or.inr ⟨by rfl, rfl⟩) hHeld ?_
            try simp only [Act.put, List.setIfInBounds_toArray, List.set_cons_zero, List.set_cons_succ]
            refine wpAnyH_take (i := 15) (v := undef) (by simp only [List.getElem?_toArray, List.getElem?_cons_succ, List.getElem?_cons_zero]; rfl) (by kernel_rfl) (by kernel_rfl) (by kernel_rfl) (by exact fun _ _ _ h => h) (Or.inr ⟨by rfl, rfl⟩) hHeld ?_
            try simp only [Act.put, List.setIfInBounds_toArray, List.set_cons_zero, List.set_cons_succ]
            refine wpAnyH_take (i := 16) (v := undef) (by simp only [List.getElem?_toArray, List.getElem?_cons_succ, List.getElem?_cons_zero]; rfl) (by kernel_rfl) (by kernel_rfl) (by kernel_rfl) (by exact fun _ _ _ h => h) (Or.inr ⟨by rfl, rfl⟩) hHeld ?_
            try simp only [Act.put, List.setIfInBounds_toArray, List.set_cons_zero, List.set_cons_succ]
            refine wpAnyH_take (i := 17) (v := undef) (by simp only [List.getElem?_toArray, List.getElem?_cons_succ, List.getElem?_cons_zero]; rfl) (by kernel_rfl) (by kernel_rfl) (by kernel_rfl) (by exact fun _ _ _ h => h) (Or.inr ⟨by rfl, rfl⟩) hHeld ?_
            try simp only [Act.put, List.setIfInBounds_toArray, List.set_cons_zero, List.set_cons_succ]
            refine wpAnyH_take (i := 18) (v := undef) (by simp only [List.getElem?_toArray, List.getElem?_cons_succ, List.getElem?_cons_zero]; rfl) (by kernel_rfl) (by kernel_rfl) (by kernel_rfl) (by exact fun _ _ _ h => h) (Or.inr ⟨by rfl, rfl⟩) hHeld ?_
            try simp only [Act.put, List.setIfInBounds_toArray, List.set_cons_zero, List.set_cons_succ]
            refine wpAnyH_take (i := 19) (v := undef) (by simp only [List.getElem?_toArray, List.getElem?_cons_succ, List.getElem?_cons_zero]; rfl) (by kernel_rfl) (by kernel_rfl) (by kernel_rfl) (by exact fun _ _ _ h => h) (Or.inr ⟨by rfl, rfl⟩) hHeld ?_
            try simp only [Act.put, List.setIfInBounds_toArray, List.set_cons_zero, List.set_cons_succ]
            refine wpAnyH_take (i := 20) (v := undef) (by simp only [List.getElem?_toArray, List.getElem?_cons_succ, List.getElem?_cons_zero]; rfl) (by kernel_rfl) (by kernel_rfl) (by kernel_rfl) (by exact fun _ _ _ h => h) (Or.inr ⟨by rfl, rfl⟩) hHeld ?_
            try simp only [Act.put, List.setIfInBounds_toArray, List.set_cons_zero, List.set_cons_succ]
            refine wpAnyH_take (i := 21) (v := undef) (by simp only [List.getElem?_toArray, List.getElem?_cons_succ, List.getElem?_cons_zero]; rfl) (by kernel_rfl) (by kernel_rfl) (by kernel_rfl) (by exact fun _ _ _ h => h) (Or.inr ⟨by rfl, rfl⟩) hHeld ?_
            try simp only [Act.put, List.setIfInBounds_toArray, List.set_cons_zero, List.set_cons_succ]
            refine wpAnyH_take (i := 22) (v := ?_) (by simp only [List.getElem?_toArray, List.getElem?_cons_succ, List.getElem?_cons_zero]; rfl) (by kernel_rfl) (by kernel_rfl) (by kernel_rfl) (by exact fun _ _ _ h => h) (Or.inl ⟨by rfl, ?_⟩) hHeld ?_
            rotate_left
            · intro W' hW'; go_simp <;> with_reducible rfl
            simp only [Act.put, List.setIfInBounds_toArray, List.set_cons_zero, List.set_cons_succ]
            refine wpAnyH_done (by kernel_rfl) ?_ _
            have HB4 := hidE (hSU _ hHeld)
            clear hC1 hC2 hC3 hSU hSB hcells hSd
            go_wp2
            go_roundw
            case rel => exact ⟨f + 1, by omega, by omega, by go_num, Hb.out, HB4.out⟩
            case measure => simp [intOf]; omega
          have h0ti : (0 : Int) < (ut : Int) := by omega
          have h0tn : 0 < ut := by omega
          by_cases h0f : uf = 0
          · have Hb := hidE (Hno.out (by rw [twinB_eq, ← Hut.out.2, h0f]; simp))
            subst h0f
            refine wp_region_held_drew (S := Sx) (by kernel_rfl) (hSB _ (HB.out.drew)) (fun hHeld => ?_)
            refine wpAnyH_take (i := 0) (v := ?_) (by simp only [List.getElem?_toArray, List.getElem?_cons_succ, List.getElem?_cons_zero]; rfl) (by kernel_rfl) (by kernel_rfl) (by kernel_rfl) (by exact fun _ _ _ h => h) (Or.inl ⟨by rfl, ?_⟩) hHeld ?_
            rotate_left
            · intro W' hW'; obtain ⟨y0,y1,y2,y3,y4⟩ := hcells W' hW'; go_simp <;> with_reducible rfl
            simp only [Act.put, List.setIfInBounds_toArray, List.set_cons_zero, List.set_cons_succ]
            refine wpAnyH_take (i := 1) (v := ?_) (by simp only [List.getElem?_toArray, List.getElem?_cons_succ, List.getElem?_cons_zero]; rfl) (by kernel_rfl) (by kernel_rfl) (by kernel_rfl) (by exact fun _ _ _ h => h) (Or.inl ⟨by rfl, ?_⟩) hHeld ?_
            rotate_left
            · intro W' hW'; go_simp <;> with_reducible rfl
            simp only [Act.put, List.setIfInBounds_toArray, List.set_cons_zero, List.set_cons_succ]
            refine wpAnyH_ready (rs := [2]) (by kernel_rfl) (by simp) ?_
            refine AllReadyH.cons (by simp only [List.getElem?_toArray, List.getElem?_cons_succ, List.getElem?_cons_zero]; rfl) (fun K hK => ?_) AllReadyH.nil
            rw [if_pos (by rfl)]
            go_simp
            refine (hC1 _ hHeld).mono ?_
            clear hHeld
            rintro e W1 ⟨rfl, hS1⟩
            try go_wp2_with (fail)
            refine hK.out _ _ hS1 (fun hHeld => ?_)
            clear hK K hS1
            try simp only [Act.put, List.setIfInBounds_toArray, List.set_cons_zero, List.set_cons_succ]
            refine wpAnyH_take (i := 3) (v := ?_) (by simp only [List.getElem?_toArray, List.getElem?_cons_succ, List.getElem?_cons_zero]; rfl) (by kernel_rfl) (by kernel_rfl) (by kernel_rfl) (by exact fun _ _ _ h => h) (Or.inl ⟨by rfl, ?_⟩) hHeld ?_
            rotate_left
            · intro W' hW'; go_simp <;> with_reducible rfl
            simp only [Act.put, List.setIfInBounds_toArray, List.set_cons_zero, List.set_cons_succ]
            refine wpAnyH_take (i := 4) (v := ?_) (by simp only [List.getElem?_toArray, List.getElem?_cons_succ, List.getElem?_cons_zero]; rfl) (by kernel_rfl) (by kernel_rfl) (by kernel_rfl) (by exact fun _ _ _ h => h) (Or.inl ⟨by rfl, ?_⟩) hHeld ?_
            rotate_left
            · intro W' hW'; go_simp <;> with_reducible rfl
            simp only [Act.put, List.setIfInBounds_toArray, List.set_cons_zero, List.set_cons_succ]
            refine wpAnyH_take (i := 5) (v := ?_) (by simp only [List.getElem?_toArray, List.getElem?_cons_succ, List.getElem?_cons_zero]; rfl) (by kernel_rfl) (by kernel_rfl) (by kernel_rfl) (by exact fun _ _ _ h => h) (Or.inl ⟨by rfl, ?_⟩) hHeld ?_
            rotate_left
            · intro W' hW'; obtain ⟨y0,y1,y2,y3,y4⟩ := hcells W' hW'; go_simp <;> with_reducible rfl
            simp only [Act.put, List.setIfInBounds_toArray, List.set_cons_zero, List.set_cons_succ]
            refine wpAnyH_take (i := 6) (v := ?_) (by simp only [List.getElem?_toArray, List.getElem?_cons_succ, List.getElem?_cons_zero]; rfl) (by kernel_rfl) (by kernel_rfl) (by kernel_rfl) (by exact fun _ _ _ h => h) (Or.inl ⟨by rfl, ?_⟩) hHeld ?_
            rotate_left
            · intro W' hW'; go_simp <;> with_reducible rfl
            simp only [Act.put, List.setIfInBounds_toArray, List.set_cons_zero, List.set_cons_succ]
            refine wpAnyH_ready (rs := [7]) (by kernel_rfl) (by simp) ?_
            refine AllReadyH.cons (by simp only [List.getElem?_toArray, List.getElem?_cons_succ, List.getElem?_cons_zero]; rfl) (fun K hK => ?_) AllReadyH.nil
            rw [if_pos (by rfl)]
            go_simp
            refine (hC2 _ hHeld).mono ?_
            clear hHeld
            rintro e W1 ⟨rfl, hS1⟩
            try go_wp2_with (fail)
            refine hK.out _ _ hS1 (fun hHeld => ?_)
            clear hK K hS1
            try simp only [Act.put, List.setIfInBounds_toArray, List.set_cons_zero, List.set_cons_succ]
            refine wpAnyH_take (i := 8) (v := ?_) (by simp only [List.getElem?_toArray, List.getElem?_cons_succ, List.getElem?_cons_zero]; rfl) (by kernel_rfl) (by kernel_rfl) (by kernel_rfl) (by exact fun _ _ _ h => h) (Or.inl ⟨by rfl, ?_⟩) hHeld ?_
            rotate_left
            · intro W' hW'; go_simp <;> with_reducible rfl
            simp only [Act.put, List.setIfInBounds_toArray, List.set_cons_zero, List.set_cons_succ]
            refine wpAnyH_take (i := 9) (v := ?_) (by simp only [List.getElem?_toArray, List.getElem?_cons_succ, List.getElem?_cons_zero]; rfl) (by kernel_rfl) (by kernel_rfl) (by kernel_rfl) (by exact fun _ _ _ h => h) (Or.inl ⟨by rfl, ?_⟩) hHeld ?_
            rotate_left
            · intro W' hW'; go_simp <;> with_reducible rfl
            simp only [Act.put, List.setIfInBounds_toArray, List.set_cons_zero, List.set_cons_succ]
            refine wpAnyH_take (i := 10) (v := ?_) (by simp only [List.getElem?_toArray, List.getElem?_cons_succ, List.getElem?_cons_zero]; rfl) (by kernel_rfl) (by kernel_rfl) (by kernel_rfl) (by exact fun _ _ _ h => h) (Or.inl ⟨by rfl, ?_⟩) hHeld ?_
            rotate_left
            · intro W' hW'; go_simp <;> with_reducible rfl
            simp only [Act.put, List.setIfInBounds_toArray, List.set_cons_zero, List.set_cons_succ]
            refine wpAnyH_take (i := 11) (v := undef) (by simp only [List.getElem?_toArray, List.getElem?_cons_succ, List.getElem?_cons_zero]; rfl) (by kernel_rfl) (by kernel_rfl) (by kernel_rfl) (by exact fun _ _ _ h => h) (Or.inr ⟨by rfl, rfl⟩) hHeld ?_
            try simp only [Act.put, List.setIfInBounds_toArray, List.set_cons_zero, List.set_cons_succ]
            refine wpAnyH_take (i := 12) (v := undef) (by simp only [List.getElem?_toArray, List.getElem?_cons_succ, List.getElem?_cons_zero]; rfl) (by kernel_rfl) (by kernel_rfl) (by kernel_rfl) (by exact fun _ _ _ h => h) (Or.inr ⟨by rfl, rfl⟩) hHeld ?_
            try simp only [Act.put, List.setIfInBounds_toArray, List.set_cons_zero, List.set_cons_succ]
            refine wpAnyH_take (i := 13) (v := undef) (by simp only [List.getElem?_toArray, List.getElem?_cons_succ, List.getElem?_cons_zero]; rfl) (by kernel_rfl) (by kernel_rfl) (by kernel_rfl) (by exact fun _ _ _ h => h) (Or.inr ⟨by rfl, rfl⟩) hHeld ?_
            try simp only [Act.put, List.setIfInBounds_toArray, List.set_cons_zero, List.set_cons_succ]
            refine wpAnyH_take (i := 14) (v := undef) (by simp only [List.getElem?_toArray, List.getElem?_cons_succ, List.getElem?_cons_zero]; rfl) (by kernel_rfl) (by kernel_rfl) (by kernel_rfl) (by exact fun _ _ _ h => h) (Or.inr ⟨by rfl, rfl⟩) hHeld ?_
            try simp only [Act.put, List.setIfInBounds_toArray, List.set_cons_zero, List.set_cons_succ]
            refine wpAnyH_take (i := 15) (v := undef) (by simp only [List.getElem?_toArray, List.getElem?_cons_succ, List.getElem?_cons_zero]; rfl) (by kernel_rfl) (by kernel_rfl) (by kernel_rfl) (by exact fun _ _ _ h => h) (Or.inr ⟨by rfl, rfl⟩) hHeld ?_
            try simp only [Act.put, List.setIfInBounds_toArray, List.set_cons_zero, List.set_cons_succ]
            refine wpAnyH_take (i := 16) (v := undef) (by simp only [List.getElem?_toArray, List.getElem?_cons_succ, List.getElem?_cons_zero]; rfl) (by kernel_rfl) (by kernel_rfl) (by kernel_rfl) (by exact fun _ _ _ h => h) (Or.inr ⟨by rfl, rfl⟩) hHeld ?_
            try simp only [Act.put, List.setIfInBounds_toArray, List.set_cons_zero, List.set_cons_succ]
            refine wpAnyH_take (i := 17) (v := undef) (by simp only [List.getElem?_toArray, List.getElem?_cons_succ, List.getElem?_cons_zero]; rfl) (by kernel_rfl) (by kernel_rfl) (by kernel_rfl) (by exact fun _ _ _ h => h) (Or.inr ⟨by rfl, rfl⟩) hHeld ?_
            try simp only [Act.put, List.setIfInBounds_toArray, List.set_cons_zero, List.set_cons_succ]
            refine wpAnyH_take (i := 18) (v := undef) (by simp only [List.getElem?_toArray, List.getElem?_cons_succ, List.getElem?_cons_zero]; rfl) (by kernel_rfl) (by kernel_rfl) (by kernel_rfl) (by exact fun _ _ _ h => h) (Or.inr ⟨by rfl, rfl⟩) hHeld ?_
            try simp only [Act.put, List.setIfInBounds_toArray, List.set_cons_zero, List.set_cons_succ]
            refine wpAnyH_take (i := 19) (v := undef) (by simp only [List.getElem?_toArray, List.getElem?_cons_succ, List.getElem?_cons_zero]; rfl) (by kernel_rfl) (by kernel_rfl) (by kernel_rfl) (by exact fun _ _ _ h => h) (Or.inr ⟨by rfl, rfl⟩) hHeld ?_
            try simp only [Act.put, List.setIfInBounds_toArray, List.set_cons_zero, List.set_cons_succ]
            refine wpAnyH_take (i := 20) (v := undef) (by simp only [List.getElem?_toArray, List.getElem?_cons_succ, List.getElem?_cons_zero]; rfl) (by kernel_rfl) (by kernel_rfl) (by kernel_rfl) (by exact fun _ _ _ h => h) (Or.inr ⟨by rfl, rfl⟩) hHeld ?_
            try simp only [Act.put, List.setIfInBounds_toArray, List.set_cons_zero, List.set_cons_succ]
            refine wpAnyH_take (i := 21) (v := undef) (by simp only [List.getElem?_toArray, List.getElem?_cons_succ, List.getElem?_cons_zero]; rfl) (by kernel_rfl) (by kernel_rfl) (by kernel_rfl) (by exact fun _ _ _ h => h) (Or.inr ⟨by rfl, rfl⟩) hHeld ?_
            try simp only [Act.put, List.setIfInBounds_toArray, List.set_cons_zero, List.set_cons_succ]
            refine wpAnyH_take (i := 22) (v := ?_) (by simp only [List.getElem?_toArray, List.getElem?_cons_succ, List.getElem?_cons_zero]; rfl) (by kernel_rfl) (by kernel_rfl) (by kernel_rfl) (by exact fun _ _ _ h => h) (Or.inl ⟨by rfl, ?_⟩) hHeld ?_
            rotate_left
            · intro W' hW'; go_simp <;> with_reducible rfl
            simp only [Act.put, List.setIfInBounds_toArray, List.set_cons_zero, List.set_cons_succ]
            refine wpAnyH_done (by kernel_rfl) ?_ _
            have HB4 := hidE (hSU _ hHeld)
            clear hC1 hC2 hC3 hSU hSB hcells hSd
            go_wp2
            go_roundw
            case rel => exact ⟨f + 1, by omega, by omega, by go_num, Hb.out, HB4.out⟩
            case measure => simp [intOf]; omega
          have h0fi : (0 : Int) < (uf : Int) := by omega
          have h0fn : 0 < uf := by omega
          have Htw := hidE (show twinB h (t, f) = sm by rw [twinB_eq, ← Hut.out.1, ← Hut.out.2, ← Hsm.out, decide_eq_true h0tn, decide_eq_true h0fn]; rfl)
          refine wp_region_held_drew (S := Sx) (by kernel_rfl) (hSB _ (HB.out.drew)) (fun hHeld => ?_)
          refine wpAnyH_take (i := 0) (v := ?_) (by simp only [List.getElem?_toArray, List.getElem?_cons_succ, List.getElem?_cons_zero]; rfl) (by kernel_rfl) (by kernel_rfl) (by kernel_rfl) (by exact fun _ _ _ h => h) (Or.inl ⟨by rfl, ?_⟩) hHeld ?_
          rotate_left
          · intro W' hW'; obtain ⟨y0,y1,y2,y3,y4⟩ := hcells W' hW'; go_simp <;> with_reducible rfl
          simp only [Act.put, List.setIfInBounds_toArray, List.set_cons_zero, List.set_cons_succ]
          refine wpAnyH_take (i := 1) (v := ?_) (by simp only [List.getElem?_toArray, List.getElem?_cons_succ, List.getElem?_cons_zero]; rfl) (by kernel_rfl) (by kernel_rfl) (by kernel_rfl) (by exact fun _ _ _ h => h) (Or.inl ⟨by rfl, ?_⟩) hHeld ?_
          rotate_left
          · intro W' hW'; go_simp <;> with_reducible rfl
          simp only [Act.put, List.setIfInBounds_toArray, List.set_cons_zero, List.set_cons_succ]
          refine wpAnyH_ready (rs := [2]) (by kernel_rfl) (by simp) ?_
          refine AllReadyH.cons (by simp only [List.getElem?_toArray, List.getElem?_cons_succ, List.getElem?_cons_zero]; rfl) (fun K hK => ?_) AllReadyH.nil
          rw [if_pos (by rfl)]
          go_simp
          refine (hC1 _ hHeld).mono ?_
          clear hHeld
          rintro e W1 ⟨rfl, hS1⟩
          try go_wp2_with (fail)
          refine hK.out _ _ hS1 (fun hHeld => ?_)
          clear hK K hS1
          try simp only [Act.put, List.setIfInBounds_toArray, List.set_cons_zero, List.set_cons_succ]
          refine wpAnyH_take (i := 3) (v := ?_) (by simp only [List.getElem?_toArray, List.getElem?_cons_succ, List.getElem?_cons_zero]; rfl) (by kernel_rfl) (by kernel_rfl) (by kernel_rfl) (by exact fun _ _ _ h => h) (Or.inl ⟨by rfl, ?_⟩) hHeld ?_
          rotate_left
          · intro W' hW'; go_simp <;> with_reducible rfl
          simp only [Act.put, List.setIfInBounds_toArray, List.set_cons_zero, List.set_cons_succ]
          refine wpAnyH_take (i := 4) (v := ?_) (by simp only [List.getElem?_toArray, List.getElem?_cons_succ, List.getElem?_cons_zero]; rfl) (by kernel_rfl) (by kernel_rfl) (by kernel_rfl) (by exact fun _ _ _ h => h) (Or.inl ⟨by rfl, ?_⟩) hHeld ?_
          rotate_left
          · intro W' hW'; go_simp <;> with_reducible rfl
          simp only [Act.put, List.setIfInBounds_toArray, List.set_cons_zero, List.set_cons_succ]
          refine wpAnyH_take (i := 5) (v := ?_) (by simp only [List.getElem?_toArray, List.getElem?_cons_succ, List.getElem?_cons_zero]; rfl) (by kernel_rfl) (by kernel_rfl) (by kernel_rfl) (by exact fun _ _ _ h => h) (Or.inl ⟨by rfl, ?_⟩) hHeld ?_
          rotate_left
          · intro W' hW'; obtain ⟨y0,y1,y2,y3,y4⟩ := hcells W' hW'; go_simp <;> with_reducible rfl
          simp only [Act.put, List.setIfInBounds_toArray, List.set_cons_zero, List.set_cons_succ]
          refine wpAnyH_take (i := 6) (v := ?_) (by simp only [List.getElem?_toArray, List.getElem?_cons_succ, List.getElem?_cons_zero]; rfl) (by kernel_rfl) (by kernel_rfl) (by kernel_rfl) (by exact fun _ _ _ h => h) (Or.inl ⟨by rfl, ?_⟩) hHeld ?_
          rotate_left
          · intro W' hW'; go_simp <;> with_reducible rfl
          simp only [Act.put, List.setIfInBounds_toArray, List.set_cons_zero, List.set_cons_succ]
          refine wpAnyH_ready (rs := [7]) (by kernel_rfl) (by simp) ?_
          refine AllReadyH.cons (by simp only [List.getElem?_toArray, List.getElem?_cons_succ, List.getElem?_cons_zero]; rfl) (fun K hK => ?_) AllReadyH.nil
          rw [if_pos (by rfl)]
          go_simp
          refine (hC2 _ hHeld).mono ?_
          clear hHeld
          rintro e W1 ⟨rfl, hS1⟩
          try go_wp2_with (fail)
          refine hK.out _ _ hS1 (fun hHeld => ?_)
          clear hK K hS1
          try simp only [Act.put, List.setIfInBounds_toArray, List.set_cons_zero, List.set_cons_succ]
          refine wpAnyH_take (i := 8) (v := ?_) (by simp only [List.getElem?_toArray, List.getElem?_cons_succ, List.getElem?_cons_zero]; rfl) (by kernel_rfl) (by kernel_rfl) (by kernel_rfl) (by exact fun _ _ _ h => h) (Or.inl ⟨by rfl, ?_⟩) hHeld ?_
          rotate_left
          · intro W' hW'; go_simp <;> with_reducible rfl
          simp only [Act.put, List.setIfInBounds_toArray, List.set_cons_zero, List.set_cons_succ]
          refine wpAnyH_take (i := 9) (v := ?_) (by simp only [List.getElem?_toArray, List.getElem?_cons_succ, List.getElem?_cons_zero]; rfl) (by kernel_rfl) (by kernel_rfl) (by kernel_rfl) (by exact fun _ _ _ h => h) (Or.inl ⟨by rfl, ?_⟩) hHeld ?_
          rotate_left
          · intro W' hW'; go_simp <;> with_reducible rfl
          simp only [Act.put, List.setIfInBounds_toArray, List.set_cons_zero, List.set_cons_succ]
          refine wpAnyH_take (i := 10) (v := ?_) (by simp only [List.getElem?_toArray, List.getElem?_cons_succ, List.getElem?_cons_zero]; rfl) (by kernel_rfl) (by kernel_rfl) (by kernel_rfl) (by exact fun _ _ _ h => h) (Or.inl ⟨by rfl, ?_⟩) hHeld ?_
          rotate_left
          · intro W' hW'; go_simp <;> with_reducible rfl
          simp only [Act.put, List.setIfInBounds_toArray, List.set_cons_zero, List.set_cons_succ]
          refine wpAnyH_take (i := 11) (v := ?_) (by simp only [List.getElem?_toArray, List.getElem?_cons_succ, List.getElem?_cons_zero]; rfl) (by kernel_rfl) (by kernel_rfl) (by kernel_rfl) (by exact fun _ _ _ h => h) (Or.inl ⟨by rfl, ?_⟩) hHeld ?_
          rotate_left
          · intro W' hW'; go_simp <;> with_reducible rfl
          simp only [Act.put, List.setIfInBounds_toArray, List.set_cons_zero, List.set_cons_succ]
          refine wpAnyH_take (i := 12) (v := ?_) (by simp only [List.getElem?_toArray, List.getElem?_cons_succ, List.getElem?_cons_zero]; rfl) (by kernel_rfl) (by kernel_rfl) (by kernel_rfl) (by exact fun _ _ _ h => h) (Or.inl ⟨by rfl, ?_⟩) hHeld ?_
          rotate_left
          · intro W' hW'; obtain ⟨y0,y1,y2,y3,y4⟩ := hcells W' hW'; go_simp <;> with_reducible rfl
          simp only [Act.put, List.setIfInBounds_toArray, List.set_cons_zero, List.set_cons_succ]
          refine wpAnyH_take (i := 13) (v := ?_) (by simp only [List.getElem?_toArray, List.getElem?_cons_succ, List.getElem?_cons_zero]; rfl) (by kernel_rfl) (by kernel_rfl) (by kernel_rfl) (by exact fun _ _ _ h => h) (Or.inl ⟨by rfl, ?_⟩) hHeld ?_
          rotate_left
          · intro W' hW'; go_simp <;> with_reducible rfl
          simp only [Act.put, List.setIfInBounds_toArray, List.set_cons_zero, List.set_cons_succ]
          refine wpAnyH_take (i := 14) (v := ?_) (by simp only [List.getElem?_toArray, List.getElem?_cons_succ, List.getElem?_cons_zero]; rfl) (by kernel_rfl) (by kernel_rfl) (by kernel_rfl) (by exact fun _ _ _ h => h) (Or.inl ⟨by rfl, ?_⟩) hHeld ?_
          rotate_left
          · intro W' hW'; go_simp <;> with_reducible rfl
          simp only [Act.put, List.setIfInBounds_toArray, List.set_cons_zero, List.set_cons_succ]
          refine wpAnyH_take (i := 15) (v := ?_) (by simp only [List.getElem?_toArray, List.getElem?_cons_succ, List.getElem?_cons_zero]; rfl) (by kernel_rfl) (by kernel_rfl) (by kernel_rfl) (by exact fun _ _ _ h => h) (Or.inl ⟨by rfl, ?_⟩) hHeld ?_
          rotate_left
          · intro W' hW'; obtain ⟨y0,y1,y2,y3,y4⟩ := hcells W' hW'; go_simp <;> with_reducible rfl
          simp only [Act.put, List.setIfInBounds_toArray, List.set_cons_zero, List.set_cons_succ]
          refine wpAnyH_take (i := 16) (v := ?_) (by simp only [List.getElem?_toArray, List.getElem?_cons_succ, List.getElem?_cons_zero]; rfl) (by kernel_rfl) (by kernel_rfl) (by kernel_rfl) (by exact fun _ _ _ h => h) (Or.inl ⟨by rfl, ?_⟩) hHeld ?_
          rotate_left
          · intro W' hW'; go_simp <;> with_reducible rfl
          simp only [Act.put, List.setIfInBounds_toArray, List.set_cons_zero, List.set_cons_succ]
          refine wpAnyH_take (i := 17) (v := ?_) (by simp only [List.getElem?_toArray, List.getElem?_cons_succ, List.getElem?_cons_zero]; rfl) (by kernel_rfl) (by kernel_rfl) (by kernel_rfl) (by exact fun _ _ _ h => h) (Or.inl ⟨by rfl, ?_⟩) hHeld ?_
          rotate_left
          · intro W' hW'; obtain ⟨y0,y1,y2,y3,y4⟩ := hcells W' hW'; go_simp <;> with_reducible rfl
          simp only [Act.put, List.setIfInBounds_toArray, List.set_cons_zero, List.set_cons_succ]
          refine wpAnyH_take (i := 18) (v := ?_) (by simp only [List.getElem?_toArray, List.getElem?_cons_succ, List.getElem?_cons_zero]; rfl) (by kernel_rfl) (by kernel_rfl) (by kernel_rfl) (by exact fun _ _ _ h => h) (Or.inl ⟨by rfl, ?_⟩) hHeld ?_
          rotate_left
          · intro W' hW'; go_simp <;> with_reducible rfl
          simp only [Act.put, List.setIfInBounds_toArray, List.set_cons_zero, List.set_cons_succ]
          refine wpAnyH_take (i := 19) (v := ?_) (by simp only [List.getElem?_toArray, List.getElem?_cons_succ, List.getElem?_cons_zero]; rfl) (by kernel_rfl) (by kernel_rfl) (by kernel_rfl) (by exact fun _ _ _ h => h) (Or.inl ⟨by rfl, ?_⟩) hHeld ?_
          rotate_left
          · intro W' hW'; go_simp <;> with_reducible rfl
          simp only [Act.put, List.setIfInBounds_toArray, List.set_cons_zero, List.set_cons_succ]
          refine wpAnyH_take (i := 20) (v := ?_) (by simp only [List.getElem?_toArray, List.getElem?_cons_succ, List.getElem?_cons_zero]; rfl) (by kernel_rfl) (by kernel_rfl) (by kernel_rfl) (by exact fun _ _ _ h => h) (Or.inl ⟨by rfl, ?_⟩) hHeld ?_
          rotate_left
          · intro W' hW'; obtain ⟨y0,y1,y2,y3,y4⟩ := hcells W' hW'; go_simp <;> with_reducible rfl
          simp only [Act.put, List.setIfInBounds_toArray, List.set_cons_zero, List.set_cons_succ]
          refine wpAnyH_ready (rs := [21]) (by kernel_rfl) (by simp) ?_
          refine AllReadyH.cons (by simp only [List.getElem?_toArray, List.getElem?_cons_succ, List.getElem?_cons_zero]; rfl) (fun K hK => ?_) AllReadyH.nil
          rw [if_pos (by rfl)]
          go_simp
          refine (hC3 _ hHeld).mono ?_
          clear hHeld
          rintro e W1 ⟨rfl, hS1⟩
          try go_wp2_with (fail)
          refine hK.out _ _ hS1 (fun hHeld => ?_)
          clear hK K hS1
          try simp only [Act.put, List.setIfInBounds_toArray, List.set_cons_zero, List.set_cons_succ]
          refine wpAnyH_take (i := 22) (v := ?_) (by simp only [List.getElem?_toArray, List.getElem?_cons_succ, List.getElem?_cons_zero]; rfl) (by kernel_rfl) (by kernel_rfl) (by kernel_rfl) (by exact fun _ _ _ h => h) (Or.inl ⟨by rfl, ?_⟩) hHeld ?_
          rotate_left
          · intro W' hW'; go_simp <;> with_reducible rfl
          simp only [Act.put, List.setIfInBounds_toArray, List.set_cons_zero, List.set_cons_succ]
          refine wpAnyH_done (by kernel_rfl) ?_ _
          have HB4 := hidE (hSU _ hHeld)
          cases sm
          · have Hb := hidE (Hno.out Htw.out)
            clear hC1 hC2 hC3 hSU hSB hcells hSd
            go_wp2
            go_roundw
            case rel => exact ⟨f + 1, by omega, by omega, by go_num, Hb.out, HB4.out⟩
            case measure => simp [intOf]; omega
          · have Hj := hidE (show jb = true ∧ jh = shareP h f t by
              have e := Hsome.out t f (by omega) hfl Htw.out (fun t' f' h1 h2 h3 => by
                rcases h3 with h3 | ⟨rfl, h3⟩
                · exact HE.out t' f' h1 h2 h3
                · exact HF.out f' h1 h3)
              rw [HJ.out.1, HJ.out.2, joinB, joinH, e]
              exact ⟨rfl, rfl⟩)
            have M4 := hidE (M2.out.below hN HB4.out)
            have hsh := specShare N A h f t n cf cg h.hand W1 M4.out.sep hn (by have := M4.out.size; omega)
            obtain ⟨p0, p1, p3, _⟩ := hcells W1 hHeld
            have sB4 := HB4.out.size
            have R4 := hidE (r2.out.same (HB4.out.block (w.heap.size + 1) (by omega)))
            have lP4 : w.heap.size < W1.heap.size := by omega
            clear hC1 hC2 hC3 hSU hSB hcells hSd hHeld
            go_wp2_with (fail)
            refine hsh.mono ?_
            rintro e w5 ⟨rfl, M5⟩
            have M05 := hidE (M4.out.call hAl M5)
            obtain ⟨y0, y1, y2, d0, d1, d2⟩ := R4.out.same (M4.out.own hAl M5 (Nat.le_succ _) (by omega))
            have hs5 := M05.out.hi
            have lR : w.heap.size + 1 < w5.heap.size := by omega
            clear hsh M5 p0 p1 p3
            go_wp2
            refine bodyPost_ret (v := .tuple #[.agg #[.slice (some ⟨A .fr, 0, none⟩) 8 cf, .slice (some ⟨A .gs, 0, none⟩) n cg, .int .i64 h.hand], .bool true]) (by simp [results, Try.results70, go_sem, *]) rfl ?_
            rw [Hj.out.1, Hj.out.2]
            exact ⟨rfl, (M05.out.off3 hAl (b := w.heap.size + 1) (by omega) (by omega) hN _ _ _).weak (Nat.le_refl _) (by omega)⟩
        · obtain rfl : f = 8 := by omega
          have Hn := hidE (show ∀ t' f', t' < f' → f' < 8 → t' < t + 1 → twinB h (t', f') = false from fun t' f' h1 h2 h3 => by
            by_cases e : t' = t
            · rw [e] at h1 ⊢; exact HF.out f' h1 h2
            · exact HE.out t' f' h1 h2 (by omega))
          clear HF HE
          go_wp2
          go_roundw
          case rel => exact ⟨t + 1, by omega, by go_num, Hn.out, HB.out⟩
          case measure => simp [intOf]; omega
    · obtain rfl : t = 8 := by omega
      have Hj := hidE (show jb = false ∧ jh = h by
        have e := Hnone.out (fun t f h1 h2 => HE.out t f h1 h2 (by omega))
        rw [HJ.out.1, HJ.out.2, joinB, joinH, e]
        exact ⟨rfl, rfl⟩)
      obtain ⟨p0, p1, p3, f0, f1, f2⟩ := p2.out.same (HB.out.block w.heap.size l2)
      obtain ⟨y0, y1, y2, d0, d1, d2⟩ := r2.out.same (HB.out.block (w.heap.size + 1) (by omega))
      have sB := HB.out.size
      have lP : w.heap.size < wr.heap.size := by omega
      have lR : w.heap.size + 1 < wr.heap.size := by omega
      go_wp2
      refine bodyPost_ret (v := .tuple #[.agg #[.slice (some ⟨A .fr, 0, none⟩) 8 cf, .slice (some ⟨A .gs, 0, none⟩) n cg, .int .i64 h.hand], .bool false]) (by simp [results, Try.results70, go_sem, *]) rfl ?_
      rw [Hj.out.1, Hj.out.2]
      exact ⟨rfl, ((M2.out.below hN HB.out).off3 hAl (b := w.heap.size + 1) (by omega) (by omega) hN _ _ _).weak (Nat.le_refl _) (by omega)⟩
end Go.Proofs.Ytjegndgdpmlbaaa
