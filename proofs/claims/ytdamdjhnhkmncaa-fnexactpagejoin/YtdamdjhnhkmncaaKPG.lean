/-
  What the program's own twins does: the first two frames that are used and have the same.
-/
import Derived.Test.YtdamdjhnhkmncaaKAD
import Derived.Test.YtdamdjhnhkmncaaKPF
import Derived.Test.YtdamdjhnhkmncaaKEqSheet0
import Derived.Deep.Upon
import Derived.Deep.AppendSrc
import Derived.Test.YtdamdjhnhkmncaaKPD
set_option linter.unusedSimpArgs false
namespace Go.Proofs.Ytdamdjhnhkmncaa
open Go.RowKit
attribute [local go_sem ↓] Go.wp_at_zero Go.wp_at_succ exec_app exec_lod exec_house exec_mapsA exec_allocL exec_storeL exec_buildL exec_idxM exec_look exec_upd exec_allocH exec_buildH exec_storeH exec_bsL exec_storeQ exec_loadQ exec_idxQ
attribute [local go_sem] bigNext_ok bigSkip_ok

theorem twinB_eq' (h : Hst) (t f : Nat) : twinB h (t, f) = (decide (0 < usersH h t) && (decide (0 < usersH h f) && (fAt h t == fAt h f))) := rfl
set_option maxRecDepth 100000 in
set_option maxHeartbeats 8000000 in
theorem implTwins (B L c : Nat) (h : Hst) (w : World) (hW : HouseW w B L c h) (k : OkH h) :
    Calls Try.prog 121 #[.pointer (some ⟨B, 0, none⟩)] w fun e w' => ∃ a b : Nat, e = .returned (.tuple #[.int .i64 a, .int .i64 b, .bool (joinB h)]) ∧ (joinB h = true → twins h = some (a, b)) ∧ Below w.heap.size w w' := by
  have hgv := hW.give
  have hl2 := hW.2.2.2.2.2.2.2.1
  have lB := hW.2.2.2.2.2.2.2.2.1
  have lL := hW.2.2.2.2.2.2.2.2.2
  have ht := implTenants L h.guests.length c h.frames h.hand h.guests w k.f8 rfl hl2 (fun i hi => (hW.lodAt hi).1) (okH_wf k) lL (fun i hi => (hW.lodAt hi).2.1)
  have Hten := hidE (fun f : Nat => ten_users h (f : Int) (fun i hi => (k.six i hi).1))
  have Hsome := hidE (fun (t f : Nat) => twins_some (h := h) (t := t) (f := f))
  have Hnone := hidE (twins_none (h := h))
  obtain ⟨jb, hjb⟩ : ∃ jb, jb = joinB h := ⟨_, rfl⟩
  have HJ := hidE hjb
  have HW := hidE hW
  rw [← hjb]
  clear hW hjb
  generalize hhs : (houseC h.frames (.slice (some ⟨L, 0, none⟩) h.guests.length c) h.hand).toArray = hs at *
  go_enter Try.func121, Try.ntmps121
  go_wp2_with (fail)
  refine ht.mono ?_
  rintro e w2 ⟨r, rfl, hr, hWho, B2⟩
  have s2 := B2.size
  have K2 := hidE (HW.out.belowK B2)
  have HB2 := hidE B2
  have Hlk := hidE (fun (f : Nat) (hf : f < 8) => (show ∃ a cw, ∀ W, Below w2.heap.size w2 W → lookRun Try.prog 137 (.map (some r)) (.int .i64 (f : Int)) W = .ok (.slice a (usersH h (f : Int)) cw) W from by
    obtain ⟨a, cw, hlk, _⟩ := hWho.look (f : Int) (wf_small (by omega) (by omega))
    refine ⟨a, cw, fun W hW => ?_⟩
    have e := hlk W (hW.block r hWho.lt)
    rw [Hten.out f] at e
    exact e))
  clear ht hWho B2 hgv hhs HW
  go_wp2_with (fail)
  go_loopw [6, 7, 12] (fun _ _ i wr => ∃ t : Nat, t ≤ 8 ∧ i = .int .i64 t ∧ Hid (∀ t' f', t' < f' → f' < 8 → t' < t → twinB h (t', f') = false) ∧ Hid (Below w2.heap.size w2 wr)) (fun _ _ i _ => 8 - (intOf i).toNat)
  case atStart => exact ⟨0, Nat.zero_le _, rfl, fun t' f' _ _ h3 => by omega, Below.refl _ _⟩
  case round =>
    obtain ⟨t, ht, rfl, HE, HB⟩ := hrel
    by_cases htl : t < 8
    · have hti : (t : Int) < 8 := by omega
      have hwt : IntKind.i64.wrap ((t : Int) + 1) = (t : Int) + 1 := wrap_small _ (by omega) (by omega)
      go_wp2_with (fail)
      go_loopw [7] (fun i wr => ∃ f : Nat, t + 1 ≤ f ∧ f ≤ 8 ∧ i = .int .i64 f ∧ Hid (∀ f', t < f' → f' < f → twinB h (t, f') = false) ∧ Hid (Below w2.heap.size w2 wr)) (fun i _ => 8 - (intOf i).toNat)
      case atStart => exact ⟨t + 1, Nat.le_refl _, by omega, by simp, fun f' h1 h2 => by omega, HB.out⟩
      case round =>
        clear HB
        obtain ⟨f, hf1, hf, rfl, HF, HB⟩ := hrel
        by_cases hfl : f < 8
        · have hfi : (f : Int) < 8 := by omega
          obtain ⟨ut, hut⟩ : ∃ ut, ut = usersH h (t : Int) := ⟨_, rfl⟩
          obtain ⟨uf, huf⟩ : ∃ uf, uf = usersH h (f : Int) := ⟨_, rfl⟩
          obtain ⟨a1, c1, hl1⟩ := Hlk.out t htl
          obtain ⟨a2, c2, hl2'⟩ := Hlk.out f hfl
          rw [← hut] at hl1
          rw [← huf] at hl2'
          have Hut := hidE (And.intro hut huf)
          clear hut huf
          have Hno := hidE (fun (e : twinB h (t, f) = false) => (show ∀ f', t < f' → f' < f + 1 → twinB h (t, f') = false from fun f' h1 h2 => by
            by_cases e2 : f' = f
            · rw [e2]; exact e
            · exact HF.out f' h1 (by omega)))
          have kB := K2.out
          obtain ⟨q0, _⟩ := kB.wordAt htl (o := 0) (by omega)
          obtain ⟨q1, _⟩ := kB.wordAt htl (o := 1) (by omega)
          obtain ⟨q2, _⟩ := kB.wordAt htl (o := 2) (by omega)
          obtain ⟨q3, _⟩ := kB.wordAt htl (o := 3) (by omega)
          obtain ⟨r0, _⟩ := kB.wordAt hfl (o := 0) (by omega)
          obtain ⟨r1, _⟩ := kB.wordAt hfl (o := 1) (by omega)
          obtain ⟨r2, _⟩ := kB.wordAt hfl (o := 2) (by omega)
          obtain ⟨r3, _⟩ := kB.wordAt hfl (o := 3) (by omega)
          rw [Nat.add_zero] at q0 r0
          have hft := four (kB.2.2.2.2.2.2.1 t htl)
          have hff := four (kB.2.2.2.2.2.2.1 f hfl)
          rw [show h.frames.getD t [] = fAt h t from rfl] at hft
          rw [show h.frames.getD f [] = fAt h f from rfl] at hff
          obtain ⟨x0, hx0⟩ : ∃ x, x = (fAt h t).getD 0 0 := ⟨_, rfl⟩
          obtain ⟨z0, hz0⟩ : ∃ x, x = (fAt h f).getD 0 0 := ⟨_, rfl⟩
          obtain ⟨x1, hx1⟩ : ∃ x, x = (fAt h t).getD 1 0 := ⟨_, rfl⟩
          obtain ⟨z1, hz1⟩ : ∃ x, x = (fAt h f).getD 1 0 := ⟨_, rfl⟩
          obtain ⟨x2, hx2⟩ : ∃ x, x = (fAt h t).getD 2 0 := ⟨_, rfl⟩
          obtain ⟨z2, hz2⟩ : ∃ x, x = (fAt h f).getD 2 0 := ⟨_, rfl⟩
          obtain ⟨x3, hx3⟩ : ∃ x, x = (fAt h t).getD 3 0 := ⟨_, rfl⟩
          obtain ⟨z3, hz3⟩ : ∃ x, x = (fAt h f).getD 3 0 := ⟨_, rfl⟩
          rw [← hx0, ← hx1, ← hx2, ← hx3] at hft
          rw [← hz0, ← hz1, ← hz2, ← hz3] at hff
          rw [← hx0] at q0
          rw [← hz0] at r0
          rw [← hx1] at q1
          rw [← hz1] at r1
          rw [← hx2] at q2
          rw [← hz2] at r2
          rw [← hx3] at q3
          rw [← hz3] at r3
          have heq := fun W => eq_sheet x0 x1 x2 x3 z0 z1 z2 z3 W
          have hsm0 : (fAt h t == fAt h f) = (x0 == z0 && (x1 == z1 && (x2 == z2 && x3 == z3))) := by
            rw [hft, hff]
            simp only [List.cons_beq_cons, List.beq_nil_eq, List.isEmpty_nil, Bool.and_true]
          obtain ⟨sm, hsm⟩ : ∃ sm, sm = (x0 == z0 && (x1 == z1 && (x2 == z2 && x3 == z3))) := ⟨_, rfl⟩
          rw [← hsm] at hsm0
          simp only [← hsm] at heq
          have Hsm := hidE hsm0
          have lB2 : B < w2.heap.size := by omega
          obtain ⟨Sx, hSE⟩ : ∃ Sx : World → Prop, Sx = fun W' => Below w2.heap.size w2 W' := ⟨_, rfl⟩
          have hSB : ∀ W', Below w2.heap.size w2 W' → Sx W' := by rw [hSE]; exact fun _ h => h
          have hSU : ∀ W', Sx W' → Below w2.heap.size w2 W' := by rw [hSE]; exact fun _ h => h
          have hcells : ∀ W', Sx W' → lookRun Try.prog 137 (.map (some r)) (.int .i64 (t : Int)) W' = .ok (.slice a1 ut c1) W' ∧ lookRun Try.prog 137 (.map (some r)) (.int .i64 (f : Int)) W' = .ok (.slice a2 uf c2) W' ∧ W'.cell? ⟨B, t * 4, none⟩ = some (.int .i64 x0) ∧ W'.cell? ⟨B, t * 4 + 1, none⟩ = some (.int .i64 x1) ∧ W'.cell? ⟨B, t * 4 + 2, none⟩ = some (.int .i64 x2) ∧ W'.cell? ⟨B, t * 4 + 3, none⟩ = some (.int .i64 x3) ∧ W'.cell? ⟨B, f * 4, none⟩ = some (.int .i64 z0) ∧ W'.cell? ⟨B, f * 4 + 1, none⟩ = some (.int .i64 z1) ∧ W'.cell? ⟨B, f * 4 + 2, none⟩ = some (.int .i64 z2) ∧ W'.cell? ⟨B, f * 4 + 3, none⟩ = some (.int .i64 z3) := fun W' B' =>
            ⟨hl1 W' (hSU _ B'), hl2' W' (hSU _ B'), ((hSU _ B').cell (p := ⟨B, t * 4, none⟩) lB2).trans q0, ((hSU _ B').cell (p := ⟨B, t * 4 + 1, none⟩) lB2).trans q1, ((hSU _ B').cell (p := ⟨B, t * 4 + 2, none⟩) lB2).trans q2, ((hSU _ B').cell (p := ⟨B, t * 4 + 3, none⟩) lB2).trans q3, ((hSU _ B').cell (p := ⟨B, f * 4, none⟩) lB2).trans r0, ((hSU _ B').cell (p := ⟨B, f * 4 + 1, none⟩) lB2).trans r1, ((hSU _ B').cell (p := ⟨B, f * 4 + 2, none⟩) lB2).trans r2, ((hSU _ B').cell (p := ⟨B, f * 4 + 3, none⟩) lB2).trans r3⟩
          have hSd : ∀ W', Sx W' → Sx W'.drew := fun W' B => hSB _ (hSU _ B).drew
          have h0t' : (0 : Int) ≤ (t : Int) := Int.natCast_nonneg _
          have h0f' : (0 : Int) ≤ (f : Int) := Int.natCast_nonneg _
          clear hsm hsm0 hSE q0 q1 q2 q3 r0 r1 r2 r3 kB hft hff hl1 hl2' hx0 hx1 hx2 hx3 hz0 hz1 hz2 hz3
          go_wp2_with (fail)
          by_cases h0t : ut = 0
          · have Hb := hidE (Hno.out (by rw [twinB_eq', ← Hut.out.1, h0t]; rfl))
            subst h0t
            refine wp_region_held_drew (S := Sx) (by kernel_rfl) (hSB _ (HB.out.drew)) (fun hHeld => ?_)
            refine wpAnyH_take (i := 0) (v := ?_) (by simp only [List.getElem?_toArray, List.getElem?_cons_succ, List.getElem?_cons_zero]; rfl) (by kernel_rfl) (by kernel_rfl) (by kernel_rfl) (by exact fun _ _ _ h => h) (Or.inl ⟨by rfl, ?_⟩) hHeld ?_
            rotate_left
            · intro W' hW'; go_simp <;> with_reducible rfl
            simp only [Act.put, List.setIfInBounds_toArray, List.set_cons_zero, List.set_cons_succ]
            refine wpAnyH_take (i := 1) (v := ?_) (by simp only [List.getElem?_toArray, List.getElem?_cons_succ, List.getElem?_cons_zero]; rfl) (by kernel_rfl) (by kernel_rfl) (by kernel_rfl) (by exact fun _ _ _ h => h) (Or.inl ⟨by rfl, ?_⟩) hHeld ?_
            rotate_left
            · intro W' hW'; go_simp <;> with_reducible rfl
            simp only [Act.put, List.setIfInBounds_toArray, List.set_cons_zero, List.set_cons_succ]
            refine wpAnyH_take (i := 2) (v := ?_) (by simp only [List.getElem?_toArray, List.getElem?_cons_succ, List.getElem?_cons_zero]; rfl) (by kernel_rfl) (by kernel_rfl) (by kernel_rfl) (by exact fun _ _ _ h => h) (Or.inl ⟨by rfl, ?_⟩) hHeld ?_
            rotate_left
            · intro W' hW'; obtain ⟨y0,y1,y2,y3,y4,y5,y6,y7,y8,y9⟩ := hcells W' hW'; go_simp <;> with_reducible rfl
            simp only [Act.put, List.setIfInBounds_toArray, List.set_cons_zero, List.set_cons_succ]
            refine wpAnyH_take (i := 3) (v := ?_) (by simp only [List.getElem?_toArray, List.getElem?_cons_succ, List.getElem?_cons_zero]; rfl) (by kernel_rfl) (by kernel_rfl) (by kernel_rfl) (by exact fun _ _ _ h => h) (Or.inl ⟨by rfl, ?_⟩) hHeld ?_
            rotate_left
            · intro W' hW'; go_simp <;> with_reducible rfl
            simp only [Act.put, List.setIfInBounds_toArray, List.set_cons_zero, List.set_cons_succ]
            refine wpAnyH_take (i := 4) (v := ?_) (by simp only [List.getElem?_toArray, List.getElem?_cons_succ, List.getElem?_cons_zero]; rfl) (by kernel_rfl) (by kernel_rfl) (by kernel_rfl) (by exact fun _ _ _ h => h) (Or.inl ⟨by rfl, ?_⟩) hHeld ?_
            rotate_left
            · intro W' hW'; go_simp <;> with_reducible rfl
            simp only [Act.put, List.setIfInBounds_toArray, List.set_cons_zero, List.set_cons_succ]
            refine wpAnyH_take (i := 5) (v := ?_) (by simp only [List.getElem?_toArray, List.getElem?_cons_succ, List.getElem?_cons_zero]; rfl) (by kernel_rfl) (by kernel_rfl) (by kernel_rfl) (by exact fun _ _ _ h => h) (Or.inl ⟨by rfl, ?_⟩) hHeld ?_
            rotate_left
            · intro W' hW'; go_simp <;> with_reducible rfl
            simp only [Act.put, List.setIfInBounds_toArray, List.set_cons_zero, List.set_cons_succ]
            refine wpAnyH_take (i := 6) (v := undef) (by simp only [List.getElem?_toArray, List.getElem?_cons_succ, List.getElem?_cons_zero]; rfl) (by kernel_rfl) (by kernel_rfl) (by kernel_rfl) (by exact fun _ _ _ h => h) (Or.inr ⟨by rfl, rfl⟩) hHeld ?_
            try simp only [Act.put, List.setIfInBounds_toArray, List.set_cons_zero, List.set_cons_succ]
            refine wpAnyH_take (i := 7) (v := undef) (by simp only [List.getElem?_toArray, List.getElem?_cons_succ, List.getElem?_cons_zero]; rfl) (by kernel_rfl) (by kernel_rfl) (by kernel_rfl) (by exact fun _ _ _ h => h) (Or.inr ⟨by rfl, rfl⟩) hHeld ?_
            try simp only [Act.put, List.setIfInBounds_toArray, List.set_cons_zero, List.set_cons_succ]
            refine wpAnyH_take (i := 8) (v := undef) (by simp only [List.getElem?_toArray, List.getElem?_cons_succ, List.getElem?_cons_zero]; rfl) (by kernel_rfl) (by kernel_rfl) (by kernel_rfl) (by exact fun _ _ _ h => h) (Or.inr ⟨by rfl, rfl⟩) hHeld ?_
            try simp only [Act.put, List.setIfInBounds_toArray, List.set_cons_zero, List.set_cons_succ]
            refine wpAnyH_take (i := 9) (v := undef) (by simp only [List.getElem?_toArray, List.getElem?_cons_succ, List.getElem?_cons_zero]; rfl) (by kernel_rfl) (by kernel_rfl) (by kernel_rfl) (by exact fun _ _ _ h => h) (Or.inr ⟨by rfl, rfl⟩) hHeld ?_
            try simp only [Act.put, List.setIfInBounds_toArray, List.set_cons_zero, List.set_cons_succ]
            refine wpAnyH_take (i := 10) (v := undef) (by simp only [List.getElem?_toArray, List.getElem?_cons_succ, List.getElem?_cons_zero]; rfl) (by kernel_rfl) (by kernel_rfl) (by kernel_rfl) (by exact fun _ _ _ h => h) (Or.inr ⟨by rfl, rfl⟩) hHeld ?_
            try simp only [Act.put, List.setIfInBounds_toArray, List.set_cons_zero, List.set_cons_succ]
            refine wpAnyH_take (i := 11) (v := ?_) (by simp only [List.getElem?_toArray, List.getElem?_cons_succ, List.getElem?_cons_zero]; rfl) (by kernel_rfl) (by kernel_rfl) (by kernel_rfl) (by exact fun _ _ _ h => h) (Or.inl ⟨by rfl, ?_⟩) hHeld ?_
            rotate_left
            · intro W' hW'; go_simp <;> with_reducible rfl
            simp only [Act.put, List.setIfInBounds_toArray, List.set_cons_zero, List.set_cons_succ]
            refine wpAnyH_take (i := 12) (v := ?_) (by simp only [List.getElem?_toArray, List.getElem?_cons_succ, List.getElem?_cons_zero]; rfl) (by kernel_rfl) (by kernel_rfl) (by kernel_rfl) (by exact fun _ _ _ h => h) (Or.inl ⟨by rfl, ?_⟩) hHeld ?_
            rotate_left
            · intro W' hW'; go_simp <;> with_reducible rfl
            simp only [Act.put, List.setIfInBounds_toArray, List.set_cons_zero, List.set_cons_succ]
            refine wpAnyH_take (i := 13) (v := undef) (by simp only [List.getElem?_toArray, List.getElem?_cons_succ, List.getElem?_cons_zero]; rfl) (by kernel_rfl) (by kernel_rfl) (by kernel_rfl) (by exact fun _ _ _ h => h) (Or.inr ⟨by rfl, rfl⟩) hHeld ?_
            try simp only [Act.put, List.setIfInBounds_toArray, List.set_cons_zero, List.set_cons_succ]
            refine wpAnyH_take (i := 14) (v := undef) (by simp only [List.getElem?_toArray, List.getElem?_cons_succ, List.getElem?_cons_zero]; rfl) (by kernel_rfl) (by kernel_rfl) (by kernel_rfl) (by exact fun _ _ _ h => h) (Or.inr ⟨by rfl, rfl⟩) hHeld ?_
            try simp only [Act.put, List.setIfInBounds_toArray, List.set_cons_zero, List.set_cons_succ]
            refine wpAnyH_take (i := 15) (v := undef) (by simp only [List.getElem?_toArray, List.getElem?_cons_succ, List.getElem?_cons_zero]; rfl) (by kernel_rfl) (by kernel_rfl) (by kernel_rfl) (by exact fun _ _ _ h => h) (Or.inr ⟨by rfl, rfl⟩) hHeld ?_
            try simp only [Act.put, List.setIfInBounds_toArray, List.set_cons_zero, List.set_cons_succ]
            refine wpAnyH_take (i := 16) (v := undef) (by simp only [List.getElem?_toArray, List.getElem?_cons_succ, List.getElem?_cons_zero]; rfl) (by kernel_rfl) (by kernel_rfl) (by kernel_rfl) (by exact fun _ _ _ h => h) (Or.inr ⟨by rfl, rfl⟩) hHeld ?_
            try simp only [Act.put, List.setIfInBounds_toArray, List.set_cons_zero, List.set_cons_succ]
            refine wpAnyH_take (i := 17) (v := undef) (by simp only [List.getElem?_toArray, List.getElem?_cons_succ, List.getElem?_cons_zero]; rfl) (by kernel_rfl) (by kernel_rfl) (by kernel_rfl) (by exact fun _ _ _ h => h) (Or.inr ⟨by rfl, rfl⟩) hHeld ?_
            try simp only [Act.put, List.setIfInBounds_toArray, List.set_cons_zero, List.set_cons_succ]
            refine wpAnyH_take (i := 18) (v := undef) (by simp only [List.getElem?_toArray, List.getElem?_cons_succ, List.getElem?_cons_zero]; rfl) (by kernel_rfl) (by kernel_rfl) (by kernel_rfl) (by exact fun _ _ _ h => h) (Or.inr ⟨by rfl, rfl⟩) hHeld ?_
            try simp only [Act.put, List.setIfInBounds_toArray, List.set_cons_zero, List.set_cons_succ]
            refine wpAnyH_take (i := 19) (v := undef) (by simp only [List.getElem?_toArray, List.getElem?_cons_succ, List.getElem?_cons_zero]; rfl) (by kernel_rfl) (by kernel_rfl) (by kernel_rfl) (by exact fun _ _ _ h => h) (Or.inr ⟨by rfl, rfl⟩) hHeld ?_
            try simp only [Act.put, List.setIfInBounds_toArray, List.set_cons_zero, List.set_cons_succ]
            refine wpAnyH_take (i := 20) (v := undef) (by simp only [List.getElem?_toArray, List.getElem?_cons_succ, List.getElem?_cons_zero]; rfl) (by kernel_rfl) (by kernel_rfl) (by kernel_rfl) (by exact fun _ _ _ h => h) (Or.inr ⟨by rfl, rfl⟩) hHeld ?_
            try simp only [Act.put, List.setIfInBounds_toArray, List.set_cons_zero, List.set_cons_succ]
            refine wpAnyH_take (i := 21) (v := undef) (by simp only [List.getElem?_toArray, List.getElem?_cons_succ, List.getElem?_cons_zero]; rfl) (by kernel_rfl) (by kernel_rfl) (by kernel_rfl) (by exact fun _ _ _ h => h) (Or.inr ⟨by rfl, rfl⟩) hHeld ?_
            try simp only [Act.put, List.setIfInBounds_toArray, List.set_cons_zero, List.set_cons_succ]
            refine wpAnyH_take (i := 22) (v := undef) (by simp only [List.getElem?_toArray, List.getElem?_cons_succ, List.getElem?_cons_zero]; rfl) (by kernel_rfl) (by kernel_rfl) (by kernel_rfl) (by exact fun _ _ _ h => h) (Or.inr ⟨by rfl, rfl⟩) hHeld ?_
            try simp only [Act.put, List.setIfInBounds_toArray, List.set_cons_zero, List.set_cons_succ]
            refine wpAnyH_take (i := 23) (v := undef) (by simp only [List.getElem?_toArray, List.getElem?_cons_succ, List.getElem?_cons_zero]; rfl) (by kernel_rfl) (by kernel_rfl) (by kernel_rfl) (by exact fun _ _ _ h => h) (Or.inr ⟨by rfl, rfl⟩) hHeld ?_
            try simp only [Act.put, List.setIfInBounds_toArray, List.set_cons_zero, List.set_cons_succ]
            refine wpAnyH_take (i := 24) (v := undef) (by simp only [List.getElem?_toArray, List.getElem?_cons_succ, List.getElem?_cons_zero]; rfl) (by kernel_rfl) (by kernel_rfl) (by kernel_rfl) (by exact fun _ _ _ h => h) (Or.inr ⟨by rfl, rfl⟩) hHeld ?_
            try simp only [Act.put, List.setIfInBounds_toArray, List.set_cons_zero, List.set_cons_succ]
            refine wpAnyH_take (i := 25) (v := undef) (by simp only [List.getElem?_toArray, List.getElem?_cons_succ, List.getElem?_cons_zero]; rfl) (by kernel_rfl) (by kernel_rfl) (by kernel_rfl) (by exact fun _ _ _ h => h) (Or.inr ⟨by rfl, rfl⟩) hHeld ?_
            try simp only [Act.put, List.setIfInBounds_toArray, List.set_cons_zero, List.set_cons_succ]
            refine wpAnyH_take (i := 26) (v := ?_) (by simp only [List.getElem?_toArray, List.getElem?_cons_succ, List.getElem?_cons_zero]; rfl) (by kernel_rfl) (by kernel_rfl) (by kernel_rfl) (by exact fun _ _ _ h => h) (Or.inl ⟨by rfl, ?_⟩) hHeld ?_
            rotate_left
            · intro W' hW'; go_simp <;> with_reducible rfl
            simp only [Act.put, List.setIfInBounds_toArray, List.set_cons_zero, List.set_cons_succ]
            refine wpAnyH_done (by kernel_rfl) ?_ _
            have HB4 := hidE (hSU _ hHeld)
            clear hSU hSB hcells hSd
            go_wp2
            go_roundw
            case rel => exact ⟨f + 1, by omega, by omega, by go_num, Hb.out, HB4.out⟩
            case measure => simp [intOf]; omega
          have h0ti : (0 : Int) < (ut : Int) := by omega
          have h0tn : 0 < ut := by omega
          by_cases h0f : uf = 0
          · have Hb := hidE (Hno.out (by rw [twinB_eq', ← Hut.out.2, h0f]; simp))
            subst h0f
            refine wp_region_held_drew (S := Sx) (by kernel_rfl) (hSB _ (HB.out.drew)) (fun hHeld => ?_)
            refine wpAnyH_take (i := 0) (v := ?_) (by simp only [List.getElem?_toArray, List.getElem?_cons_succ, List.getElem?_cons_zero]; rfl) (by kernel_rfl) (by kernel_rfl) (by kernel_rfl) (by exact fun _ _ _ h => h) (Or.inl ⟨by rfl, ?_⟩) hHeld ?_
            rotate_left
            · intro W' hW'; go_simp <;> with_reducible rfl
            simp only [Act.put, List.setIfInBounds_toArray, List.set_cons_zero, List.set_cons_succ]
            refine wpAnyH_take (i := 1) (v := ?_) (by simp only [List.getElem?_toArray, List.getElem?_cons_succ, List.getElem?_cons_zero]; rfl) (by kernel_rfl) (by kernel_rfl) (by kernel_rfl) (by exact fun _ _ _ h => h) (Or.inl ⟨by rfl, ?_⟩) hHeld ?_
            rotate_left
            · intro W' hW'; go_simp <;> with_reducible rfl
            simp only [Act.put, List.setIfInBounds_toArray, List.set_cons_zero, List.set_cons_succ]
            refine wpAnyH_take (i := 2) (v := ?_) (by simp only [List.getElem?_toArray, List.getElem?_cons_succ, List.getElem?_cons_zero]; rfl) (by kernel_rfl) (by kernel_rfl) (by kernel_rfl) (by exact fun _ _ _ h => h) (Or.inl ⟨by rfl, ?_⟩) hHeld ?_
            rotate_left
            · intro W' hW'; obtain ⟨y0,y1,y2,y3,y4,y5,y6,y7,y8,y9⟩ := hcells W' hW'; go_simp <;> with_reducible rfl
            simp only [Act.put, List.setIfInBounds_toArray, List.set_cons_zero, List.set_cons_succ]
            refine wpAnyH_take (i := 3) (v := ?_) (by simp only [List.getElem?_toArray, List.getElem?_cons_succ, List.getElem?_cons_zero]; rfl) (by kernel_rfl) (by kernel_rfl) (by kernel_rfl) (by exact fun _ _ _ h => h) (Or.inl ⟨by rfl, ?_⟩) hHeld ?_
            rotate_left
            · intro W' hW'; go_simp <;> with_reducible rfl
            simp only [Act.put, List.setIfInBounds_toArray, List.set_cons_zero, List.set_cons_succ]
            refine wpAnyH_take (i := 4) (v := ?_) (by simp only [List.getElem?_toArray, List.getElem?_cons_succ, List.getElem?_cons_zero]; rfl) (by kernel_rfl) (by kernel_rfl) (by kernel_rfl) (by exact fun _ _ _ h => h) (Or.inl ⟨by rfl, ?_⟩) hHeld ?_
            rotate_left
            · intro W' hW'; go_simp <;> with_reducible rfl
            simp only [Act.put, List.setIfInBounds_toArray, List.set_cons_zero, List.set_cons_succ]
            refine wpAnyH_take (i := 5) (v := ?_) (by simp only [List.getElem?_toArray, List.getElem?_cons_succ, List.getElem?_cons_zero]; rfl) (by kernel_rfl) (by kernel_rfl) (by kernel_rfl) (by exact fun _ _ _ h => h) (Or.inl ⟨by rfl, ?_⟩) hHeld ?_
            rotate_left
            · intro W' hW'; go_simp <;> with_reducible rfl
            simp only [Act.put, List.setIfInBounds_toArray, List.set_cons_zero, List.set_cons_succ]
            refine wpAnyH_take (i := 6) (v := ?_) (by simp only [List.getElem?_toArray, List.getElem?_cons_succ, List.getElem?_cons_zero]; rfl) (by kernel_rfl) (by kernel_rfl) (by kernel_rfl) (by exact fun _ _ _ h => h) (Or.inl ⟨by rfl, ?_⟩) hHeld ?_
            rotate_left
            · intro W' hW'; go_simp <;> with_reducible rfl
            simp only [Act.put, List.setIfInBounds_toArray, List.set_cons_zero, List.set_cons_succ]
            refine wpAnyH_take (i := 7) (v := ?_) (by simp only [List.getElem?_toArray, List.getElem?_cons_succ, List.getElem?_cons_zero]; rfl) (by kernel_rfl) (by kernel_rfl) (by kernel_rfl) (by exact fun _ _ _ h => h) (Or.inl ⟨by rfl, ?_⟩) hHeld ?_
            rotate_left
            · intro W' hW'; go_simp <;> with_reducible rfl
            simp only [Act.put, List.setIfInBounds_toArray, List.set_cons_zero, List.set_cons_succ]
            refine wpAnyH_take (i := 8) (v := ?_) (by simp only [List.getElem?_toArray, List.getElem?_cons_succ, List.getElem?_cons_zero]; rfl) (by kernel_rfl) (by kernel_rfl) (by kernel_rfl) (by exact fun _ _ _ h => h) (Or.inl ⟨by rfl, ?_⟩) hHeld ?_
            rotate_left
            · intro W' hW'; obtain ⟨y0,y1,y2,y3,y4,y5,y6,y7,y8,y9⟩ := hcells W' hW'; go_simp <;> with_reducible rfl
            simp only [Act.put, List.setIfInBounds_toArray, List.set_cons_zero, List.set_cons_succ]
            refine wpAnyH_take (i := 9) (v := ?_) (by simp only [List.getElem?_toArray, List.getElem?_cons_succ, List.getElem?_cons_zero]; rfl) (by kernel_rfl) (by kernel_rfl) (by kernel_rfl) (by exact fun _ _ _ h => h) (Or.inl ⟨by rfl, ?_⟩) hHeld ?_
            rotate_left
            · intro W' hW'; go_simp <;> with_reducible rfl
            simp only [Act.put, List.setIfInBounds_toArray, List.set_cons_zero, List.set_cons_succ]
            refine wpAnyH_take (i := 10) (v := ?_) (by simp only [List.getElem?_toArray, List.getElem?_cons_succ, List.getElem?_cons_zero]; rfl) (by kernel_rfl) (by kernel_rfl) (by kernel_rfl) (by exact fun _ _ _ h => h) (Or.inl ⟨by rfl, ?_⟩) hHeld ?_
            rotate_left
            · intro W' hW'; go_simp <;> with_reducible rfl
            simp only [Act.put, List.setIfInBounds_toArray, List.set_cons_zero, List.set_cons_succ]
            refine wpAnyH_take (i := 11) (v := ?_) (by simp only [List.getElem?_toArray, List.getElem?_cons_succ, List.getElem?_cons_zero]; rfl) (by kernel_rfl) (by kernel_rfl) (by kernel_rfl) (by exact fun _ _ _ h => h) (Or.inl ⟨by rfl, ?_⟩) hHeld ?_
            rotate_left
            · intro W' hW'; go_simp <;> with_reducible rfl
            simp only [Act.put, List.setIfInBounds_toArray, List.set_cons_zero, List.set_cons_succ]
            refine wpAnyH_take (i := 12) (v := ?_) (by simp only [List.getElem?_toArray, List.getElem?_cons_succ, List.getElem?_cons_zero]; rfl) (by kernel_rfl) (by kernel_rfl) (by kernel_rfl) (by exact fun _ _ _ h => h) (Or.inl ⟨by rfl, ?_⟩) hHeld ?_
            rotate_left
            · intro W' hW'; go_simp <;> with_reducible rfl
            simp only [Act.put, List.setIfInBounds_toArray, List.set_cons_zero, List.set_cons_succ]
            refine wpAnyH_take (i := 13) (v := undef) (by simp only [List.getElem?_toArray, List.getElem?_cons_succ, List.getElem?_cons_zero]; rfl) (by kernel_rfl) (by kernel_rfl) (by kernel_rfl) (by exact fun _ _ _ h => h) (Or.inr ⟨by rfl, rfl⟩) hHeld ?_
            try simp only [Act.put, List.setIfInBounds_toArray, List.set_cons_zero, List.set_cons_succ]
            refine wpAnyH_take (i := 14) (v := undef) (by simp only [List.getElem?_toArray, List.getElem?_cons_succ, List.getElem?_cons_zero]; rfl) (by kernel_rfl) (by kernel_rfl) (by kernel_rfl) (by exact fun _ _ _ h => h) (Or.inr ⟨by rfl, rfl⟩) hHeld ?_
            try simp only [Act.put, List.setIfInBounds_toArray, List.set_cons_zero, List.set_cons_succ]
            refine wpAnyH_take (i := 15) (v := undef) (by simp only [List.getElem?_toArray, List.getElem?_cons_succ, List.getElem?_cons_zero]; rfl) (by kernel_rfl) (by kernel_rfl) (by kernel_rfl) (by exact fun _ _ _ h => h) (Or.inr ⟨by rfl, rfl⟩) hHeld ?_
            try simp only [Act.put, List.setIfInBounds_toArray, List.set_cons_zero, List.set_cons_succ]
            refine wpAnyH_take (i := 16) (v := undef) (by simp only [List.getElem?_toArray, List.getElem?_cons_succ, List.getElem?_cons_zero]; rfl) (by kernel_rfl) (by kernel_rfl) (by kernel_rfl) (by exact fun _ _ _ h => h) (Or.inr ⟨by rfl, rfl⟩) hHeld ?_
            try simp only [Act.put, List.setIfInBounds_toArray, List.set_cons_zero, List.set_cons_succ]
            refine wpAnyH_take (i := 17) (v := undef) (by simp only [List.getElem?_toArray, List.getElem?_cons_succ, List.getElem?_cons_zero]; rfl) (by kernel_rfl) (by kernel_rfl) (by kernel_rfl) (by exact fun _ _ _ h => h) (Or.inr ⟨by rfl, rfl⟩) hHeld ?_
            try simp only [Act.put, List.setIfInBounds_toArray, List.set_cons_zero, List.set_cons_succ]
            refine wpAnyH_take (i := 18) (v := undef) (by simp only [List.getElem?_toArray, List.getElem?_cons_succ, List.getElem?_cons_zero]; rfl) (by kernel_rfl) (by kernel_rfl) (by kernel_rfl) (by exact fun _ _ _ h => h) (Or.inr ⟨by rfl, rfl⟩) hHeld ?_
            try simp only [Act.put, List.setIfInBounds_toArray, List.set_cons_zero, List.set_cons_succ]
            refine wpAnyH_take (i := 19) (v := undef) (by simp only [List.getElem?_toArray, List.getElem?_cons_succ, List.getElem?_cons_zero]; rfl) (by kernel_rfl) (by kernel_rfl) (by kernel_rfl) (by exact fun _ _ _ h => h) (Or.inr ⟨by rfl, rfl⟩) hHeld ?_
            try simp only [Act.put, List.setIfInBounds_toArray, List.set_cons_zero, List.set_cons_succ]
            refine wpAnyH_take (i := 20) (v := undef) (by simp only [List.getElem?_toArray, List.getElem?_cons_succ, List.getElem?_cons_zero]; rfl) (by kernel_rfl) (by kernel_rfl) (by kernel_rfl) (by exact fun _ _ _ h => h) (Or.inr ⟨by rfl, rfl⟩) hHeld ?_
            try simp only [Act.put, List.setIfInBounds_toArray, List.set_cons_zero, List.set_cons_succ]
            refine wpAnyH_take (i := 21) (v := undef) (by simp only [List.getElem?_toArray, List.getElem?_cons_succ, List.getElem?_cons_zero]; rfl) (by kernel_rfl) (by kernel_rfl) (by kernel_rfl) (by exact fun _ _ _ h => h) (Or.inr ⟨by rfl, rfl⟩) hHeld ?_
            try simp only [Act.put, List.setIfInBounds_toArray, List.set_cons_zero, List.set_cons_succ]
            refine wpAnyH_take (i := 22) (v := undef) (by simp only [List.getElem?_toArray, List.getElem?_cons_succ, List.getElem?_cons_zero]; rfl) (by kernel_rfl) (by kernel_rfl) (by kernel_rfl) (by exact fun _ _ _ h => h) (Or.inr ⟨by rfl, rfl⟩) hHeld ?_
            try simp only [Act.put, List.setIfInBounds_toArray, List.set_cons_zero, List.set_cons_succ]
            refine wpAnyH_take (i := 23) (v := undef) (by simp only [List.getElem?_toArray, List.getElem?_cons_succ, List.getElem?_cons_zero]; rfl) (by kernel_rfl) (by kernel_rfl) (by kernel_rfl) (by exact fun _ _ _ h => h) (Or.inr ⟨by rfl, rfl⟩) hHeld ?_
            try simp only [Act.put, List.setIfInBounds_toArray, List.set_cons_zero, List.set_cons_succ]
            refine wpAnyH_take (i := 24) (v := undef) (by simp only [List.getElem?_toArray, List.getElem?_cons_succ, List.getElem?_cons_zero]; rfl) (by kernel_rfl) (by kernel_rfl) (by kernel_rfl) (by exact fun _ _ _ h => h) (Or.inr ⟨by rfl, rfl⟩) hHeld ?_
            try simp only [Act.put, List.setIfInBounds_toArray, List.set_cons_zero, List.set_cons_succ]
            refine wpAnyH_take (i := 25) (v := undef) (by simp only [List.getElem?_toArray, List.getElem?_cons_succ, List.getElem?_cons_zero]; rfl) (by kernel_rfl) (by kernel_rfl) (by kernel_rfl) (by exact fun _ _ _ h => h) (Or.inr ⟨by rfl, rfl⟩) hHeld ?_
            try simp only [Act.put, List.setIfInBounds_toArray, List.set_cons_zero, List.set_cons_succ]
            refine wpAnyH_take (i := 26) (v := ?_) (by simp only [List.getElem?_toArray, List.getElem?_cons_succ, List.getElem?_cons_zero]; rfl) (by kernel_rfl) (by kernel_rfl) (by kernel_rfl) (by exact fun _ _ _ h => h) (Or.inl ⟨by rfl, ?_⟩) hHeld ?_
            rotate_left
            · intro W' hW'; go_simp <;> with_reducible rfl
            simp only [Act.put, List.setIfInBounds_toArray, List.set_cons_zero, List.set_cons_succ]
            refine wpAnyH_done (by kernel_rfl) ?_ _
            have HB4 := hidE (hSU _ hHeld)
            clear hSU hSB hcells hSd
            go_wp2
            go_roundw
            case rel => exact ⟨f + 1, by omega, by omega, by go_num, Hb.out, HB4.out⟩
            case measure => simp [intOf]; omega
          have h0fi : (0 : Int) < (uf : Int) := by omega
          have h0fn : 0 < uf := by omega
          have Htw := hidE (show twinB h (t, f) = sm by rw [twinB_eq', ← Hut.out.1, ← Hut.out.2, Hsm.out, decide_eq_true h0tn, decide_eq_true h0fn]; rfl)
          refine wp_region_held_drew (S := Sx) (by kernel_rfl) (hSB _ (HB.out.drew)) (fun hHeld => ?_)
          refine wpAnyH_take (i := 0) (v := ?_) (by simp only [List.getElem?_toArray, List.getElem?_cons_succ, List.getElem?_cons_zero]; rfl) (by kernel_rfl) (by kernel_rfl) (by kernel_rfl) (by exact fun _ _ _ h => h) (Or.inl ⟨by rfl, ?_⟩) hHeld ?_
          rotate_left
          · intro W' hW'; go_simp <;> with_reducible rfl
          simp only [Act.put, List.setIfInBounds_toArray, List.set_cons_zero, List.set_cons_succ]
          refine wpAnyH_take (i := 1) (v := ?_) (by simp only [List.getElem?_toArray, List.getElem?_cons_succ, List.getElem?_cons_zero]; rfl) (by kernel_rfl) (by kernel_rfl) (by kernel_rfl) (by exact fun _ _ _ h => h) (Or.inl ⟨by rfl, ?_⟩) hHeld ?_
          rotate_left
          · intro W' hW'; go_simp <;> with_reducible rfl
          simp only [Act.put, List.setIfInBounds_toArray, List.set_cons_zero, List.set_cons_succ]
          refine wpAnyH_take (i := 2) (v := ?_) (by simp only [List.getElem?_toArray, List.getElem?_cons_succ, List.getElem?_cons_zero]; rfl) (by kernel_rfl) (by kernel_rfl) (by kernel_rfl) (by exact fun _ _ _ h => h) (Or.inl ⟨by rfl, ?_⟩) hHeld ?_
          rotate_left
          · intro W' hW'; obtain ⟨y0,y1,y2,y3,y4,y5,y6,y7,y8,y9⟩ := hcells W' hW'; go_simp <;> with_reducible rfl
          simp only [Act.put, List.setIfInBounds_toArray, List.set_cons_zero, List.set_cons_succ]
          refine wpAnyH_take (i := 3) (v := ?_) (by simp only [List.getElem?_toArray, List.getElem?_cons_succ, List.getElem?_cons_zero]; rfl) (by kernel_rfl) (by kernel_rfl) (by kernel_rfl) (by exact fun _ _ _ h => h) (Or.inl ⟨by rfl, ?_⟩) hHeld ?_
          rotate_left
          · intro W' hW'; go_simp <;> with_reducible rfl
          simp only [Act.put, List.setIfInBounds_toArray, List.set_cons_zero, List.set_cons_succ]
          refine wpAnyH_take (i := 4) (v := ?_) (by simp only [List.getElem?_toArray, List.getElem?_cons_succ, List.getElem?_cons_zero]; rfl) (by kernel_rfl) (by kernel_rfl) (by kernel_rfl) (by exact fun _ _ _ h => h) (Or.inl ⟨by rfl, ?_⟩) hHeld ?_
          rotate_left
          · intro W' hW'; go_simp <;> with_reducible rfl
          simp only [Act.put, List.setIfInBounds_toArray, List.set_cons_zero, List.set_cons_succ]
          refine wpAnyH_take (i := 5) (v := ?_) (by simp only [List.getElem?_toArray, List.getElem?_cons_succ, List.getElem?_cons_zero]; rfl) (by kernel_rfl) (by kernel_rfl) (by kernel_rfl) (by exact fun _ _ _ h => h) (Or.inl ⟨by rfl, ?_⟩) hHeld ?_
          rotate_left
          · intro W' hW'; go_simp <;> with_reducible rfl
          simp only [Act.put, List.setIfInBounds_toArray, List.set_cons_zero, List.set_cons_succ]
          refine wpAnyH_take (i := 6) (v := ?_) (by simp only [List.getElem?_toArray, List.getElem?_cons_succ, List.getElem?_cons_zero]; rfl) (by kernel_rfl) (by kernel_rfl) (by kernel_rfl) (by exact fun _ _ _ h => h) (Or.inl ⟨by rfl, ?_⟩) hHeld ?_
          rotate_left
          · intro W' hW'; go_simp <;> with_reducible rfl
          simp only [Act.put, List.setIfInBounds_toArray, List.set_cons_zero, List.set_cons_succ]
          refine wpAnyH_take (i := 7) (v := ?_) (by simp only [List.getElem?_toArray, List.getElem?_cons_succ, List.getElem?_cons_zero]; rfl) (by kernel_rfl) (by kernel_rfl) (by kernel_rfl) (by exact fun _ _ _ h => h) (Or.inl ⟨by rfl, ?_⟩) hHeld ?_
          rotate_left
          · intro W' hW'; go_simp <;> with_reducible rfl
          simp only [Act.put, List.setIfInBounds_toArray, List.set_cons_zero, List.set_cons_succ]
          refine wpAnyH_take (i := 8) (v := ?_) (by simp only [List.getElem?_toArray, List.getElem?_cons_succ, List.getElem?_cons_zero]; rfl) (by kernel_rfl) (by kernel_rfl) (by kernel_rfl) (by exact fun _ _ _ h => h) (Or.inl ⟨by rfl, ?_⟩) hHeld ?_
          rotate_left
          · intro W' hW'; obtain ⟨y0,y1,y2,y3,y4,y5,y6,y7,y8,y9⟩ := hcells W' hW'; go_simp <;> with_reducible rfl
          simp only [Act.put, List.setIfInBounds_toArray, List.set_cons_zero, List.set_cons_succ]
          refine wpAnyH_take (i := 9) (v := ?_) (by simp only [List.getElem?_toArray, List.getElem?_cons_succ, List.getElem?_cons_zero]; rfl) (by kernel_rfl) (by kernel_rfl) (by kernel_rfl) (by exact fun _ _ _ h => h) (Or.inl ⟨by rfl, ?_⟩) hHeld ?_
          rotate_left
          · intro W' hW'; go_simp <;> with_reducible rfl
          simp only [Act.put, List.setIfInBounds_toArray, List.set_cons_zero, List.set_cons_succ]
          refine wpAnyH_take (i := 10) (v := ?_) (by simp only [List.getElem?_toArray, List.getElem?_cons_succ, List.getElem?_cons_zero]; rfl) (by kernel_rfl) (by kernel_rfl) (by kernel_rfl) (by exact fun _ _ _ h => h) (Or.inl ⟨by rfl, ?_⟩) hHeld ?_
          rotate_left
          · intro W' hW'; go_simp <;> with_reducible rfl
          simp only [Act.put, List.setIfInBounds_toArray, List.set_cons_zero, List.set_cons_succ]
          refine wpAnyH_take (i := 11) (v := ?_) (by simp only [List.getElem?_toArray, List.getElem?_cons_succ, List.getElem?_cons_zero]; rfl) (by kernel_rfl) (by kernel_rfl) (by kernel_rfl) (by exact fun _ _ _ h => h) (Or.inl ⟨by rfl, ?_⟩) hHeld ?_
          rotate_left
          · intro W' hW'; go_simp <;> with_reducible rfl
          simp only [Act.put, List.setIfInBounds_toArray, List.set_cons_zero, List.set_cons_succ]
          refine wpAnyH_take (i := 12) (v := ?_) (by simp only [List.getElem?_toArray, List.getElem?_cons_succ, List.getElem?_cons_zero]; rfl) (by kernel_rfl) (by kernel_rfl) (by kernel_rfl) (by exact fun _ _ _ h => h) (Or.inl ⟨by rfl, ?_⟩) hHeld ?_
          rotate_left
          · intro W' hW'; go_simp <;> with_reducible rfl
          simp only [Act.put, List.setIfInBounds_toArray, List.set_cons_zero, List.set_cons_succ]
          refine wpAnyH_take (i := 13) (v := ?_) (by simp only [List.getElem?_toArray, List.getElem?_cons_succ, List.getElem?_cons_zero]; rfl) (by kernel_rfl) (by kernel_rfl) (by kernel_rfl) (by exact fun _ _ _ h => h) (Or.inl ⟨by rfl, ?_⟩) hHeld ?_
          rotate_left
          · intro W' hW'; go_simp <;> with_reducible rfl
          simp only [Act.put, List.setIfInBounds_toArray, List.set_cons_zero, List.set_cons_succ]
          refine wpAnyH_take (i := 14) (v := ?_) (by simp only [List.getElem?_toArray, List.getElem?_cons_succ, List.getElem?_cons_zero]; rfl) (by kernel_rfl) (by kernel_rfl) (by kernel_rfl) (by exact fun _ _ _ h => h) (Or.inl ⟨by rfl, ?_⟩) hHeld ?_
          rotate_left
          · intro W' hW'; go_simp <;> with_reducible rfl
          simp only [Act.put, List.setIfInBounds_toArray, List.set_cons_zero, List.set_cons_succ]
          refine wpAnyH_take (i := 15) (v := ?_) (by simp only [List.getElem?_toArray, List.getElem?_cons_succ, List.getElem?_cons_zero]; rfl) (by kernel_rfl) (by kernel_rfl) (by kernel_rfl) (by exact fun _ _ _ h => h) (Or.inl ⟨by rfl, ?_⟩) hHeld ?_
          rotate_left
          · intro W' hW'; go_simp <;> with_reducible rfl
          simp only [Act.put, List.setIfInBounds_toArray, List.set_cons_zero, List.set_cons_succ]
          refine wpAnyH_take (i := 16) (v := ?_) (by simp only [List.getElem?_toArray, List.getElem?_cons_succ, List.getElem?_cons_zero]; rfl) (by kernel_rfl) (by kernel_rfl) (by kernel_rfl) (by exact fun _ _ _ h => h) (Or.inl ⟨by rfl, ?_⟩) hHeld ?_
          rotate_left
          · intro W' hW'; go_simp <;> with_reducible rfl
          simp only [Act.put, List.setIfInBounds_toArray, List.set_cons_zero, List.set_cons_succ]
          refine wpAnyH_take (i := 17) (v := ?_) (by simp only [List.getElem?_toArray, List.getElem?_cons_succ, List.getElem?_cons_zero]; rfl) (by kernel_rfl) (by kernel_rfl) (by kernel_rfl) (by exact fun _ _ _ h => h) (Or.inl ⟨by rfl, ?_⟩) hHeld ?_
          rotate_left
          · intro W' hW'; go_simp <;> with_reducible rfl
          simp only [Act.put, List.setIfInBounds_toArray, List.set_cons_zero, List.set_cons_succ]
          refine wpAnyH_take (i := 18) (v := ?_) (by simp only [List.getElem?_toArray, List.getElem?_cons_succ, List.getElem?_cons_zero]; rfl) (by kernel_rfl) (by kernel_rfl) (by kernel_rfl) (by exact fun _ _ _ h => h) (Or.inl ⟨by rfl, ?_⟩) hHeld ?_
          rotate_left
          · intro W' hW'; obtain ⟨y0,y1,y2,y3,y4,y5,y6,y7,y8,y9⟩ := hcells W' hW'; go_simp <;> with_reducible rfl
          simp only [Act.put, List.setIfInBounds_toArray, List.set_cons_zero, List.set_cons_succ]
          refine wpAnyH_take (i := 19) (v := ?_) (by simp only [List.getElem?_toArray, List.getElem?_cons_succ, List.getElem?_cons_zero]; rfl) (by kernel_rfl) (by kernel_rfl) (by kernel_rfl) (by exact fun _ _ _ h => h) (Or.inl ⟨by rfl, ?_⟩) hHeld ?_
          rotate_left
          · intro W' hW'; go_simp <;> with_reducible rfl
          simp only [Act.put, List.setIfInBounds_toArray, List.set_cons_zero, List.set_cons_succ]
          refine wpAnyH_take (i := 20) (v := ?_) (by simp only [List.getElem?_toArray, List.getElem?_cons_succ, List.getElem?_cons_zero]; rfl) (by kernel_rfl) (by kernel_rfl) (by kernel_rfl) (by exact fun _ _ _ h => h) (Or.inl ⟨by rfl, ?_⟩) hHeld ?_
          rotate_left
          · intro W' hW'; go_simp <;> with_reducible rfl
          simp only [Act.put, List.setIfInBounds_toArray, List.set_cons_zero, List.set_cons_succ]
          refine wpAnyH_take (i := 21) (v := ?_) (by simp only [List.getElem?_toArray, List.getElem?_cons_succ, List.getElem?_cons_zero]; rfl) (by kernel_rfl) (by kernel_rfl) (by kernel_rfl) (by exact fun _ _ _ h => h) (Or.inl ⟨by rfl, ?_⟩) hHeld ?_
          rotate_left
          · intro W' hW'; go_simp <;> with_reducible rfl
          simp only [Act.put, List.setIfInBounds_toArray, List.set_cons_zero, List.set_cons_succ]
          refine wpAnyH_take (i := 22) (v := ?_) (by simp only [List.getElem?_toArray, List.getElem?_cons_succ, List.getElem?_cons_zero]; rfl) (by kernel_rfl) (by kernel_rfl) (by kernel_rfl) (by exact fun _ _ _ h => h) (Or.inl ⟨by rfl, ?_⟩) hHeld ?_
          rotate_left
          · intro W' hW'; go_simp <;> with_reducible rfl
          simp only [Act.put, List.setIfInBounds_toArray, List.set_cons_zero, List.set_cons_succ]
          refine wpAnyH_take (i := 23) (v := ?_) (by simp only [List.getElem?_toArray, List.getElem?_cons_succ, List.getElem?_cons_zero]; rfl) (by kernel_rfl) (by kernel_rfl) (by kernel_rfl) (by exact fun _ _ _ h => h) (Or.inl ⟨by rfl, ?_⟩) hHeld ?_
          rotate_left
          · intro W' hW'; go_simp <;> with_reducible rfl
          simp only [Act.put, List.setIfInBounds_toArray, List.set_cons_zero, List.set_cons_succ]
          refine wpAnyH_take (i := 24) (v := ?_) (by simp only [List.getElem?_toArray, List.getElem?_cons_succ, List.getElem?_cons_zero]; rfl) (by kernel_rfl) (by kernel_rfl) (by kernel_rfl) (by exact fun _ _ _ h => h) (Or.inl ⟨by rfl, ?_⟩) hHeld ?_
          rotate_left
          · intro W' hW'; obtain ⟨y0,y1,y2,y3,y4,y5,y6,y7,y8,y9⟩ := hcells W' hW'; go_simp <;> with_reducible rfl
          simp only [Act.put, List.setIfInBounds_toArray, List.set_cons_zero, List.set_cons_succ]
          refine wpAnyH_take (i := 25) (v := ?_) (by simp only [List.getElem?_toArray, List.getElem?_cons_succ, List.getElem?_cons_zero]; rfl) (by kernel_rfl) (by kernel_rfl) (by kernel_rfl) (by exact fun _ _ _ h => h) (Or.inl ⟨by rfl, ?_⟩) hHeld ?_
          rotate_left
          · intro W' hW'; go_simp <;> with_reducible rfl
          simp only [Act.put, List.setIfInBounds_toArray, List.set_cons_zero, List.set_cons_succ]
          refine wpAnyH_take (i := 26) (v := ?_) (by simp only [List.getElem?_toArray, List.getElem?_cons_succ, List.getElem?_cons_zero]; rfl) (by kernel_rfl) (by kernel_rfl) (by kernel_rfl) (by exact fun _ _ _ h => h) (Or.inl ⟨by rfl, ?_⟩) hHeld ?_
          rotate_left
          · intro W' hW'; go_simp <;> with_reducible rfl
          simp only [Act.put, List.setIfInBounds_toArray, List.set_cons_zero, List.set_cons_succ]
          refine wpAnyH_done (by kernel_rfl) ?_ _
          have HB4 := hidE (hSU _ hHeld)
          cases sm
          · have Hb := hidE (Hno.out Htw.out)
            clear hSU hSB hcells hSd
            go_wp2
            go_roundw
            case rel => exact ⟨f + 1, by omega, by omega, by go_num, Hb.out, HB4.out⟩
            case measure => simp [intOf]; omega
          · have e := Hsome.out t f (by omega) hfl Htw.out (fun t' f' h1 h2 h3 => by
              rcases h3 with h3 | ⟨rfl, h3⟩
              · exact HE.out t' f' h1 h2 h3
              · exact HF.out f' h1 h3)
            have Hj := hidE (And.intro (show jb = true by rw [HJ.out, joinB, e]; rfl) e)
            clear hSU hSB hcells hSd e
            go_wp2
            refine bodyPost_ret (v := .tuple #[.int .i64 t, .int .i64 f, .bool true]) (by simp [results, Try.results121, go_sem]) rfl ?_
            exact ⟨t, f, by rw [Hj.out.1], fun _ => Hj.out.2, HB2.out.trans (HB4.out.mono HB2.out.size)⟩
        · obtain rfl : f = 8 := by omega
          have Hn := hidE (show ∀ t' f', t' < f' → f' < 8 → t' < t + 1 → twinB h (t', f') = false from fun t' f' h1 h2 h3 => by
            by_cases e : t' = t
            · rw [e] at h1 ⊢; exact HF.out f' h1 h2
            · exact HE.out t' f' h1 h2 (by omega))
          clear HF HE
          go_wp2
          go_roundw
          case rel => exact ⟨t + 1, by omega, by go_num, Hn.out, HB.out⟩
          case measure => simp [intOf]; omega
    · obtain rfl : t = 8 := by omega
      have e := Hnone.out (fun t f h1 h2 => HE.out t f h1 h2 (by omega))
      have Hj := hidE (show jb = false by rw [HJ.out, joinB, e]; rfl)
      clear e
      go_wp2
      refine bodyPost_ret (v := .tuple #[.int .i64 0, .int .i64 0, .bool false]) (by simp [results, Try.results121, go_sem]) rfl ?_
      exact ⟨0, 0, by rw [Hj.out]; rfl, (fun e => by rw [Hj.out] at e; cases e), HB2.out.trans (HB.out.mono HB2.out.size)⟩
end Go.Proofs.Ytdamdjhnhkmncaa

/-
  What slices.Grow does with nothing: an append of a making.
-/
set_option linter.unusedSimpArgs false
namespace Go.Proofs.Ytdamdjhnhkmncaa
open Go.RowKit
attribute [local go_sem ↓] Go.wp_at_zero Go.wp_at_succ exec_app exec_allocL
attribute [local go_sem] bigNext_ok bigSkip_ok

/-- The append of a making onto nothing, kept shut. -/
def apmRun (P : Program) (x y : Value) (w : World) : Result Value := (Builtin.append_ #[136, 3] 136 #[x, y]).run P w
theorem exec_apm (ρ : Operand → Value) (dst : Option Tmp) (pos : String) (after : Array _) (guard : Option _) (x y : Operand) (w : World) :
    (execOp ρ ⟨dst, .call { callee := .builtin .append, args := #[x, y], argTypes := #[136, 3] }, 136, pos, after, guard⟩).run Try.prog w = bigNext (apmRun Try.prog (ρ x) (ρ y) w) := by
  unfold apmRun execOp
  simp only [resolve, invoke, builtin, Sem.run_bind, Sem.run_pure, Result.andThen_ok, List.map_toArray, List.map_cons, List.map_nil]
  cases (Builtin.append_ #[136, 3] 136 #[ρ x, ρ y]).run Try.prog w <;> rfl
theorem run_apm (n : Nat) (w : World) (h1 : 1 ≤ n) (h2 : n ≤ 1000) : ∃ (cap : Nat) (cur : Array Value), n ≤ cap ∧ cap ≤ maxLen ∧ cur.size = cap * 2 ∧
    apmRun Try.prog (.slice none 0 0) (.int .i64 n) w = .ok (.slice (some ⟨w.heap.size, 0, none⟩) n cap) (w.drew.alloc (.cells cur 99)) := by
  obtain ⟨i0, hi, hz0, hz1, hz2⟩ := info_parts infoSp
  have hge := grownCap_ge w n 0 99
  have hm := grownCap_le_maxLen w n 0 99 (by unfold maxLen; omega)
  have hfit := growslice_fits (need := n) (old := 0) (bytes := 16) (by omega) (by omega)
  have hw : IntKind.i64.wrap (n : Int) = n := by simp [IntKind.wrap, IntKind.bits, IntKind.signed]; omega
  have a1 : ¬ ((n : Int) < 0) := by omega
  have a2 : ¬ (281474976710656 < (n : Int) * 16) := by omega
  have a3 : ¬ (n = 0) := by omega
  have a4 : ¬ (9223372036854775807 < (n : Int)) := by omega
  have a5 : ¬ (281474976710656 < Builtin.nextslicecap n 0 * 16) := by omega
  refine ⟨grownCap w n 0 99, Builtin.zeroCells #[.int .i64 0, .int .i64 0] n ++ Builtin.zeroCells #[.int .i64 0, .int .i64 0] (grownCap w n 0 99 - n), hge, hm, by rw [Array.size_append, size_zeroCells, size_zeroCells]; simp; omega, ?_⟩
  simp [apmRun, Builtin.append_, run_underlying Try.underlying136, run_underlying Try.underlying3, sizeOf, typeInfo, zeroValue, hi, hz0, hz1, hz2, hw, a1, a2, a3, a4, a5, Question.forced, newRow, grownCap, asInt, asIntOf, Builtin.firstCells, Value.cells]
  intro h
  omega
attribute [local go_sem ↓] exec_apm
set_option maxRecDepth 100000 in
set_option maxHeartbeats 8000000 in
theorem implGrow (n : Nat) (w : World) (hn1 : 1 ≤ n) (hn2 : n ≤ 1000) :
    Calls Try.prog 138 #[.slice none 0 0, .int .i64 n] w fun e w' => ∃ g c, e = .returned (.slice (some ⟨g, 0, none⟩) 0 c) ∧ w'.ownsRow w.heap.size 99 2 (.slice (some ⟨g, 0, none⟩) 0 c) 0 [] ∧ Below w.heap.size w w' := by
  obtain ⟨c, cur, hc1, hc2, hc3, ha⟩ := run_apm n w hn1 hn2
  have hneg : ¬ (n : Int) < 0 := by omega
  have hpos : (0 : Int) < n := by omega
  go_enter Try.func138, Try.ntmps138
  go_wp2
  refine bodyPost_ret (v := .slice (some ⟨w.heap.size, 0, none⟩) 0 c) (by simp [results, Try.results138, go_sem, *]) rfl ⟨w.heap.size, c, rfl, ⟨by simp, Or.inr ⟨w.heap.size, c, cur, rfl, Nat.le_refl _, ?_, Nat.zero_le _, hc2, hc3, by simp⟩⟩, ?_⟩
  · show (w.alloc (.cells cur 99)).heap[w.heap.size]? = _
    exact Array.getElem?_push_size
  · exact ((Below.refl _ _).alloc (Nat.le_refl _) _).drew
end Go.Proofs.Ytdamdjhnhkmncaa

/-
  What slices.Concat does with two rows of spots.
-/
set_option linter.unusedSimpArgs false
namespace Go.Proofs.Ytdamdjhnhkmncaa
open Go.RowKit
attribute [local go_sem ↓] Go.wp_at_zero Go.wp_at_succ exec_app exec_allocL
attribute [local go_sem] bigNext_ok bigSkip_ok

theorem row_down {w : World} {base base' size : Nat} {t : TypeId} {v : Value} {n : Nat} {vs : List Value} (h : w.ownsRow base t size v n vs) (hb : base' ≤ base) : w.ownsRow base' t size v n vs := by
  obtain ⟨hl, hd⟩ := h
  refine ⟨hl, ?_⟩
  rcases hd with h0 | ⟨g, cap, cur, rfl, hg, hr⟩
  · exact Or.inl h0
  · exact Or.inr ⟨g, cap, cur, rfl, Nat.le_trans hb hg, hr⟩
theorem row_below {w w' : World} {base size : Nat} {t : TypeId} {v : Value} {n : Nat} {vs : List Value} (h : w.ownsRow base t size v n vs) (hB : Below w.heap.size w w') : w'.ownsRow base t size v n vs := by
  refine World.ownsRow.kept h (row := none) ⟨hB.os, hB.tape, hB.output, hB.size, fun k hk _ => hB.block k hk⟩ ?_
  cases hv : v.ownBlock with
  | none => exact Or.inl rfl
  | some g => exact Or.inr fun e => by cases e
theorem spC_one (l : List (Nat × Nat)) : ∀ u ∈ spC l, u.oneCell' = true := fun u hu => by
  obtain ⟨x, _, hx⟩ := List.mem_flatMap.1 hu
  simp only [List.mem_cons, List.not_mem_nil, or_false] at hx
  rcases hx with rfl | rfl <;> rfl
/-- An append of spots that lie in a row of somebody's. -/
theorem app_spots (lo : Nat) (v : Value) (xs ys : List (Nat × Nat)) (w : World) (h : w.ownsRow lo 99 2 v xs.length (spC xs)) (hlo : lo ≤ w.heap.size) (hn : xs.length ≤ 100) (hm : ys.length ≤ 100) (h0 : 0 < ys.length) (a : Option Addr) (c lo' : Nat) (hy : w.ownsRow lo' 99 2 (.slice a ys.length c) ys.length (spC ys)) :
    ∃ g cap w', appRun Try.prog 136 136 v (.slice a ys.length c) w = .ok (.slice (some ⟨g, 0, none⟩) (xs.length + ys.length) cap) w' ∧ w'.ownsRow lo 99 2 (.slice (some ⟨g, 0, none⟩) (xs.length + ys.length) cap) (xs.length + ys.length) (spC (xs ++ ys)) ∧ Below lo w w' := by
  obtain ⟨i0, hi, hz0, hz1, hz2⟩ := info_parts infoSp
  have hy' := hy
  obtain ⟨_, ⟨_, hc⟩ | ⟨T, cap, cur, e, _⟩⟩ := hy
  · omega
  · cases e
    obtain ⟨g, cap, w', hr, ho, hg, _, _⟩ := run_append_lies (P := Try.prog) w 136 136 lo 99 i0 _ 2 16 Try.underlying136 hi hz0 hz1 hz2 rfl (by decide) v xs.length (spC xs) h ⟨T, 0, none⟩ ys.length c (spC ys) (by rw [spC_len]) (fun j u hu => hy'.cells rfl j u hu) (spC_one ys) h0 (by unfold maxLen; omega) (by omega) hlo w.heap.size rfl
    refine ⟨g, cap, w', hr, ?_, Below.grown (Below.refl _ _) hg hlo (fun k hk => (h.lt k hk).1)⟩
    rw [show spC (xs ++ ys) = spC xs ++ spC ys by simp [spC]]
    exact ho
set_option maxRecDepth 100000 in
set_option maxHeartbeats 8000000 in
theorem implConcat (X : Nat) (a1 a2 : Option Addr) (c1 c2 lo1 lo2 : Nat) (l1 l2 : List (Nat × Nat)) (w : World) (hX : X < w.heap.size) (h0 : w.cell? ⟨X, 0, none⟩ = some (.slice a1 l1.length c1)) (h1 : w.cell? ⟨X, 1, none⟩ = some (.slice a2 l2.length c2))
    (ho1 : w.ownsRow lo1 99 2 (.slice a1 l1.length c1) l1.length (spC l1)) (ho2 : w.ownsRow lo2 99 2 (.slice a2 l2.length c2) l2.length (spC l2))
    (hs1 : l1.length ≤ 12) (hs2 : l2.length ≤ 12) (hl1 : 0 < l1.length) (hl2 : 0 < l2.length) :
    Calls Try.prog 122 #[.slice (some ⟨X, 0, none⟩) 2 2] w fun e w' => ∃ g c, e = .returned (.slice (some ⟨g, 0, none⟩) (l1.length + l2.length) c) ∧ w'.ownsRow w.heap.size 99 2 (.slice (some ⟨g, 0, none⟩) (l1.length + l2.length) c) (l1.length + l2.length) (spC (l1 ++ l2)) ∧ Below w.heap.size w w' := by
  replace ho1 := hidE ho1
  replace ho2 := hidE ho2
  obtain ⟨n1, hn1⟩ : ∃ n1, n1 = l1.length := ⟨_, rfl⟩
  obtain ⟨n2, hn2⟩ : ∃ n2, n2 = l2.length := ⟨_, rfl⟩
  rw [← hn1] at h0 hs1 hl1
  rw [← hn2] at h1 hs2 hl2
  rw [← hn1, ← hn2]
  have eM : IntKind.i64.wrap ((n1 : Int) + (n2 : Int)) = ((n1 + n2 : Nat) : Int) := by rw [wrap_small _ (by omega) (by omega)]; omega
  have hm12 : ¬ ((n1 + n2 : Nat) : Int) < 0 := by omega
  replace hn1 := hidE hn1
  replace hn2 := hidE hn2
  go_enter Try.func122, Try.ntmps122
  go_wp2_with (fail)
  go_loopw [3, 11] (fun s i wr => (i = .int .i64 0 ∧ s = .int .i64 0 ∨ i = .int .i64 1 ∧ s = .int .i64 n1 ∨ i = .int .i64 2 ∧ s = .int .i64 ((n1 + n2 : Nat) : Int)) ∧ Hid (Below w.heap.size w wr)) (fun _ i _ => 2 - (intOf i).toNat)
  case atStart => exact ⟨Or.inl ⟨rfl, rfl⟩, Below.refl _ _⟩
  case round =>
    obtain ⟨hk, hB⟩ := hrel
    have e0 := (hB.out.cell (p := ⟨X, 0, none⟩) hX).trans h0
    have e1 := (hB.out.cell (p := ⟨X, 1, none⟩) hX).trans h1
    have eA : IntKind.i64.wrap (n1 : Int) = (n1 : Int) := wrap_small _ (by omega) (by omega)
    rcases hk with ⟨rfl, rfl⟩ | ⟨rfl, rfl⟩ | ⟨rfl, rfl⟩
    · go_wp2
      go_roundw
      case rel => exact ⟨Or.inr (Or.inl ⟨by go_num, by go_num⟩), hB.out⟩
      case measure => simp [intOf]
    · go_wp2
      go_roundw
      case rel => exact ⟨Or.inr (Or.inr ⟨by go_num, by first | rfl | (congr 1; omega)⟩), hB.out⟩
      case measure => simp [intOf]
    · go_wp2_with (fail)
      refine (implGrow (n1 + n2) _ (by omega) (by omega)).mono ?_
      rintro e w2 ⟨g, c, rfl, hO, hB2⟩
      have HO := hidE hO
      have HB2 := hidE (hB.out.trans (hB2.mono hB.out.size))
      have s2 := hB2.size
      have s1 := hB.out.size
      clear hO hB2 hB e0 e1
      go_wp2_with (fail)
      go_loopw [6, 27] (fun v i wr => ∃ (k : Nat) (xs : List (Nat × Nat)) (g c : Nat), (k = 0 ∧ xs = [] ∨ k = 1 ∧ xs = l1 ∨ k = 2 ∧ xs = l1 ++ l2) ∧ i = .int .i64 k ∧ v = .slice (some ⟨g, 0, none⟩) xs.length c ∧ Hid (wr.ownsRow w.heap.size 99 2 (.slice (some ⟨g, 0, none⟩) xs.length c) xs.length (spC xs)) ∧ Hid (Below w.heap.size w wr)) (fun _ i _ => 2 - (intOf i).toNat)
      case atStart => exact ⟨0, [], g, c, Or.inl ⟨rfl, rfl⟩, rfl, rfl, row_down HO.out s1, HB2.out⟩
      case round =>
        clear HB2 HO
        obtain ⟨k, xs, g, c, hk, rfl, rfl, HO, HB⟩ := hrel
        have e0 := (HB.out.cell (p := ⟨X, 0, none⟩) hX).trans h0
        have e1 := (HB.out.cell (p := ⟨X, 1, none⟩) hX).trans h1
        have sr := HB.out.size
        rcases hk with ⟨rfl, hx⟩ | ⟨rfl, hx⟩ | ⟨rfl, hx⟩ <;> rw [hx] at HO ⊢ <;> clear hx
        · obtain ⟨g2, c2', w3, hApp, hO3, hB3⟩ := app_spots w.heap.size (.slice (some ⟨g, 0, none⟩) 0 c) [] l1 wr HO.out sr (by simp) (by rw [← hn1.out]; omega) (by rw [← hn1.out]; omega) a1 c1 lo1 (row_below ho1.out HB.out)
          simp only [List.length_nil, Nat.zero_add, List.nil_append] at hApp hO3
          rw [← hn1.out] at hApp
          replace hO3 := hidE hO3
          have HB3 := hidE (HB.out.trans hB3)
          clear HB hB3 HO
          go_wp2
          go_roundw
          case rel => exact ⟨1, l1, g2, c2', Or.inr (Or.inl ⟨rfl, rfl⟩), by go_num, by rw [hn1.out], hO3.out, HB3.out⟩
          case measure => simp [intOf]
        · obtain ⟨g2, c2', w3, hApp, hO3, hB3⟩ := app_spots w.heap.size (.slice (some ⟨g, 0, none⟩) l1.length c) l1 l2 wr HO.out sr (by rw [← hn1.out]; omega) (by rw [← hn2.out]; omega) (by rw [← hn2.out]; omega) a2 c2 lo2 (row_below ho2.out HB.out)
          rw [← hn1.out, ← hn2.out] at hApp hO3
          rw [← hn1.out]
          replace hO3 := hidE hO3
          have HB3 := hidE (HB.out.trans hB3)
          clear HB hB3 HO
          go_wp2
          go_roundw
          case rel => exact ⟨2, l1 ++ l2, g2, c2', Or.inr (Or.inr ⟨rfl, rfl⟩), by go_num, by rw [List.length_append, hn1.out, hn2.out], by rw [List.length_append, ← hn1.out, ← hn2.out]; exact hO3.out, HB3.out⟩
          case measure => simp [intOf]
        · go_wp2
          go_ret
          exact ⟨g, c, by rw [List.length_append, ← hn1.out, ← hn2.out]; rfl, by have := HO.out; rwa [List.length_append, ← hn1.out, ← hn2.out] at this, HB.out⟩
end Go.Proofs.Ytdamdjhnhkmncaa

/-
  What the program's own join does.
-/
set_option linter.unusedSimpArgs false
namespace Go.Proofs.Ytdamdjhnhkmncaa
open Go.RowKit
attribute [local go_sem ↓] Go.wp_at_zero Go.wp_at_succ exec_app exec_lod exec_house exec_mapsA exec_allocL exec_storeL exec_buildL exec_idxM exec_look exec_upd exec_allocH exec_buildH exec_storeH exec_bsL exec_storeQ exec_loadQ exec_idxQ
attribute [local go_sem] bigNext_ok bigSkip_ok

set_option maxRecDepth 100000 in
set_option maxHeartbeats 8000000 in
theorem implJoinI (B L c : Nat) (h : Hst) (w : World) (hW : HouseW w B L c h) (k : OkH h) :
    Calls Try.prog 75 #[.pointer (some ⟨B, 0, none⟩)] w fun e w' => e = .returned (.bool (joinB h)) ∧ HouseW w' B L c (joinH h) ∧ Upd2 B L w w' := by
  have hl2 := hW.2.2.2.2.2.2.2.1
  have lB := hW.2.2.2.2.2.2.2.2.1
  have lL := hW.2.2.2.2.2.2.2.2.2
  have htw := implTwins B L c h w hW k
  have HJH := hidE (show joinH h = match twins h with | some x => shareP h x.2 x.1 | none => h from rfl)
  have HJB := hidE (show joinB h = (twins h).isSome from rfl)
  obtain ⟨jb, hjb⟩ : ∃ jb, jb = joinB h := ⟨_, rfl⟩
  obtain ⟨jh, hjh⟩ : ∃ jh, jh = joinH h := ⟨_, rfl⟩
  rw [← hjb, ← hjh]
  rw [← hjb] at htw HJB
  rw [← hjh] at HJH
  have HW := hidE hW
  clear hW hjb hjh
  go_enter Try.func75, Try.ntmps75
  go_wp2_with (fail)
  refine htw.mono ?_
  rintro e w2 ⟨a, b, rfl, hab, B2⟩
  have s2 := B2.size
  have K2 := hidE (HW.out.belowK B2)
  have HB2 := hidE B2
  have Hab := hidE hab
  clear B2 htw HW hab
  cases jb
  · have Hj := hidE (show jh = h by
      rw [HJH.out]
      have e := HJB.out
      cases ht : twins h with
      | none => rfl
      | some x => rw [ht] at e; cases e)
    go_wp2
    refine bodyPost_ret (v := .bool false) (by simp [results, Try.results75, go_sem]) rfl ?_
    rw [Hj.out]
    exact ⟨rfl, K2.out, Upd2.ofBelow HB2.out⟩
  · have htwn := Hab.out rfl
    have Hj := hidE (show jh = shareP h b a by rw [HJH.out, htwn])
    obtain ⟨hab1, hb8⟩ := mem_pairsL.1 (List.mem_of_find?_eq_some htwn)
    have hgv := K2.out.give
    have ht := implTenants L h.guests.length c h.frames h.hand h.guests w2 k.f8 rfl hl2 (fun i hi => (K2.out.lodAt hi).1) (okH_wf k) (by omega) (fun i hi => (K2.out.lodAt hi).2.1)
    generalize hhs : (houseC h.frames (.slice (some ⟨L, 0, none⟩) h.guests.length c) h.hand).toArray = hs at *
    go_wp2_with (fail)
    refine ht.mono ?_
    rintro e w3 ⟨r, rfl, hr, hWho, B3⟩
    have s3 := B3.size
    have K3 := hidE (K2.out.belowK B3)
    have HB3 := hidE (HB2.out.trans (B3.mono s2))
    obtain ⟨aa, ca, hla0, hownA, _⟩ := hWho.look (a : Int) (wf_small (by omega) (by omega))
    obtain ⟨ab, cb, hlb0, hownB, _⟩ := hWho.look (b : Int) (wf_small (by omega) (by omega))
    have hla : lookRun Try.prog 137 (.map (some r)) (.int .i64 (a : Int)) w3 = .ok (.slice aa (ten h.guests (a : Int)).length ca) w3 := hla0 w3 rfl
    have hlb : lookRun Try.prog 137 (.map (some r)) (.int .i64 (b : Int)) w3 = .ok (.slice ab (ten h.guests (b : Int)).length cb) w3 := hlb0 w3 rfl
    clear ht hWho B3 hgv hhs hla0 hlb0
    have hpa : 0 < (ten h.guests (a : Int)).length ∧ 0 < (ten h.guests (b : Int)).length := by
      have hb := List.find?_some htwn
      simp only [twinB, Bool.and_eq_true, decide_eq_true_eq] at hb
      exact ⟨by rw [ten_users h (a : Int) (fun i hi => (k.six i hi).1)]; exact hb.1, by rw [ten_users h (b : Int) (fun i hi => (k.six i hi).1)]; exact hb.2.1⟩
    have hla12 : (ten h.guests (a : Int)).length ≤ 12 := by have := tenG_len h.guests h.guests.length (a : Int); show (tenG h.guests h.guests.length (a : Int)).length ≤ 12; omega
    have hlb12 : (ten h.guests (b : Int)).length ≤ 12 := by have := tenG_len h.guests h.guests.length (b : Int); show (tenG h.guests h.guests.length (b : Int)).length ≤ 12; omega
    obtain ⟨la, hla'⟩ : ∃ la, la = ten h.guests (a : Int) := ⟨_, rfl⟩
    obtain ⟨lb, hlb'⟩ : ∃ lb, lb = ten h.guests (b : Int) := ⟨_, rfl⟩
    rw [← hla'] at hla hownA hpa hla12
    rw [← hlb'] at hlb hownB hpa hlb12
    have hL := hidE (show shareL h b a = la ++ lb by rw [hla', hlb']; rfl)
    clear hla' hlb'
    have hCC := implConcat w3.heap.size aa ab ca cb _ _ la lb (w3.alloc (.cells #[.slice aa la.length ca, .slice ab lb.length cb] 136)) (by simp) (by simp) (by simp) (World.ownsRow.alloc hownA _) (World.ownsRow.alloc hownB _) hla12 hlb12 hpa.1 hpa.2
    clear hownA hownB
    go_wp2_with (fail)
    refine hCC.mono ?_
    rintro e w5 ⟨TT, c5, rfl, hO5, B5⟩
    clear hCC
    have h8 : (a : Int) < 8 := by omega
    have k5 : Below w3.heap.size w3 w5 := ((Below.refl _ _).alloc (Nat.le_refl _) _).trans (B5.mono (by simp))
    have s5 := k5.size
    have HB5 := hidE (HB3.out.trans (k5.mono (by omega)))
    have K5 := hidE (K3.out.belowK k5)
    obtain ⟨l, hl⟩ : ∃ l, l = la ++ lb := ⟨_, rfl⟩
    have hlen : la.length + lb.length = l.length := by rw [hl, List.length_append]
    have hl24 : l.length ≤ 24 := by omega
    rw [← hl] at hO5 hL
    rw [hlen] at hO5 ⊢
    have hsp : ∀ q, q < l.length → w5.cell? ⟨TT, q * 2, none⟩ = some (.int .i64 ((l.getD q (0, 0)).1 : Nat)) ∧ w5.cell? ⟨TT, q * 2 + 1, none⟩ = some (.int .i64 ((l.getD q (0, 0)).2 : Nat)) := by
      rcases own_spots hO5 with h0 | ⟨T', e, _, _, h3⟩
      · omega
      · cases e; exact h3
    have hTT1 : w3.heap.size ≤ TT := by have := (hO5.lt TT rfl).1; simp at this; omega
    have hTT2 : TT < w5.heap.size := (hO5.lt TT rfl).2
    have hplc : Plc h.guests.length l := by rw [← hL.out]; exact plc_share h b a
    obtain ⟨MM, hMM⟩ : ∃ MM : Nat → Nat → E3, MM = fun _ _ => (true, (a : Int), false) := ⟨_, rfl⟩
    have Hjs := hidE (show jh = settleAll MM h l by rw [Hj.out, shareP, hL.out, hMM])
    have HMM := hidE hMM
    have hat := hidE (fun q => settleAll_at MM (l.take q) k.six (fun x hx => hplc x (List.mem_of_mem_take hx)))
    clear hl hlen hO5 B5 k5 K3 HB3 hMM hL Hj hla hlb hla12 hlb12 hpa
    generalize w5 = Wm at *
    go_wp2_with (fail)
    go_loopw [8, 30] (fun _ i wr => ∃ q : Nat, q ≤ l.length ∧ i = .int .i64 q ∧ Hid (HouseW wr B L c (settleAll MM h (l.take q))) ∧ Hid (Upd2 B L Wm wr)) (fun _ i _ => l.length - (intOf i).toNat)
    case atStart => exact ⟨0, Nat.zero_le _, rfl, K5.out, Upd2.refl _ _ _⟩
    case round =>
      clear K5
      obtain ⟨q, hq, rfl, HK, HU⟩ := hrel
      have sU := HU.out.size
      have lTr : TT < wr.heap.size := by omega
      have lLr : L < wr.heap.size := by omega
      have lBr : B < wr.heap.size := by omega
      by_cases hql : q < l.length
      · have hqi : (q : Int) < (l.length : Int) := by omega
        obtain ⟨q0, q1⟩ := hsp q hql
        have hbT : wr.heap[TT]? = Wm.heap[TT]? := HU.out.block TT hTT2 (by omega) (by omega)
        have q0 := (World.cell?_of_block (a := ⟨TT, q * 2, none⟩) hbT).trans q0
        have q1 := (World.cell?_of_block (a := ⟨TT, q * 2 + 1, none⟩) hbT).trans q1
        have hin : l.getD q (0, 0) ∈ l := by rw [getD_lt hql]; exact List.getElem_mem hql
        obtain ⟨hpg, hpp⟩ := hplc _ hin
        have htk : l.take (q + 1) = l.take q ++ [((l.getD q (0, 0)).1, (l.getD q (0, 0)).2)] := by
          rw [List.take_succ_eq_append_getElem hql, getD_lt hql]
        obtain ⟨g, hg⟩ : ∃ g, g = (l.getD q (0, 0)).1 := ⟨_, rfl⟩
        obtain ⟨p, hp⟩ : ∃ p, p = (l.getD q (0, 0)).2 := ⟨_, rfl⟩
        rw [← hg] at q0 htk hpg
        rw [← hp] at q1 htk hpp
        obtain ⟨a1, a2, _, _, a5, _⟩ := hat.out q
        have hnext : settleAll MM h (l.take (q + 1)) = settleP (settleAll MM h (l.take q)) g p (MM g p) := by rw [htk, settleAll_append]; rfl
        have hgc : g < (settleAll MM h (l.take q)).guests.length := by rw [a2]; exact hpg
        rw [show MM g p = (true, (a : Int), false) by rw [HMM.out]] at hnext
        have Hnext := hidE hnext
        clear hg hp htk hin a1 a5 hnext
        obtain ⟨W5, hW5⟩ : ∃ W5, W5 = wr.alloc (.cells #[.int .i64 g, .int .i64 p] 99) := ⟨_, rfl⟩
        have B5 : Below wr.heap.size wr W5 := by rw [hW5]; exact (Below.refl _ _).alloc (Nat.le_refl _) _
        have hset := implSettle B L c g p _ (true, (a : Int), false) W5 (HK.out.belowK B5) hgc hpp
        have HU5 := hidE (HU.out.trans (Upd2.ofBelow B5))
        clear HK HU B5 hgc
        go_wp2_with (fail)
        rw [← hW5]
        clear hW5
        refine hset.mono ?_
        rintro e w7 ⟨rfl, k7, s7', x7, b7⟩
        have U7 := hidE (HU5.out.trans (Upd2.right (upd_of s7' x7 b7)))
        replace k7 := hidE k7
        clear hset x7 b7 HU5
        go_wp2
        go_roundw
        case rel => exact ⟨q + 1, by omega, by go_num, by rw [Hnext.out]; exact k7.out, U7.out⟩
        case measure => simp [intOf]; omega
      · obtain rfl : q = l.length := by omega
        go_wp2
        refine bodyPost_ret (v := .bool true) (by simp [results, Try.results75, go_sem]) rfl ?_
        rw [Hjs.out]
        have := HK.out
        rw [List.take_length] at this
        exact ⟨rfl, this, (Upd2.ofBelow HB5.out).trans HU.out⟩
end Go.Proofs.Ytdamdjhnhkmncaa

/-
  What the program's own PageJoin does.
-/
set_option linter.unusedSimpArgs false
namespace Go.Proofs.Ytdamdjhnhkmncaa
open Go.RowKit
attribute [local go_sem ↓] Go.wp_at_zero Go.wp_at_succ exec_app exec_lod exec_house exec_mapsA exec_allocL exec_storeL exec_buildL exec_idxM exec_look exec_upd exec_allocH exec_buildH exec_storeH exec_bsL exec_storeQ exec_loadQ exec_idxQ
attribute [local go_sem] bigNext_ok bigSkip_ok

set_option maxRecDepth 100000 in
set_option maxHeartbeats 8000000 in
theorem implPageJoinG (lo hi : Nat) (af ag : Option Addr) (lf cf n cg : Nat) (h : Hst) (w : World) (hH : HostIn w lo hi (.slice af lf cf) (.slice ag n cg) h) (hh : hi ≤ w.heap.size) (hwf : WfGs h.guests.length h.guests) :
    Calls Try.prog 30 #[.agg #[.slice af lf cf, .slice ag n cg, .int .i64 h.hand]] w fun e w' => Gives2H w w' e (pageJoinH h) (.bool (pageJoinHv h)) := by
  obtain ⟨W0, hW0⟩ : ∃ W0, W0 = (w.alloc (.cells #[.slice af lf cf, .slice ag n cg, .int .i64 h.hand] 27)).alloc (.cells #[.slice none 0 0, .slice none 0 0, .int .i64 0] 27) := ⟨_, rfl⟩
  have B0 : Below w.heap.size w W0 := by rw [hW0]; exact ((Below.refl _ _).alloc (Nat.le_refl _) _).alloc (by simp) _
  have s0 : w.heap.size + 1 < W0.heap.size := by rw [hW0]; simp
  have r0 : Var3 W0 (w.heap.size + 1) (.slice none 0 0) (.slice none 0 0) (.int .i64 0) := by rw [hW0]; exact var3_newK (by simp)
  have hc := implHouseOf lo hi af ag lf cf n cg h W0 (hH.same (below_sameIn B0 hh)) (Nat.le_trans hh B0.size) hwf
  obtain ⟨zH, hzs, hAl, hSt⟩ := house_var
  clear hH
  go_enter Try.func30, Try.ntmps30
  go_wp2_with (fail)
  rw [← hW0]
  clear hW0
  refine hc.mono ?_
  rintro e w1 ⟨cs, hl, h1, rfl, B1, hL⟩
  rw [houseB_eq] at hL ⊢
  have hS := hSt w1 cs hl h1
  have hB1 : Below w.heap.size w w1 := B0.trans (B1.mono B0.size)
  have BA : Below w1.heap.size w1 (w1.alloc (.cells cs.toArray 74)) := (Below.refl _ _).alloc (Nat.le_refl _) _
  have s01 := B1.size
  have HrA := hidE ((r0.same (B1.block _ s0)).same (BA.block _ (by omega)))
  have HBA := hidE (hB1.trans (BA.mono hB1.size))
  have hltA : w.heap.size + 1 < (w1.alloc (.cells cs.toArray 74)).heap.size := by simp; omega
  cases hok : okHost h
  · have HS := hidE (show pageJoinH h = noH ∧ pageJoinHv h = false by rw [pageJoinH, pageJoinHv, hok]; exact ⟨rfl, rfl⟩)
    obtain ⟨q0, q1, q2, f0, f1, f2⟩ := HrA.out
    generalize hca : cs.toArray = ca at *
    clear hSt hc hL hl h1 hca BA
    generalize w1.alloc (.cells ca 74) = W2 at *
    go_wp2
    refine bodyPost_ret (v := .tuple #[.agg #[.slice none 0 0, .slice none 0 0, .int .i64 0], .bool false]) (by simp [results, Try.results30, go_sem, *]) rfl ?_
    rw [HS.out.1, HS.out.2]
    exact gives2H_no HBA.out (Nat.le_succ _) _ _ _
  obtain ⟨L, c, rfl, hL1, hL2, hL3⟩ := hL hok
  · have HF := hidE (show pageJoinH h = joinH h ∧ pageJoinHv h = joinB h by rw [pageJoinH, pageJoinHv, hok]; exact ⟨rfl, rfl⟩)
    have hW := houseW_new (c := c) hok hL2 hL3
    have kk := okHost_of hok
    have hLw1 := hL2.2.1
    obtain ⟨W2, hW2⟩ : ∃ W2, W2 = w1.alloc (.cells (houseC h.frames (.slice (some ⟨L, 0, none⟩) h.guests.length c) h.hand).toArray 74) := ⟨_, rfl⟩
    rw [← hW2] at hW BA hS HrA HBA hltA
    have s2 : W2.heap.size ≤ w1.heap.size + 1 ∧ w1.heap.size + 1 ≤ W2.heap.size := by rw [hW2]; simp
    have hmv := implJoinI w1.heap.size L c h W2 hW kk
    obtain ⟨mb, hmb⟩ : ∃ mb, mb = joinB h := ⟨_, rfl⟩
    obtain ⟨mh, hmh⟩ : ∃ mh, mh = joinH h := ⟨_, rfl⟩
    rw [← hmb, ← hmh] at hmv HF
    generalize hca : (houseC h.frames (.slice (some ⟨L, 0, none⟩) h.guests.length c) h.hand).toArray = ca at *
    clear hSt hc hl h1 hca BA hL2 hL3 hW hW2 hmb hmh kk
    go_wp2_with (fail)
    refine hmv.mono ?_
    rintro e w3 ⟨rfl, k3, U3⟩
    have s3 := U3.size
    have hld := k3.give
    have hho := houseHostW k3
    have v3 := HrA.out.same (U3.block (w.heap.size + 1) (by omega) (by omega) (by omega))
    have Bw3 := hidE (HBA.out.trans (U3.below (by omega) (by omega) (by omega)))
    clear hmv k3 U3 hS
    generalize hcs2 : (houseC mh.frames (.slice (some ⟨L, 0, none⟩) mh.guests.length c) mh.hand).toArray = hs2 at *
    go_wp2_with (fail)
    refine hho.mono ?_
    rintro e w7 ⟨vf, vg, rfl, hO7, B7⟩
    have hO7' := hO7
    obtain ⟨af', cf', m0, m1, rfl, _, _, _, ag', cg', rfl, _⟩ := hO7'
    have z7 := B7.size
    obtain ⟨q0, q1, q2, f0, f1, f2⟩ := v3.same (B7.block _ (by omega))
    have hlt : w.heap.size + 1 < w7.heap.size := by omega
    have HO7 := hidE hO7
    have HB7 := hidE B7
    clear hho hO7 B7 hld v3
    generalize mh.frames.length = lfx at *
    generalize mh.guests.length = lgx at *
    go_wp2
    refine bodyPost_ret (v := .tuple #[.agg #[.slice af' lfx cf', .slice ag' lgx cg', .int .i64 mh.hand], .bool mb]) (by simp [results, Try.results30, go_sem, *]) rfl ?_
    rw [HF.out.1, HF.out.2]
    exact gives2H_ret Bw3.out HO7.out HB7.out (Nat.le_succ _) (by omega) _ _ _
end Go.Proofs.Ytdamdjhnhkmncaa
