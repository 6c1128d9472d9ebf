/-
  The drawn text of a table, some spoilt: a short one, whatever it is.
-/
import Derived.Test.YtfiailnlkhonnaaDoorDrawTab1
import Derived.Test.YtfiailnlkhonnaaDoorTextOne0
import Derived.Deep.DeepCutAuto
import Derived.Shelf.RegionOpen
namespace Go.Proofs.YtfiailnlkhonnaaDoor
open Go.RowKit

theorem text_short (len : Nat) (es : List E3) (hl : es.length = len) (hm : len ≤ 1048576) :
    ∃ S : ByteArray, S.size ≤ 19 ∧ ∀ (b o cap : Nat) (w : World), b < w.heap.size → Ents w b o es → Calls Tryd.prog 7 #[.slice (some ⟨b, o, none⟩) len cap] w fun e w' => e = .returned (.string S) ∧ Below w.heap.size w w' := by
  obtain ⟨S, sS, _, hS⟩ := both_text len es hl hm
  refine ⟨S, ?_, sS⟩
  rcases hS with rfl | ⟨rfl, _, rfl⟩
  · exact Nat.zero_le _
  · have := preS_size es 6
    rw [ByteArray.size_append]
    have h1 : (⟨#[10]⟩ : ByteArray).size = 1 := rfl
    omega

set_option maxHeartbeats 1000000 in
theorem of_any (rb k b : Nat) (w : World) (hr : Rd w rb k) (hk : k ≤ 900000) (hne : b ≠ rb) (hb : ∀ i, i < 6 → ∃ t : ByteArray, t.size ≤ 1 ∧ w.cell? ⟨b, i, none⟩ = some (.string t)) :
    Calls Tryd.prog 24 #[.pointer (some ⟨rb, 0, none⟩), .slice (some ⟨b, 0, none⟩) 6 6] w fun e w' => ∃ t : ByteArray, e = .returned (.string t) ∧ t.size ≤ 1 ∧ Adv rb w w' := by
  have hne' : ¬ b = rb := hne
  go_enter Tryd.func24, Tryd.ntmps24
  go_wp2_with (fail)
  refine (pick_any rb k _ _ hr (by omega) (by omega) (by omega)).mono ?_
  rintro e w' ⟨v, m, rfl, v0, v6, rfl⟩
  obtain ⟨j, rfl⟩ := Int.eq_ofNat_of_zero_le v0
  obtain ⟨t, ht, hc⟩ := hb j (by omega)
  go_wp2
  go_ret
  refine ⟨t, rfl, ht, ?_⟩
  (repeat' (with_reducible (first | exact Adv.refl _ _ | apply Adv.drewN | apply Adv.drew | apply Adv.alloc | apply Adv.setCell))) <;> (first | exact Or.inl rfl | (refine Or.inr ?_; simp; done) | (refine Or.inr ?_; simp; omega))

/-- Six short texts, newly laid. -/
theorem six_cells (V : World) : ∀ i, i < 6 → ∃ t : ByteArray, t.size ≤ 1 ∧ (V.alloc (.cells #[.string ⟨#[45]⟩, .string ⟨#[119]⟩, .string ⟨#[32]⟩, .string ⟨#[49]⟩, .string ⟨#[10]⟩, .string ⟨#[54]⟩] 9)).drew.cell? ⟨V.heap.size, i, none⟩ = some (.string t) := by
  intro i hi
  have h : i = 0 ∨ i = 1 ∨ i = 2 ∨ i = 3 ∨ i = 4 ∨ i = 5 := by omega
  rcases h with rfl | rfl | rfl | rfl | rfl | rfl
  · exact ⟨⟨#[45]⟩, Nat.le_refl _, by simp⟩
  · exact ⟨⟨#[119]⟩, Nat.le_refl _, by simp⟩
  · exact ⟨⟨#[32]⟩, Nat.le_refl _, by simp⟩
  · exact ⟨⟨#[49]⟩, Nat.le_refl _, by simp⟩
  · exact ⟨⟨#[10]⟩, Nat.le_refl _, by simp⟩
  · exact ⟨⟨#[54]⟩, Nat.le_refl _, by simp⟩

set_option maxHeartbeats 600000 in
theorem drawTabRead (a : Option Addr) (len cap : Nat) (zs : List Int) (w : World) (h : IsRow .u8 w a len cap zs) :
    Calls Tryd.prog 11 #[.slice a len cap] w fun e w' => ∃ s : ByteArray, e = .returned (.string s) ∧ s.size ≤ 1048576 ∧ Below w.heap.size w w' := by
  go_enter Tryd.func11, Tryd.ntmps11
  go_wp2_with (fail)
  refine (open_any a len cap zs _ h).mono ?_
  rintro e w' ⟨rfl, len', hl, rfl⟩
  go_wp2_with (fail)
  have hr := rd_new h hl 0 57
  refine (drawTab w.heap.size 0 _ hr (by omega)).mono ?_
  rintro e w1 ⟨ba, oa, la, ca, ea, k1, rfl, hla, ma, t1, t2, E1, hr1, hk1, ha1⟩
  have hB1 : Below w.heap.size w w1 := ((Below.refl w.heap.size w).alloc (Nat.le_refl _) _).trans (ha1.below (Nat.le_refl _) (by simp))
  obtain ⟨S, hS, sS⟩ := text_short la ea hla (by omega)
  clear hr
  go_wp2_with (fail)
  refine (sS ba oa ca _ t2 E1).mono ?_
  rintro e w2 ⟨rfl, B2⟩
  have hr := hr1.below B2 hr1.lt
  have hB2 := hB1.trans (B2.mono hB1.size)
  have hlt := hr.lt
  clear sS hB1 B2 hr1 ha1 E1 t1 t2
  go_wp2_with (fail)
  refine (pick_any w.heap.size k1 _ _ hr (by omega) (by omega) (by omega)).mono ?_
  rintro e w' ⟨p1, m1, rfl, p1a, p1b, rfl⟩
  go_wp2_with (fail)
  refine (pick_any w.heap.size (k1 + 1) _ _ ?hr (by omega) (by omega) (by omega)).mono ?_
  case hr => (repeat' (with_reducible (first | exact hr | exact hr.toA | apply Rd.drewN | apply Rd.drew | apply Rd.alloc | apply Rd.stepZ | apply Rd.other | apply RdA.drewN | apply RdA.drew | apply RdA.alloc | apply RdA.step1 | apply RdA.step2 | apply RdA.other))) <;> (first | omega | (simp; done) | (simp; omega))
  rintro e V ⟨p2, m2, rfl, p2a, p2b, hV⟩
  have hrV : Rd V w.heap.size (k1 + 2) := by
    rw [hV]
    (repeat' (with_reducible (first | exact hr | exact hr.toA | apply Rd.drewN | apply Rd.drew | apply Rd.alloc | apply Rd.stepZ | apply Rd.other | apply RdA.drewN | apply RdA.drew | apply RdA.alloc | apply RdA.step1 | apply RdA.step2 | apply RdA.other))) <;> (first | omega | (simp; done) | (simp; omega))
  have hBV : Below w.heap.size w V := by
    rw [hV]
    (repeat' (with_reducible (first | exact Below.refl _ _ | apply Below.setCell | apply Below.alloc | apply below_drewN | apply Below.drew | refine Below.trans ?_ (Below.mono (by assumption) ?_)))) <;> (first | exact Nat.le_refl _ | (simp; done) | (simp; omega) | (simp at *; omega))
  have hVl := hrV.lt
  have hne : V.heap.size ≠ w.heap.size := by omega
  clear hV hr hB2 hlt
  by_cases c0 : p2 = 0
  · subst c0
    have p1c : p1 ≤ (S.size : Int) := by omega
    go_wp2
    go_ret
    exact ⟨S.extract 0 p1.toNat, rfl, by rw [ByteArray.size_extract]; omega, hBV⟩
  · by_cases c1 : p2 = 1
    · subst c1
      have p1c : p1 ≤ (S.size : Int) := by omega
      have hO := of_any w.heap.size (k1 + 2) V.heap.size ((V.alloc (.cells #[.string ⟨#[45]⟩, .string ⟨#[119]⟩, .string ⟨#[32]⟩, .string ⟨#[49]⟩, .string ⟨#[10]⟩, .string ⟨#[54]⟩] 9)).drew) ((hrV.alloc _).drew) (by omega) hne (six_cells V)
      have hz1 : (S.extract 0 p1.toNat).size ≤ 19 := by rw [ByteArray.size_extract]; omega
      have hz2 : (S.extract p1.toNat S.size).size ≤ 19 := by rw [ByteArray.size_extract]; omega
      have hBo : Below w.heap.size w ((V.alloc (.cells #[.string ⟨#[45]⟩, .string ⟨#[119]⟩, .string ⟨#[32]⟩, .string ⟨#[49]⟩, .string ⟨#[10]⟩, .string ⟨#[54]⟩] 9)).drew) := (hBV.alloc hBV.size _).drew
      go_wp2_with (fail)
      go_region_with (go_at_call 24; refine hO.mono ?_; rintro e w3 ⟨t, rfl, ht, A3⟩; have hB3 := hBo.trans (A3.below (Nat.le_refl _) hBo.size); have hz3 : (S.extract 0 p1.toNat ++ t).size ≤ 20 := (by rw [ByteArray.size_append]; omega))
      all_goals
        go_wp2
        go_ret
        exact ⟨_, rfl, by rw [ByteArray.size_append]; omega, hB3⟩
    · go_wp2
      go_ret
      exact ⟨S, rfl, by omega, hBV⟩
end Go.Proofs.YtfiailnlkhonnaaDoor
