/-
  What the given TabText does.
-/
import Derived.Test.YtfiailnlkhonnaaDoorText0
namespace Go.Proofs.YtfiailnlkhonnaaDoor
open Go.RowKit

theorem ok_page' {es : List E3} (h : es.all okE = true) {k : Nat} (hk : k < es.length) {p : Int} {b : Bool} (he : es.getD k (false, 0, false) = (true, p, b)) : 0 ≤ p ∧ p ≤ 5 := by
  rw [List.all_eq_true] at h
  have hm : es.getD k (false, 0, false) ∈ es := by rw [List.getD_eq_getElem?_getD, List.getElem?_eq_getElem hk]; exact List.getElem_mem hk
  have := h _ hm
  rw [he] at this
  simpa [okE] using this
theorem ok_none' {es : List E3} (h : es.all okE = true) {k : Nat} (hk : k < es.length) {p : Int} {b : Bool} (he : es.getD k (false, 0, false) = (false, p, b)) : p = 0 ∧ b = false := by
  rw [List.all_eq_true] at h
  have hm : es.getD k (false, 0, false) ∈ es := by rw [List.getD_eq_getElem?_getD, List.getElem?_eq_getElem hk]; exact List.getElem_mem hk
  have := h _ hm
  rw [he] at this
  simpa [okE] using this

/-- One entry more, as the given function writes it. -/
def stepS (o : ByteArray) (e : E3) (last : Bool) : ByteArray :=
  bif last then (bif e.2.2 then (bif e.1 then o ++ txt (true, e.2.1, false) else o ++ ⟨#[45]⟩) ++ ⟨#[119]⟩ else (bif e.1 then o ++ txt (true, e.2.1, false) else o ++ ⟨#[45]⟩))
  else (bif e.2.2 then (bif e.1 then o ++ txt (true, e.2.1, false) else o ++ ⟨#[45]⟩) ++ ⟨#[119]⟩ else (bif e.1 then o ++ txt (true, e.2.1, false) else o ++ ⟨#[45]⟩)) ++ ⟨#[32]⟩
def preS (es : List E3) : Nat → ByteArray
  | 0 => ⟨#[]⟩
  | k + 1 => stepS (preS es k) (es.getD k (false, 0, false)) (k + 1 == 6)

theorem txt_size (p : Int) : (txt (true, p, false)).size = 1 := rfl
theorem stepS_size (o : ByteArray) (e : E3) (l : Bool) : (stepS o e l).size ≤ o.size + 3 := by
  obtain ⟨h, p, b⟩ := e
  have t := txt_size p
  have s1 : (⟨#[45]⟩ : ByteArray).size = 1 := rfl
  have s2 : (⟨#[119]⟩ : ByteArray).size = 1 := rfl
  have s3 : (⟨#[32]⟩ : ByteArray).size = 1 := rfl
  cases h <;> cases b <;> cases l <;> simp only [stepS, cond_true, cond_false, ByteArray.size_append, t, s1, s2, s3] <;> omega
theorem preS_size (es : List E3) (k : Nat) : (preS es k).size ≤ 3 * k := by
  induction k with
  | zero => exact Nat.le_refl _
  | succ k ih =>
    have := stepS_size (preS es k) (es.getD k (false, 0, false)) (k + 1 == 6)
    show (stepS (preS es k) (es.getD k (false, 0, false)) (k + 1 == 6)).size ≤ _
    omega

set_option maxHeartbeats 400000 in
theorem specTabText_not (b o len cap : Nat) (es : List E3) (w : World) (hl : es.length = len) (hm : len ≤ 1048576) (hb : b < w.heap.size) (hc : Ents w b o es) (hT : (es.all okE && ((len : Int) == 6)) = false) :
    Calls Tryd.prog 7 #[.slice (some ⟨b, o, none⟩) len cap] w fun e w' => e = .returned (.string ⟨#[]⟩) ∧ Below w.heap.size w w' := by
  go_enter Tryd.func7, Tryd.ntmps7
  go_wp2_with (fail)
  refine (specTabOk b o len cap es _ hl (by omega) hb hc).mono ?_
  rintro e w1 ⟨rfl, B1⟩
  rw [hT]
  go_wp2
  go_ret
  exact ⟨rfl, B1⟩

set_option maxHeartbeats 2000000 in
theorem specTabText_ok (b o cap : Nat) (es : List E3) (w : World) (hl : es.length = 6) (hb : b < w.heap.size) (hc : Ents w b o es) (hA : es.all okE = true) :
    Calls Tryd.prog 7 #[.slice (some ⟨b, o, none⟩) 6 cap] w fun e w' => e = .returned (.string (preS es 6 ++ ⟨#[10]⟩)) ∧ Below w.heap.size w w' := by
  go_enter Tryd.func7, Tryd.ntmps7
  go_wp2_with (fail)
  refine (specTabOk b o 6 cap es _ hl (by omega) hb hc).mono ?_
  rintro e w1 ⟨rfl, B1⟩
  rw [show (es.all okE && (((6 : Nat) : Int) == 6)) = true by rw [hA]; rfl]
  go_wp2
  go_loopw [3, 4] (fun s i wr => ∃ k : Nat, k ≤ 6 ∧ i = .int .i64 k ∧ s = .string (preS es k) ∧ Below w.heap.size w wr) (fun _ i _ => 6 - (intOf i).toNat)
  case atStart => exact ⟨0, Nat.zero_le _, rfl, rfl, B1⟩
  case round =>
    obtain ⟨k, hk, rfl, rfl, hW⟩ := hrel
    have sW := hW.size
    by_cases hkl : k < 6
    · obtain ⟨q0, q1, q2⟩ := hc k (by omega)
      have hS : preS es (k + 1) = stepS (preS es k) (es.getD k (false, 0, false)) (k + 1 == 6) := rfl
      have hP := fun p b (h : es.getD k (false, 0, false) = (true, p, b)) => ok_page' hA (k := k) (by omega) h
      have hN := fun p b (h : es.getD k (false, 0, false) = (false, p, b)) => ok_none' hA (k := k) (by omega) h
      generalize es.getD k (false, 0, false) = ek at q0 q1 q2 hS hP hN
      obtain ⟨eh, ep, ew⟩ := ek
      have c0 := (hW.cell (p := ⟨b, o + k * 3, none⟩) hb).trans q0
      have c1 := (hW.cell (p := ⟨b, o + k * 3 + 1, none⟩) hb).trans q1
      have c2 := (hW.cell (p := ⟨b, o + k * 3 + 2, none⟩) hb).trans q2
      have HS : Hid (preS es (k + 1) = stepS (preS es k) (eh, ep, ew) (k + 1 == 6)) := hS
      clear hS q0 q1 q2
      have hki : (k : Int) < 6 := by omega
      have hbr : b < wr.heap.size := by omega
      have hsz := preS_size es k
      generalize preS es k = pk at HS hsz
      have ts := txt_size ep
      by_cases hk5 : k + 1 < 6
      · have hk5i : (k : Int) + 1 < 6 := by omega
        have hl5 : (k + 1 == 6) = false := by simp; omega
        rw [hl5] at HS
        clear hl5
        cases eh
        · obtain ⟨rfl, rfl⟩ := hN ep ew rfl
          clear hP hN
          go_wp2_with (first | (go_at_call 18; refine (dec_any _ _ (by omega) (by omega)).mono ?_; rintro e w3 ⟨rfl, b3⟩; have c2 := (b3.cell (p := ⟨b, o + k * 3 + 2, none⟩) hbr).trans c2) | fail)
          go_roundw
          case rel =>
            refine ⟨k + 1, by omega, by go_num, by rw [HS.out]; rfl, ?_⟩
            (repeat' (with_reducible (first | exact Below.refl _ _ | apply Below.setCell | apply Below.alloc | apply below_drewN | apply Below.drew | refine Below.trans ?_ (Below.mono (by assumption) ?_)))) <;> (first | exact Nat.le_refl _ | (simp; done) | (simp; omega) | (simp at *; omega))
          case measure => simp [intOf]; omega
        · obtain ⟨p0, p5⟩ := hP ep ew rfl
          clear hP hN
          cases ew
          · skip
            go_wp2_with (first | (go_at_call 18; refine (dec_any _ _ (by omega) (by omega)).mono ?_; rintro e w3 ⟨rfl, b3⟩; have c2 := (b3.cell (p := ⟨b, o + k * 3 + 2, none⟩) hbr).trans c2) | fail)
            go_roundw
            case rel =>
              refine ⟨k + 1, by omega, by go_num, by rw [HS.out]; rfl, ?_⟩
              (repeat' (with_reducible (first | exact Below.refl _ _ | apply Below.setCell | apply Below.alloc | apply below_drewN | apply Below.drew | refine Below.trans ?_ (Below.mono (by assumption) ?_)))) <;> (first | exact Nat.le_refl _ | (simp; done) | (simp; omega) | (simp at *; omega))
            case measure => simp [intOf]; omega
          · skip
            go_wp2_with (first | (go_at_call 18; refine (dec_any _ _ (by omega) (by omega)).mono ?_; rintro e w3 ⟨rfl, b3⟩; have c2 := (b3.cell (p := ⟨b, o + k * 3 + 2, none⟩) hbr).trans c2) | fail)
            go_roundw
            case rel =>
              refine ⟨k + 1, by omega, by go_num, by rw [HS.out]; rfl, ?_⟩
              (repeat' (with_reducible (first | exact Below.refl _ _ | apply Below.setCell | apply Below.alloc | apply below_drewN | apply Below.drew | refine Below.trans ?_ (Below.mono (by assumption) ?_)))) <;> (first | exact Nat.le_refl _ | (simp; done) | (simp; omega) | (simp at *; omega))
            case measure => simp [intOf]; omega
      · have hk5i : ¬ (k : Int) + 1 < 6 := by omega
        have hl5 : (k + 1 == 6) = true := by simp; omega
        rw [hl5] at HS
        clear hl5
        cases eh
        · obtain ⟨rfl, rfl⟩ := hN ep ew rfl
          clear hP hN
          go_wp2_with (first | (go_at_call 18; refine (dec_any _ _ (by omega) (by omega)).mono ?_; rintro e w3 ⟨rfl, b3⟩; have c2 := (b3.cell (p := ⟨b, o + k * 3 + 2, none⟩) hbr).trans c2) | fail)
          go_roundw
          case rel =>
            refine ⟨k + 1, by omega, by go_num, by rw [HS.out]; rfl, ?_⟩
            (repeat' (with_reducible (first | exact Below.refl _ _ | apply Below.setCell | apply Below.alloc | apply below_drewN | apply Below.drew | refine Below.trans ?_ (Below.mono (by assumption) ?_)))) <;> (first | exact Nat.le_refl _ | (simp; done) | (simp; omega) | (simp at *; omega))
          case measure => simp [intOf]; omega
        · obtain ⟨p0, p5⟩ := hP ep ew rfl
          clear hP hN
          cases ew
          · skip
            go_wp2_with (first | (go_at_call 18; refine (dec_any _ _ (by omega) (by omega)).mono ?_; rintro e w3 ⟨rfl, b3⟩; have c2 := (b3.cell (p := ⟨b, o + k * 3 + 2, none⟩) hbr).trans c2) | fail)
            go_roundw
            case rel =>
              refine ⟨k + 1, by omega, by go_num, by rw [HS.out]; rfl, ?_⟩
              (repeat' (with_reducible (first | exact Below.refl _ _ | apply Below.setCell | apply Below.alloc | apply below_drewN | apply Below.drew | refine Below.trans ?_ (Below.mono (by assumption) ?_)))) <;> (first | exact Nat.le_refl _ | (simp; done) | (simp; omega) | (simp at *; omega))
            case measure => simp [intOf]; omega
          · skip
            go_wp2_with (first | (go_at_call 18; refine (dec_any _ _ (by omega) (by omega)).mono ?_; rintro e w3 ⟨rfl, b3⟩; have c2 := (b3.cell (p := ⟨b, o + k * 3 + 2, none⟩) hbr).trans c2) | fail)
            go_roundw
            case rel =>
              refine ⟨k + 1, by omega, by go_num, by rw [HS.out]; rfl, ?_⟩
              (repeat' (with_reducible (first | exact Below.refl _ _ | apply Below.setCell | apply Below.alloc | apply below_drewN | apply Below.drew | refine Below.trans ?_ (Below.mono (by assumption) ?_)))) <;> (first | exact Nat.le_refl _ | (simp; done) | (simp; omega) | (simp at *; omega))
            case measure => simp [intOf]; omega
    · obtain rfl : k = 6 := by omega
      have hsz := preS_size es 6
      go_wp2
      go_ret
      exact ⟨rfl, hW⟩
end Go.Proofs.YtfiailnlkhonnaaDoor
