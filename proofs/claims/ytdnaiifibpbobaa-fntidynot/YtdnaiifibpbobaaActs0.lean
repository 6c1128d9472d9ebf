/-
  Acts in memory, and what the given ActsTidy does.
-/
import Derived.Test.YtdnaiifibpbobaaTidy0
import Derived.Test.YtdnaiifibpbobaaEnts0
namespace Go.Proofs.Ytdnaiifibpbobaa
open Go.RowKit

/-- A row of acts in memory. -/
def Acts (w : World) (b o : Nat) (xs : List A5) : Prop :=
  ∀ i, i < xs.length → w.cell? ⟨b, o + i * 5, none⟩ = some (.int .i64 (xs.getD i noA).1) ∧ w.cell? ⟨b, o + i * 5 + 1, none⟩ = some (.int .i64 (xs.getD i noA).2.1) ∧ w.cell? ⟨b, o + i * 5 + 2, none⟩ = some (.int .i64 (xs.getD i noA).2.2.1) ∧ w.cell? ⟨b, o + i * 5 + 3, none⟩ = some (.int .i64 (xs.getD i noA).2.2.2.1) ∧ w.cell? ⟨b, o + i * 5 + 4, none⟩ = some (.int .i64 (xs.getD i noA).2.2.2.2)
/-- Acts that came in: none, or a row in old memory. -/
def IsActs (w : World) (a : Option Addr) (len : Nat) (xs : List A5) : Prop :=
  xs.length = len ∧ (len = 0 ∨ ∃ b o, a = some ⟨b, o, none⟩ ∧ b < w.heap.size ∧ Acts w b o xs)
theorem Acts.at {N : Nat} {w w' : World} {b o : Nat} {xs : List A5} (h : Acts w b o xs) (hb : Below N w w') (hN : b < N) {k : Nat} (hk : k < xs.length) {a0 a1 a2 a3 a4 : Int} (he : xs.getD k noA = (a0, a1, a2, a3, a4)) :
    w'.cell? ⟨b, o + k * 5, none⟩ = some (.int .i64 a0) ∧ w'.cell? ⟨b, o + k * 5 + 1, none⟩ = some (.int .i64 a1) ∧ w'.cell? ⟨b, o + k * 5 + 2, none⟩ = some (.int .i64 a2) ∧ w'.cell? ⟨b, o + k * 5 + 3, none⟩ = some (.int .i64 a3) ∧ w'.cell? ⟨b, o + k * 5 + 4, none⟩ = some (.int .i64 a4) := by
  obtain ⟨q0, q1, q2, q3, q4⟩ := h k hk
  rw [he] at q0 q1 q2 q3 q4
  exact ⟨(hb.cell (p := ⟨b, o + k * 5, none⟩) hN).trans q0, (hb.cell (p := ⟨b, o + k * 5 + 1, none⟩) hN).trans q1, (hb.cell (p := ⟨b, o + k * 5 + 2, none⟩) hN).trans q2, (hb.cell (p := ⟨b, o + k * 5 + 3, none⟩) hN).trans q3, (hb.cell (p := ⟨b, o + k * 5 + 4, none⟩) hN).trans q4⟩
theorem Acts.below {N : Nat} {w w' : World} {b o : Nat} {xs : List A5} (h : Acts w b o xs) (hb : Below N w w') (hN : b < N) : Acts w' b o xs := fun _ hi => h.at hb hN hi rfl
theorem IsActs.below {w w' : World} {a : Option Addr} {len : Nat} {xs : List A5} (h : IsActs w a len xs) (hb : Below w.heap.size w w') : IsActs w' a len xs := by
  obtain ⟨hl, h⟩ := h
  rcases h with h | ⟨b, o, rfl, hlt, h⟩
  · exact ⟨hl, Or.inl h⟩
  · exact ⟨hl, Or.inr ⟨b, o, rfl, Nat.lt_of_lt_of_le hlt hb.size, h.below hb hlt⟩⟩
theorem getD_drop (xs : List A5) (k : Nat) (hk : k < xs.length) : xs.drop k = xs.getD k noA :: xs.drop (k + 1) := by
  rw [List.drop_eq_getElem_cons hk]
  congr 1
  rw [List.getD_eq_getElem?_getD, List.getElem?_eq_getElem hk]; rfl

set_option maxHeartbeats 400000 in
theorem specOwn21 (a0 a1 a2 a3 a4 : Int) (w : World) :
    Calls Try.prog 19 #[.agg #[.int .i64 a0, .int .i64 a1, .int .i64 a2, .int .i64 a3, .int .i64 a4]] w fun e w' => e = .returned (.bool (ownA (a0, a1, a2, a3, a4))) ∧ Below w.heap.size w w' := by
  by_cases h1 : a0 ≥ 1
  · by_cases h5 : a0 ≤ 5
    · rw [show ownA (a0, a1, a2, a3, a4) = true by simp [ownA, h5]; omega]
      go_enter Try.func19, Try.ntmps19
      go_wp2_with (first | (go_at_call 21; go_in) | fail)
      go_ret
      refine ⟨rfl, ?_⟩
      (repeat' (with_reducible (first | exact Below.refl _ _ | apply Below.setCell | apply Below.alloc | apply below_drewN | apply Below.drew | refine Below.trans ?_ (Below.mono (by assumption) ?_)))) <;> (first | exact Nat.le_refl _ | (simp; done) | (simp; omega) | (simp at *; omega))
    · rw [show ownA (a0, a1, a2, a3, a4) = false by simp [ownA, h5]]
      go_enter Try.func19, Try.ntmps19
      go_wp2_with (first | (go_at_call 21; go_in) | fail)
      go_ret
      refine ⟨rfl, ?_⟩
      (repeat' (with_reducible (first | exact Below.refl _ _ | apply Below.setCell | apply Below.alloc | apply below_drewN | apply Below.drew | refine Below.trans ?_ (Below.mono (by assumption) ?_)))) <;> (first | exact Nat.le_refl _ | (simp; done) | (simp; omega) | (simp at *; omega))
  · rw [show ownA (a0, a1, a2, a3, a4) = false by simp [ownA]; omega]
    go_enter Try.func19, Try.ntmps19
    go_wp2_with (first | (go_at_call 21; go_in) | fail)
    go_ret
    refine ⟨rfl, ?_⟩
    (repeat' (with_reducible (first | exact Below.refl _ _ | apply Below.setCell | apply Below.alloc | apply below_drewN | apply Below.drew | refine Below.trans ?_ (Below.mono (by assumption) ?_)))) <;> (first | exact Nat.le_refl _ | (simp; done) | (simp; omega) | (simp at *; omega))

theorem ownA_nextT {x : A5} {l : List A5} {g : Int} (h1 : (x.2.1 == g) = true) (h2 : ownA x = true) : nextA (x :: l) g = (x.1 == 5) := by rw [nextA, h1, h2]; rfl
theorem ownA_nextF {x : A5} {l : List A5} {g : Int} (h : (x.2.1 == g && ownA x) = false) : nextA (x :: l) g = nextA l g := by rw [nextA, h]; rfl

set_option maxHeartbeats 1000000 in
theorem specNext21 (b o len cap : Nat) (xs : List A5) (from_ : Nat) (g : Int) (w : World) (hl : xs.length = len) (hm : len ≤ 2000000) (hf : from_ ≤ len) (hb : b < w.heap.size) (hc : Acts w b o xs) :
    Calls Try.prog 15 #[.slice (some ⟨b, o, none⟩) len cap, .int .i64 from_, .int .i64 g] w fun e w' => e = .returned (.bool (nextA (xs.drop from_) g)) ∧ Below w.heap.size w w' := by
  go_enter Try.func15, Try.ntmps15
  go_wp2
  go_loopw [7] (fun i wr => ∃ k : Nat, k ≤ len ∧ i = .int .i64 k ∧ Hid (nextA (xs.drop from_) g = nextA (xs.drop k) g) ∧ Below w.heap.size w wr) (fun i _ => len - (intOf i).toNat)
  case atStart => exact ⟨from_, hf, rfl, rfl, Below.refl _ _⟩
  case round =>
    obtain ⟨k, hk, rfl, hok, hB⟩ := hrel
    have hs := hB.size
    by_cases hlt : k < len
    · have hki : (k : Int) < (len : Int) := by omega
      have hd := getD_drop xs k (by omega)
      rcases hE : xs.getD k noA with ⟨a0, a1, a2, a3, a4⟩
      obtain ⟨c0, c1, c2, c3, c4⟩ := hc.at hB hb (by omega) hE
      rw [hE] at hd
      clear hE
      cases h1 : a1 == g
      · have HN : Hid (nextA (xs.drop from_) g = nextA (xs.drop (k + 1)) g) := by
          show _ = _
          rw [hok.out, hd]
          exact ownA_nextF (by rw [show ((a0, a1, a2, a3, a4) : A5).2.1 = a1 from rfl, h1]; rfl)
        clear hok hd
        go_wp2_with (fail)
        go_roundw
        case rel =>
          refine ⟨k + 1, by omega, by go_num, HN, ?_⟩
          (repeat' (with_reducible (first | exact Below.refl _ _ | apply Below.setCell | apply Below.alloc | apply below_drewN | apply Below.drew | refine Below.trans ?_ (Below.mono (by assumption) ?_)))) <;> (first | exact Nat.le_refl _ | (simp; done) | (simp; omega) | (simp at *; omega))
        case measure => simp [intOf]; omega
      · cases h2 : ownA (a0, a1, a2, a3, a4)
        · have HN : Hid (nextA (xs.drop from_) g = nextA (xs.drop (k + 1)) g) := by
            show _ = _
            rw [hok.out, hd]
            exact ownA_nextF (by rw [h2, Bool.and_false])
          clear hok hd
          go_wp2_with (go_at_call 19; refine (specOwn21 _ _ _ _ _ _).mono ?_; rw [h2]; rintro e w' ⟨rfl, hB'⟩)
          go_roundw
          case rel =>
            refine ⟨k + 1, by omega, by go_num, HN, ?_⟩
            (repeat' (with_reducible (first | exact Below.refl _ _ | apply Below.setCell | apply Below.alloc | apply below_drewN | apply Below.drew | refine Below.trans ?_ (Below.mono (by assumption) ?_)))) <;> (first | exact Nat.le_refl _ | (simp; done) | (simp; omega) | (simp at *; omega))
          case measure => simp [intOf]; omega
        · have HN : Hid (nextA (xs.drop from_) g = (a0 == 5)) := by
            show _ = _
            rw [hok.out, hd]
            exact ownA_nextT h1 h2
          clear hok hd
          have k0 : ∀ w' : World, Below wr.heap.size wr w' → w'.cell? ⟨b, o + k * 5, none⟩ = some (.int .i64 a0) := fun w' h => (h.cell (p := ⟨b, o + k * 5, none⟩) (Nat.lt_of_lt_of_le hb hs)).trans c0
          go_wp2_with (go_at_call 19; refine (specOwn21 _ _ _ _ _ _).mono ?_; rw [h2]; rintro e w' ⟨rfl, hB'⟩; have kk := k0 _ hB')
          go_ret
          refine ⟨by rw [HN.out]; rfl, ?_⟩
          (repeat' (with_reducible (first | exact Below.refl _ _ | apply Below.setCell | apply Below.alloc | apply below_drewN | apply Below.drew | refine Below.trans ?_ (Below.mono (by assumption) ?_)))) <;> (first | exact Nat.le_refl _ | (simp; done) | (simp; omega) | (simp at *; omega))
    · have HA : Hid (nextA (xs.drop from_) g = true) := by
        show _ = _
        rw [hok.out, List.drop_eq_nil_of_le (by omega)]
        rfl
      clear hok
      go_wp2
      go_ret
      exact ⟨by rw [HA.out]; rfl, hB⟩

theorem tidyA_stop {x : A5} {l : List A5} (h1 : toTab x = true) (h2 : nextA l x.2.1 = false) : tidyA (x :: l) = false := by rw [tidyA, h1, h2]; rfl
theorem tidyA_go1 {x : A5} {l : List A5} (h1 : toTab x = false) : tidyA (x :: l) = tidyA l := by rw [tidyA, h1]; rfl
theorem tidyA_go2 {x : A5} {l : List A5} (h2 : nextA l x.2.1 = true) : tidyA (x :: l) = tidyA l := by rw [tidyA, h2]; simp

set_option maxHeartbeats 2000000 in
theorem specActsTidy (b o len cap : Nat) (xs : List A5) (w : World) (hl : xs.length = len) (hm : len ≤ 2000000) (hb : b < w.heap.size) (hc : Acts w b o xs) :
    Calls Try.prog 8 #[.slice (some ⟨b, o, none⟩) len cap] w fun e w' => e = .returned (.bool (tidyA xs)) ∧ Below w.heap.size w w' := by
  go_enter Try.func8, Try.ntmps8
  go_wp2
  go_loopw [3] (fun i wr => ∃ k : Nat, k ≤ len ∧ i = .int .i64 k ∧ Hid (tidyA xs = tidyA (xs.drop k)) ∧ Below w.heap.size w wr) (fun i _ => len - (intOf i).toNat)
  case atStart => exact ⟨0, Nat.zero_le _, rfl, rfl, Below.refl _ _⟩
  case round =>
    obtain ⟨k, hk, rfl, hok, hB⟩ := hrel
    have hs := hB.size
    by_cases hlt : k < len
    · have hki : (k : Int) < (len : Int) := by omega
      have hd := getD_drop xs k (by omega)
      rcases hE : xs.getD k noA with ⟨a0, a1, a2, a3, a4⟩
      obtain ⟨c0, c1, c2, c3, c4⟩ := hc.at hB hb (by omega) hE
      rw [hE] at hd
      clear hE
      cases h1 : a0 == 2
      · have HN : Hid (tidyA xs = tidyA (xs.drop (k + 1))) := by
          show _ = _
          rw [hok.out, hd]
          exact tidyA_go1 (by rw [toTab, h1]; rfl)
        clear hok hd
        go_wp2_with (fail)
        go_roundw
        case rel =>
          refine ⟨k + 1, by omega, by go_num, HN, ?_⟩
          (repeat' (with_reducible (first | exact Below.refl _ _ | apply Below.setCell | apply Below.alloc | apply below_drewN | apply Below.drew | refine Below.trans ?_ (Below.mono (by assumption) ?_)))) <;> (first | exact Nat.le_refl _ | (simp; done) | (simp; omega) | (simp at *; omega))
        case measure => simp [intOf]; omega
      · by_cases h2 : a2 < 2
        · have hNx : ∀ W, Below wr.heap.size wr W → Calls Try.prog 15 #[.slice (some ⟨b, o, none⟩) len cap, .int .i64 ((k : Int) + 1), .int .i64 a1] W fun e w' => e = .returned (.bool (nextA (xs.drop (k + 1)) a1)) ∧ Below W.heap.size W w' := fun W hW => by
            rw [show ((k : Int) + 1) = ((k + 1 : Nat) : Int) by omega]
            have hBW := hB.trans (hW.mono hs)
            exact specNext21 b o len cap xs (k + 1) a1 W hl hm (by omega) (Nat.lt_of_lt_of_le hb hBW.size) (hc.below hBW hb)
          cases h3 : nextA (xs.drop (k + 1)) a1
          · have HN : Hid (tidyA xs = false) := by
              show _ = _
              rw [hok.out, hd]
              exact tidyA_stop (by rw [toTab, h1]; simpa using h2) h3
            rw [h3] at hNx
            clear hok hd
            go_wp2_with (go_at_call 15; refine (hNx _ (Below.refl _ _)).mono ?_; rintro e w' ⟨rfl, hB'⟩)
            go_ret
            refine ⟨by rw [HN.out]; rfl, ?_⟩
            (repeat' (with_reducible (first | exact Below.refl _ _ | apply Below.setCell | apply Below.alloc | apply below_drewN | apply Below.drew | refine Below.trans ?_ (Below.mono (by assumption) ?_)))) <;> (first | exact Nat.le_refl _ | (simp; done) | (simp; omega) | (simp at *; omega))
          · have HN : Hid (tidyA xs = tidyA (xs.drop (k + 1))) := by
              show _ = _
              rw [hok.out, hd]
              exact tidyA_go2 h3
            rw [h3] at hNx
            clear hok hd
            go_wp2_with (go_at_call 15; refine (hNx _ (Below.refl _ _)).mono ?_; rintro e w' ⟨rfl, hB'⟩)
            go_roundw
            case rel =>
              refine ⟨k + 1, by omega, by go_num, HN, ?_⟩
              (repeat' (with_reducible (first | exact Below.refl _ _ | apply Below.setCell | apply Below.alloc | apply below_drewN | apply Below.drew | refine Below.trans ?_ (Below.mono (by assumption) ?_)))) <;> (first | exact Nat.le_refl _ | (simp; done) | (simp; omega) | (simp at *; omega))
            case measure => simp [intOf]; omega
        · have HN : Hid (tidyA xs = tidyA (xs.drop (k + 1))) := by
            show _ = _
            rw [hok.out, hd]
            exact tidyA_go1 (by rw [toTab, h1]; simpa using h2)
          clear hok hd
          go_wp2_with (fail)
          go_roundw
          case rel =>
            refine ⟨k + 1, by omega, by go_num, HN, ?_⟩
            (repeat' (with_reducible (first | exact Below.refl _ _ | apply Below.setCell | apply Below.alloc | apply below_drewN | apply Below.drew | refine Below.trans ?_ (Below.mono (by assumption) ?_)))) <;> (first | exact Nat.le_refl _ | (simp; done) | (simp; omega) | (simp at *; omega))
          case measure => simp [intOf]; omega
    · have HA : Hid (tidyA xs = true) := by
        show _ = _
        rw [hok.out, List.drop_eq_nil_of_le (by omega)]
        rfl
      clear hok
      go_wp2
      go_ret
      exact ⟨by rw [HA.out]; rfl, hB⟩
end Go.Proofs.Ytdnaiifibpbobaa
