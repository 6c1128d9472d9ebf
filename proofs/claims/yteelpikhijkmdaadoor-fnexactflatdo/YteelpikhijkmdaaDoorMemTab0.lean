/-
  What MemTab does: the program's own and the given one.
-/
import Derived.Test.YteelpikhijkmdaaDoorMemAns0
import Derived.Test.YteelpikhijkmdaaDoorEntryOf
namespace Go.Proofs.YteelpikhijkmdaaDoor
open Go.RowKit

/-- The entry of a word; the table that memory tells. -/
def entE (n : Int) : E3 := (inW n, pgW n, wrW n)
def tabM (ms : List (List Int)) : List E3 := (List.range 6).map fun i => entE (atM ms (i / 4) (i % 4))
theorem tabM_len (ms : List (List Int)) : (tabM ms).length = 6 := by simp [tabM]
theorem tabM_get (ms : List (List Int)) (k : Nat) (h : k < 6) : (tabM ms).getD k (false, 0, false) = entE (atM ms (k / 4) (k % 4)) := by simp [tabM, List.getD_eq_getElem?_getD, h]
def tabB (ms : List (List Int)) : Bool := okM ms && (ms.length == 6)
def tabL (ms : List (List Int)) : List E3 := bif tabB ms then tabM ms else []

/-- A list of entries in a block between two. -/
def HasEnts (w : World) (lo hi : Nat) (a : Option Addr) (len : Nat) (es : List E3) : Prop := es.length = len ∧ (len = 0 ∨ ∃ T, a = some ⟨T, 0, none⟩ ∧ lo ≤ T ∧ T < hi ∧ Ents w T 0 es)
def OwnEnts (w : World) (lo hi : Nat) (a : Option Addr) (len : Nat) (es : List E3) : Prop := es.length = len ∧ (len = 0 ∨ ∃ T, a = some ⟨T, 0, none⟩ ∧ lo ≤ T ∧ T < hi ∧ Ents w T 0 es ∧ Room w T (len * 3))
theorem OwnEnts.has {w : World} {lo hi : Nat} {a : Option Addr} {len : Nat} {es : List E3} (h : OwnEnts w lo hi a len es) : HasEnts w lo hi a len es := by
  obtain ⟨h1, h2⟩ := h
  rcases h2 with h2 | ⟨T, e, g1, g2, g3, _⟩
  · exact ⟨h1, Or.inl h2⟩
  · exact ⟨h1, Or.inr ⟨T, e, g1, g2, g3⟩⟩
theorem Ents.same {lo hi : Nat} {w w' : World} (s : SameIn lo hi w w') {b o : Nat} {es : List E3} (h : Ents w b o es) (hl : lo ≤ b) (hh : b < hi) : Ents w' b o es := fun i hi =>
  ⟨(s.cell hl hh).trans (h i hi).1, (s.cell hl hh).trans (h i hi).2.1, (s.cell hl hh).trans (h i hi).2.2⟩
theorem Room.sameM {lo hi : Nat} {w w' : World} (s : SameIn lo hi w w') {b n : Nat} (h : Room w b n) (hl : lo ≤ b) (hh : b < hi) : Room w' b n := fun j hj =>
  ⟨(h j hj).1.imp fun _ hv => (s.cell hl hh).trans hv, (s.frozen hl hh).trans (h j hj).2⟩
theorem HasEnts.same {lo hi : Nat} {w w' : World} (s : SameIn lo hi w w') {a : Option Addr} {len : Nat} {es : List E3} (h : HasEnts w lo hi a len es) : HasEnts w' lo hi a len es := by
  obtain ⟨h1, h2⟩ := h
  rcases h2 with h2 | ⟨T, e, g1, g2, g3⟩
  · exact ⟨h1, Or.inl h2⟩
  · exact ⟨h1, Or.inr ⟨T, e, g1, g2, g3.same s g1 g2⟩⟩
theorem OwnEnts.same {lo hi : Nat} {w w' : World} (s : SameIn lo hi w w') {a : Option Addr} {len : Nat} {es : List E3} (h : OwnEnts w lo hi a len es) : OwnEnts w' lo hi a len es := by
  obtain ⟨h1, h2⟩ := h
  rcases h2 with h2 | ⟨T, e, g1, g2, g3, g4⟩
  · exact ⟨h1, Or.inl h2⟩
  · exact ⟨h1, Or.inr ⟨T, e, g1, g2, g3.same s g1 g2, g4.sameM s g1 g2⟩⟩

set_option maxHeartbeats 400000 in
theorem tabPlace_any (k : Nat) (w : World) (h : k < 6) :
    Calls Tryd.prog 99 #[.int .i64 k] w fun e w' => e = .returned (.tuple #[.int .i64 ((k / 4 : Nat) : Int), .int .i64 ((k % 4 : Nat) : Int)]) ∧ w' = w := by
  go_enter Tryd.func99, Tryd.ntmps99
  go_wp2
  refine bodyPost_ret (v := .tuple #[.int .i64 ((k / 4 : Nat) : Int), .int .i64 ((k % 4 : Nat) : Int)]) (by simp [results, Tryd.results99, go_sem]) rfl ⟨rfl, rfl⟩

set_option maxHeartbeats 1000000 in
theorem implMemTab_no (lo hi : Nat) (a : Option Addr) (len cap : Nat) (ms : List (List Int)) (w : World) (h : IsMem w lo hi a len ms) (hh : hi ≤ w.heap.size) (hn : len ≤ 1048576) (hx : tabB ms = false) :
    Calls Tryd.prog 88 #[.slice a len cap] w fun e w' => e = .returned (.slice none 0 0) ∧ Below w.heap.size w w' := by
  have hl := h.1
  cases ho : okM ms
  · go_enter Tryd.func88, Tryd.ntmps88
    go_wp2_with (fail)
    refine (sheetsOf_no lo hi a len cap ms _ h hh hn ho).mono ?_
    rintro e w1 ⟨rfl, B1⟩
    go_wp2
    go_ret
    exact ⟨rfl, B1⟩
  · have h6 : ((len : Int) == 6) = false := by
      simp [tabB, ho, hl] at hx
      simp
      omega
    go_enter Tryd.func88, Tryd.ntmps88
    go_wp2_with (fail)
    refine (sheetsOf_yes lo hi a len cap ms _ h hh hn ho).mono ?_
    rintro e w1 ⟨rfl, _, _, _, B1⟩
    go_wp2
    go_ret
    exact ⟨rfl, B1⟩

set_option maxHeartbeats 2000000 in
theorem implMemTab_yes (lo hi : Nat) (a : Option Addr) (cap : Nat) (ms : List (List Int)) (w : World) (h : IsMem w lo hi a 6 ms) (hh : hi ≤ w.heap.size) (ho : okM ms = true) :
    Calls Tryd.prog 88 #[.slice a 6 cap] w fun e w' => ∃ T, e = .returned (.slice (some ⟨T, 0, none⟩) 6 6) ∧ w.heap.size ≤ T ∧ T < w'.heap.size ∧ Ents w' T 0 (tabM ms) ∧ Room w' T 18 ∧ Below w.heap.size w w' := by
  have hl := h.1
  have hmk : ∀ w : World, (Instr.makeSlice 145 (.int .i64 6) (.int .i64 6)).run Tryd.prog w = .ok (.slice (some ⟨w.heap.size, 0, none⟩) 6 6) (w.alloc (.cells (madeCells #[.bool false, .int .i64 0, .bool false] 18) 117)) := fun w => make_ents 6 (by omega) w
  go_enter Tryd.func88, Tryd.ntmps88
  go_wp2_with (fail)
  refine (sheetsOf_yes lo hi a 6 cap ms _ h hh (by omega) ho).mono ?_
  rintro e w1 ⟨rfl, S1, _, l1, B1⟩
  go_wp2
  clear hmk
  go_loopw [6, 7, 8, 24] (fun _ _ _ i wr => ∃ k : Nat, k ≤ 6 ∧ i = .int .i64 k ∧ Hid (Ents wr w1.heap.size 0 ((tabM ms).take k)) ∧ Hid (Room wr w1.heap.size 18) ∧ w1.heap.size < wr.heap.size ∧ Below w1.heap.size w1 wr) (fun _ _ _ i _ => 6 - (intOf i).toNat)
  case atStart => exact ⟨0, Nat.zero_le _, rfl, fun i hi => by simp at hi, room_made _ _ _ _, by simp, (Below.refl _ _).alloc (Nat.le_refl _) _⟩
  case round =>
    obtain ⟨k, hk, rfl, hE, hR, hlt, hB⟩ := hrel
    by_cases hkl : k < 6
    · have hc := (S1.below hB l1).at (i := k / 4) (j := k % 4) (by omega) (Nat.mod_lt _ (by omega))
      have hki : (k : Int) < 6 := by omega
      have hg := tabM_get ms k hkl
      have hP := fun w => tabPlace_any k w hkl
      have ha1 : k / 4 < 6 := by omega
      have ha2 : k % 4 < 4 := by omega
      generalize k / 4 = P at hc hg hP ha1
      generalize k % 4 = O at hc hg hP ha2
      have hPi : (P : Int) < 6 := by omega
      have hOi : (O : Int) < 4 := by omega
      have hEn := fun w => implEntryOf (atM ms P O) w
      generalize atM ms P O = z at hc hg hEn
      obtain ⟨eh, ep, ew, he⟩ : ∃ eh ep ew, entE z = (eh, ep, ew) := ⟨_, _, _, rfl⟩
      have he' : inW z = eh ∧ pgW z = ep ∧ wrW z = ew := by simpa [entE] using he
      obtain ⟨e1, e2, e3⟩ := he'
      rw [e1, e2, e3] at hEn
      unfold ent at hEn
      rw [he] at hg
      have HG : Hid ((tabM ms).getD k (false, 0, false) = (eh, ep, ew)) := hg
      clear hg he e1 e2 e3
      go_wp2_with (fail)
      refine (hP _).mono ?_
      rintro e w2 ⟨rfl, rfl⟩
      go_wp2_with (fail)
      refine (hEn _).mono ?_
      rintro e w3 ⟨rfl, B3⟩
      have R3 : Hid (Room w3 w1.heap.size 18) := hR.out.below B3 hlt
      have E3' : Hid (Ents w3 w1.heap.size 0 ((tabM ms).take k)) := hE.out.below B3 hlt
      have hlt3 : w1.heap.size < w3.heap.size := Nat.lt_of_lt_of_le hlt B3.size
      have hB3 := hB.trans (B3.mono hB.size)
      obtain ⟨⟨u0, d0⟩, f0⟩ := R3.out (k * 3) (by omega)
      obtain ⟨⟨u1, d1⟩, f1⟩ := R3.out (k * 3 + 1) (by omega)
      obtain ⟨⟨u2, d2⟩, f2⟩ := R3.out (k * 3 + 2) (by omega)
      clear hE hR hc B3
      go_wp2
      go_roundw
      case rel =>
        refine ⟨k + 1, by omega, by go_num, ents_put R3.out E3'.out (by rw [tabM_len]; omega) (by omega) HG.out, ((R3.out.put _).put _).put _, by simpa using hlt3, ?_⟩
        exact ((hB3.setCell (p := ⟨w1.heap.size, k * 3, none⟩) (Nat.le_refl _) _).setCell (p := ⟨w1.heap.size, k * 3 + 1, none⟩) (Nat.le_refl _) _).setCell (p := ⟨w1.heap.size, k * 3 + 2, none⟩) (Nat.le_refl _) _
      case measure => simp [intOf]; omega
    · have HE : Hid (Ents wr w1.heap.size 0 (tabM ms)) := by
        have := hE.out
        rwa [List.take_of_length_le (by rw [tabM_len]; omega)] at this
      clear hE
      go_wp2
      go_ret
      exact ⟨_, rfl, B1.size, hlt, HE.out, hR.out, B1.trans (hB.mono B1.size)⟩

theorem implMemTab (lo hi : Nat) (a : Option Addr) (len cap : Nat) (ms : List (List Int)) (w : World) (h : IsMem w lo hi a len ms) (hh : hi ≤ w.heap.size) (hn : len ≤ 1048576) :
    Calls Tryd.prog 88 #[.slice a len cap] w fun e w' => ∃ a c, e = .returned (.slice a (tabL ms).length c) ∧ OwnEnts w' w.heap.size w'.heap.size a (tabL ms).length (tabL ms) ∧ Below w.heap.size w w' := by
  cases hx : tabB ms
  · refine (implMemTab_no lo hi a len cap ms w h hh hn hx).mono ?_
    rintro e w' ⟨rfl, hB⟩
    rw [show tabL ms = [] by rw [tabL, hx]; rfl]
    exact ⟨_, _, rfl, ⟨rfl, Or.inl rfl⟩, hB⟩
  · have hx' := hx
    simp only [tabB, Bool.and_eq_true, beq_iff_eq] at hx'
    obtain ⟨ho, h6⟩ := hx'
    have hl := h.1
    have h6' : len = 6 := by omega
    subst h6'
    refine (implMemTab_yes lo hi a cap ms w h hh ho).mono ?_
    rintro e w' ⟨T, rfl, hT1, hT2, hE, hR, hB⟩
    rw [show tabL ms = tabM ms by rw [tabL, hx]; rfl, tabM_len]
    exact ⟨_, _, rfl, ⟨tabM_len _, Or.inr ⟨T, rfl, hT1, hT2, hE, hR⟩⟩, hB⟩

theorem own_below3 {W w' : World} {lo : Nat} {t : TypeId} {v : Value} {n : Nat} {vs : List Value} (h : W.ownsRow lo t 3 v n vs) (hB : Below W.heap.size W w') : w'.ownsRow lo t 3 v n vs := by
  refine h.kept (below_grown hB) ?_
  cases v.ownBlock
  · exact Or.inl rfl
  · exact Or.inr (by simp)

set_option maxHeartbeats 2000000 in
set_option maxRecDepth 100000 in
theorem specTab (lo hi : Nat) (a b : Option Addr) (ca cb : Nat) (za zb : List Int) (w : World) (ha : IsInts w lo hi a 4 za) (hb : IsInts w lo hi b 4 zb) (hh : hi ≤ w.heap.size) (es : List E3) (hl : es.length = 6)
    (hes : ∀ k, k < 6 → es.getD k (false, 0, false) = entE (if k < 4 then za.getD k 0 else zb.getD (k - 4) 0))
    (hza : ∀ k, k < 4 → 0 ≤ za.getD k 0 ∧ za.getD k 0 ≤ 63) (hzb : ∀ k, k < 4 → 0 ≤ zb.getD k 0 ∧ zb.getD k 0 ≤ 63) :
    Calls Tryd.prog 95 #[.slice a 4 ca, .slice b 4 cb] w fun e w' => ∃ T c, e = .returned (.slice (some ⟨T, 0, none⟩) 6 c) ∧ w.heap.size ≤ T ∧ T < w'.heap.size ∧ Ents w' T 0 es ∧ Below w.heap.size w w' := by
  obtain ⟨hla, hda⟩ := ha
  obtain ⟨hlb, hdb⟩ := hb
  rcases hda with h0 | ⟨ba, oa, rfl, _, ha2, hca⟩
  · omega
  rcases hdb with h0 | ⟨bb, ob, rfl, _, hb2, hcb⟩
  · omega
  obtain ⟨i0, hi0, hz0, hz1, hz2⟩ := info_parts infoE
  go_enter Tryd.func95, Tryd.ntmps95
  go_wp2
  go_loopw [5, 6, 7] (fun v i _ wr => ∃ k : Nat, k ≤ 6 ∧ i = .int .i64 k ∧ Hid (wr.ownsRow w.heap.size 117 3 v k (flat (es.take k))) ∧ Below w.heap.size w wr) (fun _ i _ _ => 6 - (intOf i).toNat)
  case atStart => exact ⟨0, Nat.zero_le _, rfl, World.ownsRow_made w #[] 0 (Nat.le_refl _) (by simp [maxLen]) rfl, (Below.refl _ _).alloc (Nat.le_refl _) _⟩
  case round =>
    obtain ⟨k, hk, rfl, hownH, hB⟩ := hrel
    by_cases hkl : k < 6
    · have hki : (k : Int) < 6 := by omega
      have hg := hes k hkl
      by_cases hk4 : k < 4
      · rw [if_pos hk4] at hg
        have hz := hza k hk4
        have q := hca k (by omega)
        generalize za.getD k 0 = z at hg hz q
        have c0 := (hB.cell (p := ⟨ba, oa + k, none⟩) (show ba < w.heap.size by omega)).trans q
        have hki4 : (k : Int) < 4 := by omega
        clear q
        have hEn := fun w => specEntryOf z w (by omega) (by omega)
        obtain ⟨eh, ep, ew, he⟩ : ∃ eh ep ew, entE z = (eh, ep, ew) := ⟨_, _, _, rfl⟩
        have he' : inW z = eh ∧ pgW z = ep ∧ wrW z = ew := by simpa [entE] using he
        obtain ⟨e1, e2, e3⟩ := he'
        rw [e1, e2, e3] at hEn
        unfold ent at hEn
        rw [he] at hg
        have HG : Hid (es.getD k (false, 0, false) = (eh, ep, ew)) := hg
        clear hg he e1 e2 e3
        go_wp2_with (fail)
        refine (hEn _).mono ?_
        rintro e w3 ⟨rfl, B3⟩
        have hB3 := hB.trans (B3.mono hB.size)
        have sW3 := hB3.size
        have own3 := (own_below3 hownH.out B3).alloc (.cells #[.bool eh, .int .i64 ep, .bool ew] 117)
        have HC := cell_three_new w3 (.bool eh) (.int .i64 ep) (.bool ew) 117
        go_wp2_with (at_builtin; refine wpList_append_own _ rfl _ _ 145 rfl w.heap.size 117 i0 (.agg #[.bool false, .int .i64 0, .bool false]) 3 24 Tryd.underlying145 hi0 hz0 hz1 hz2 rfl (by decide) _ _ _ rfl own3 ⟨w3.heap.size, 0, none⟩ 1 1 [.bool eh, .int .i64 ep, .bool ew] rfl rfl HC (by simp [Value.oneCell']) (by unfold maxLen; omega) (by omega) (by simp; omega) ?_; intro v' w4 hown' hgrow hnil)
        have hB4 : Below w.heap.size w w4 := Below.grown (hB3.alloc sW3 _) hgrow (by simp; omega) (fun j hj => (own3.lt _ hj).1)
        have hown4 : Hid (w4.ownsRow w.heap.size 117 3 v' (k + 1) (flat (es.take (k + 1)))) := by
          rw [flat_snoc (by omega) HG.out]; exact hown'
        clear hown' hgrow own3 hnil HC hownH
        go_wp2
        go_roundw
        case rel => exact ⟨k + 1, by omega, by go_num, hown4, hB4⟩
        case measure => simp [intOf]; omega
      · rw [if_neg hk4] at hg
        obtain ⟨j, rfl⟩ : ∃ j, k = 4 + j := ⟨k - 4, by omega⟩
        rw [show 4 + j - 4 = j by omega] at hg
        have hz := hzb j (by omega)
        have q := hcb j (by omega)
        generalize zb.getD j 0 = z at hg hz q
        have c0 := (hB.cell (p := ⟨bb, ob + j, none⟩) (show bb < w.heap.size by omega)).trans q
        have hki4 : ¬ ((4 + j : Nat) : Int) < 4 := by omega
        have hkj : ((4 + j : Nat) : Int) - 4 = (j : Int) := by omega
        have hj4 : (j : Int) < 4 := by omega
        clear q
        have hEn := fun w => specEntryOf z w (by omega) (by omega)
        obtain ⟨eh, ep, ew, he⟩ : ∃ eh ep ew, entE z = (eh, ep, ew) := ⟨_, _, _, rfl⟩
        have he' : inW z = eh ∧ pgW z = ep ∧ wrW z = ew := by simpa [entE] using he
        obtain ⟨e1, e2, e3⟩ := he'
        rw [e1, e2, e3] at hEn
        unfold ent at hEn
        rw [he] at hg
        have HG : Hid (es.getD (4 + j) (false, 0, false) = (eh, ep, ew)) := hg
        clear hg he e1 e2 e3
        go_wp2_with (fail)
        refine (hEn _).mono ?_
        rintro e w3 ⟨rfl, B3⟩
        have hB3 := hB.trans (B3.mono hB.size)
        have sW3 := hB3.size
        have own3 := (own_below3 hownH.out B3).alloc (.cells #[.bool eh, .int .i64 ep, .bool ew] 117)
        have HC := cell_three_new w3 (.bool eh) (.int .i64 ep) (.bool ew) 117
        go_wp2_with (at_builtin; refine wpList_append_own _ rfl _ _ 145 rfl w.heap.size 117 i0 (.agg #[.bool false, .int .i64 0, .bool false]) 3 24 Tryd.underlying145 hi0 hz0 hz1 hz2 rfl (by decide) _ _ _ rfl own3 ⟨w3.heap.size, 0, none⟩ 1 1 [.bool eh, .int .i64 ep, .bool ew] rfl rfl HC (by simp [Value.oneCell']) (by unfold maxLen; omega) (by omega) (by simp; omega) ?_; intro v' w4 hown' hgrow hnil)
        have hB4 : Below w.heap.size w w4 := Below.grown (hB3.alloc sW3 _) hgrow (by simp; omega) (fun j hj => (own3.lt _ hj).1)
        have hown4 : Hid (w4.ownsRow w.heap.size 117 3 v' (4 + j + 1) (flat (es.take (4 + j + 1)))) := by
          rw [flat_snoc (by omega) HG.out]; exact hown'
        clear hown' hgrow own3 hnil HC hownH
        go_wp2
        go_roundw
        case rel => exact ⟨4 + j + 1, by omega, by go_num, hown4, hB4⟩
        case measure => simp [intOf]; omega
    · have hkk : k = 6 := by omega
      subst hkk
      have hown := hownH.out
      rw [List.take_of_length_le (by omega)] at hown
      obtain ⟨T, cap, hv, hT1, hT2, hE⟩ := ents_own hown (by omega)
      clear hown hownH
      subst hv
      go_wp2
      go_ret
      exact ⟨T, cap, rfl, hT1, hT2, hE, hB⟩

set_option maxHeartbeats 1000000 in
theorem specMemTab_no (lo hi : Nat) (a : Option Addr) (len cap : Nat) (ms : List (List Int)) (w : World) (h : IsMem w lo hi a len ms) (hn : len ≤ 1048576) (hL : ∀ i, i < len → (ms.getD i []).length ≤ 1048576) (hx : tabB ms = false) :
    Calls Tryd.prog 82 #[.slice a len cap] w fun e w' => e = .returned (.slice (some ⟨w.heap.size, 0, none⟩) 0 0) ∧ Below w.heap.size w w' := by
  have hl := h.1
  cases ho : okM ms
  · go_enter Tryd.func82, Tryd.ntmps82
    go_wp2_with (fail)
    refine (specMemOk lo hi a len cap ms _ h hn hL).mono ?_
    rintro e w1 ⟨rfl, rfl⟩
    rw [ho]
    go_wp2
    go_ret
    refine ⟨rfl, ?_⟩
    (repeat' (with_reducible (first | exact Below.refl _ _ | apply Below.setCell | apply Below.alloc | apply below_drewN | apply Below.drew))) <;> (first | exact Nat.le_refl _ | (simp; done) | (simp; omega))
  · have h6 : ((len : Int) == 6) = false := by
      simp [tabB, ho, hl] at hx
      simp
      omega
    go_enter Tryd.func82, Tryd.ntmps82
    go_wp2_with (fail)
    refine (specMemOk lo hi a len cap ms _ h hn hL).mono ?_
    rintro e w1 ⟨rfl, rfl⟩
    rw [ho]
    go_wp2
    go_ret
    refine ⟨rfl, ?_⟩
    (repeat' (with_reducible (first | exact Below.refl _ _ | apply Below.setCell | apply Below.alloc | apply below_drewN | apply Below.drew))) <;> (first | exact Nat.le_refl _ | (simp; done) | (simp; omega))

set_option maxHeartbeats 1000000 in
theorem specMemTab_yes (lo hi : Nat) (a : Option Addr) (cap : Nat) (ms : List (List Int)) (w : World) (h : IsMem w lo hi a 6 ms) (hh : hi ≤ w.heap.size) (ho : okM ms = true) :
    Calls Tryd.prog 82 #[.slice a 6 cap] w fun e w' => ∃ T c, e = .returned (.slice (some ⟨T, 0, none⟩) 6 c) ∧ w.heap.size ≤ T ∧ T < w'.heap.size ∧ Ents w' T 0 (tabM ms) ∧ Below w.heap.size w w' := by
  have hl := h.1
  have h' := h
  obtain ⟨_, hd⟩ := h'
  rcases hd with h0 | ⟨b, o, rfl, _, hb2, hc⟩
  · omega
  obtain ⟨k0, f0⟩ := okM_get ho (k := 0) (by omega)
  obtain ⟨k1, f1⟩ := okM_get ho (k := 1) (by omega)
  obtain ⟨a0, l0, c0, q0, hI0⟩ := hc 0 (by omega)
  obtain ⟨a1, l1, c1, q1, hI1⟩ := hc 1 (by omega)
  have hl0 : l0 = 4 := by rw [← hI0.1]; exact k0
  have hl1 : l1 = 4 := by rw [← hI1.1]; exact k1
  subst hl0 hl1
  have hT : ∀ W : World, W.heap = w.heap → Calls Tryd.prog 95 #[.slice a0 4 c0, .slice a1 4 c1] W fun e w' => ∃ T c, e = .returned (.slice (some ⟨T, 0, none⟩) 6 c) ∧ W.heap.size ≤ T ∧ T < w'.heap.size ∧ Ents w' T 0 (tabM ms) ∧ Below W.heap.size W w' := fun W hW =>
    specTab lo hi a0 a1 c0 c1 _ _ W (hI0.same (fun i _ _ => by rw [hW])) (hI1.same (fun i _ _ => by rw [hW])) (by rw [hW]; exact hh) (tabM ms) (tabM_len _) (fun k hk => by
      rw [tabM_get ms k hk]
      match k, hk with
      | 0, _ => rfl
      | 1, _ => rfl
      | 2, _ => rfl
      | 3, _ => rfl
      | 4, _ => rfl
      | 5, _ => rfl) f0 f1
  rw [Nat.add_zero] at q0
  clear hc hI0 hI1 f0 f1 k0 k1
  go_enter Tryd.func82, Tryd.ntmps82
  go_wp2_with (fail)
  refine (specMemOk lo hi _ 6 cap ms _ h (by omega) (fun i hi => by rw [(okM_get ho (by omega)).1]; omega)).mono ?_
  rintro e w1 ⟨rfl, rfl⟩
  rw [ho]
  go_wp2_with (fail)
  go_region_with (go_at_call 95; refine (hT _ (by rfl)).mono ?_; rintro e w2 ⟨T, c, rfl, hT1, hT2, hE, B2⟩; have HE : Hid (Ents w2 T 0 (tabM ms)) := hE; clear hE)
  all_goals
    go_wp2
    go_ret
    refine ⟨T, c, rfl, ?_, hT2, HE.out, ?_⟩
    · exact hT1
    · (repeat' (with_reducible (first | exact Below.refl _ _ | apply Below.setCell | apply Below.alloc | apply below_drewN | apply Below.drew | refine Below.trans ?_ (Below.mono (by assumption) ?_)))) <;> (first | exact Nat.le_refl _ | (simp; done) | (simp; omega) | (simp at *; omega))

theorem specMemTab (lo hi : Nat) (a : Option Addr) (len cap : Nat) (ms : List (List Int)) (w : World) (h : IsMem w lo hi a len ms) (hh : hi ≤ w.heap.size) (hn : len ≤ 1048576) (hL : ∀ i, i < len → (ms.getD i []).length ≤ 1048576) :
    Calls Tryd.prog 82 #[.slice a len cap] w fun e w' => ∃ a c, e = .returned (.slice a (tabL ms).length c) ∧ HasEnts w' w.heap.size w'.heap.size a (tabL ms).length (tabL ms) ∧ Below w.heap.size w w' := by
  cases hx : tabB ms
  · refine (specMemTab_no lo hi a len cap ms w h hn hL hx).mono ?_
    rintro e w' ⟨rfl, hB⟩
    rw [show tabL ms = [] by rw [tabL, hx]; rfl]
    exact ⟨_, _, rfl, ⟨rfl, Or.inl rfl⟩, hB⟩
  · have hx' := hx
    simp only [tabB, Bool.and_eq_true, beq_iff_eq] at hx'
    obtain ⟨ho, h6⟩ := hx'
    have hl := h.1
    have h6' : len = 6 := by omega
    subst h6'
    refine (specMemTab_yes lo hi a cap ms w h hh ho).mono ?_
    rintro e w' ⟨T, c, rfl, hT1, hT2, hE, hB⟩
    rw [show tabL ms = tabM ms by rw [tabL, hx]; rfl, tabM_len]
    exact ⟨_, _, rfl, ⟨tabM_len _, Or.inr ⟨T, rfl, hT1, hT2, hE⟩⟩, hB⟩
theorem tabL_len (ms : List (List Int)) : (tabL ms).length ≤ 6 := by
  unfold tabL
  cases tabB ms
  · simp
  · simp [tabM_len]
end Go.Proofs.YteelpikhijkmdaaDoor
