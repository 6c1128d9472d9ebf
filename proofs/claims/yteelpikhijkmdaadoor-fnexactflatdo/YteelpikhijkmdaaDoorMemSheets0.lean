/-
  What the program's own reading of memory into arrays, and its handing out of it, do.
-/
import Derived.Test.YteelpikhijkmdaaDoorMemImpl0
namespace Go.Proofs.YteelpikhijkmdaaDoor
open Go.RowKit

/-- Pages as arrays, one behind the other. -/
def Sheets (w : World) (b : Nat) (ms : List (List Int)) : Prop := ∀ i, i < ms.length →
  w.cell? ⟨b, i * 4, none⟩ = some (.int .i64 ((ms.getD i []).getD 0 0)) ∧ w.cell? ⟨b, i * 4 + 1, none⟩ = some (.int .i64 ((ms.getD i []).getD 1 0)) ∧
  w.cell? ⟨b, i * 4 + 2, none⟩ = some (.int .i64 ((ms.getD i []).getD 2 0)) ∧ w.cell? ⟨b, i * 4 + 3, none⟩ = some (.int .i64 ((ms.getD i []).getD 3 0))
theorem Sheets.below {N : Nat} {w w' : World} {b : Nat} {ms : List (List Int)} (h : Sheets w b ms) (hb : Below N w w') (hN : b < N) : Sheets w' b ms := fun i hi =>
  ⟨(hb.cell (p := ⟨b, i * 4, none⟩) hN).trans (h i hi).1, (hb.cell (p := ⟨b, i * 4 + 1, none⟩) hN).trans (h i hi).2.1, (hb.cell (p := ⟨b, i * 4 + 2, none⟩) hN).trans (h i hi).2.2.1, (hb.cell (p := ⟨b, i * 4 + 3, none⟩) hN).trans (h i hi).2.2.2⟩

/-- One page more is written. -/
theorem sheets_put {w : World} {b n k : Nat} {ms : List (List Int)} (hR : Room w b n) (hE : Sheets w b (ms.take k)) (hk : k < ms.length) (hn : k * 4 + 3 < n) {z0 z1 z2 z3 : Int} (hg : ms.getD k [] = [z0, z1, z2, z3]) :
    Sheets ((((w.setCell ⟨b, k * 4, none⟩ (.int .i64 z0)).setCell ⟨b, k * 4 + 1, none⟩ (.int .i64 z1)).setCell ⟨b, k * 4 + 2, none⟩ (.int .i64 z2)).setCell ⟨b, k * 4 + 3, none⟩ (.int .i64 z3)) b (ms.take (k + 1)) := by
  have key : ∀ x v, w.cell? ⟨b, x, none⟩ = some v → ((((w.setCell ⟨b, k * 4, none⟩ (.int .i64 z0)).setCell ⟨b, k * 4 + 1, none⟩ (.int .i64 z1)).setCell ⟨b, k * 4 + 2, none⟩ (.int .i64 z2)).setCell ⟨b, k * 4 + 3, none⟩ (.int .i64 z3)).cell? ⟨b, x, none⟩ =
      some (if x = k * 4 + 3 then .int .i64 z3 else if x = k * 4 + 2 then .int .i64 z2 else if x = k * 4 + 1 then .int .i64 z1 else if x = k * 4 then .int .i64 z0 else v) := fun x v hv => cell_put (cell_put (cell_put (cell_put hv)))
  intro i hi
  simp only [List.length_take] at hi
  have hget : (ms.take (k + 1)).getD i [] = ms.getD i [] := by
    simp only [List.getD_eq_getElem?_getD]
    rw [List.getElem?_take_of_lt (by omega)]
  rw [hget]
  by_cases hik : i = k
  · subst hik
    rw [hg]
    obtain ⟨⟨u0, d0⟩, _⟩ := hR (i * 4) (by omega)
    obtain ⟨⟨u1, d1⟩, _⟩ := hR (i * 4 + 1) (by omega)
    obtain ⟨⟨u2, d2⟩, _⟩ := hR (i * 4 + 2) (by omega)
    obtain ⟨⟨u3, d3⟩, _⟩ := hR (i * 4 + 3) (by omega)
    refine ⟨(key _ _ d0).trans ?_, (key _ _ d1).trans ?_, (key _ _ d2).trans ?_, (key _ _ d3).trans ?_⟩
    · rw [if_neg (by omega), if_neg (by omega), if_neg (by omega), if_pos rfl]; rfl
    · rw [if_neg (by omega), if_neg (by omega), if_pos rfl]; rfl
    · rw [if_neg (by omega), if_pos rfl]; rfl
    · rw [if_pos rfl]; rfl
  · have hi' : i < (ms.take k).length := by simp only [List.length_take]; omega
    obtain ⟨e0, e1, e2, e3⟩ := hE i hi'
    have hget' : (ms.take k).getD i [] = ms.getD i [] := by
      simp only [List.getD_eq_getElem?_getD]
      rw [List.getElem?_take_of_lt (by omega)]
    rw [hget'] at e0 e1 e2 e3
    refine ⟨(key _ _ e0).trans ?_, (key _ _ e1).trans ?_, (key _ _ e2).trans ?_, (key _ _ e3).trans ?_⟩
    all_goals rw [if_neg (by omega), if_neg (by omega), if_neg (by omega), if_neg (by omega)]

/-- What comes of reading memory. -/
def SheetsPost (w : World) (len : Nat) (ms : List (List Int)) (e : Ending) (w' : World) : Prop :=
  (okM ms = true → e = .returned (.tuple #[.slice (some ⟨w.heap.size, 0, none⟩) len len, .bool true]) ∧ Sheets w' w.heap.size ms ∧ Room w' w.heap.size (len * 4) ∧ w.heap.size < w'.heap.size) ∧
  (okM ms = false → e = .returned (.tuple #[.slice none 0 0, .bool false])) ∧ Below w.heap.size w w'

set_option maxHeartbeats 1000000 in
theorem sheetsOf_any (lo hi : Nat) (a : Option Addr) (len cap : Nat) (ms : List (List Int)) (w : World) (h : IsMem w lo hi a len ms) (hh : hi ≤ w.heap.size) (hn : len ≤ 1048576) :
    Calls Tryd.prog 34 #[.slice a len cap] w fun e w' => SheetsPost w len ms e w' := by
  obtain ⟨hl, hd⟩ := h
  have hmk := make_sheets len hn
  go_enter Tryd.func34, Tryd.ntmps34
  go_wp2
  clear hmk
  go_loopw [5, 6, 7, 8, 14] (fun _ _ _ _ i wr => ∃ k : Nat, k ≤ len ∧ i = .int .i64 k ∧ Hid ((ms.take k).all okP = true) ∧ Hid (Sheets wr w.heap.size (ms.take k)) ∧ Hid (Room wr w.heap.size (len * 4)) ∧ w.heap.size < wr.heap.size ∧ Below w.heap.size w wr) (fun _ _ _ _ i _ => len - (intOf i).toNat)
  case atStart => exact ⟨0, Nat.zero_le _, rfl, rfl, fun i hi => by simp at hi, room_made _ _ _ _, by simp, (Below.refl _ _).alloc (Nat.le_refl _) _⟩
  case round =>
    obtain ⟨k, hk, rfl, hok, hE, hR, hlt, hB⟩ := hrel
    by_cases hkl : k < len
    · rcases hd with h0 | ⟨b, o, rfl, hb1, hb2, hc⟩
      · omega
      obtain ⟨a', l, c, q, hI⟩ := hc k hkl
      have hbs : b < w.heap.size := by omega
      have c0 := (hB.cell (p := ⟨b, o + k, none⟩) hbs).trans q
      have hI' : Hid (IsInts wr lo hi a' l (ms.getD k [])) := hI.same (below_sameIn hB hh)
      have hlt' : k < ms.length := by omega
      have hg : ms.getD k [] = ms[k] := getD_lt hlt'
      have hki : (k : Int) < (len : Int) := by omega
      have hhr : hi ≤ wr.heap.size := by omega
      clear q hI hc
      cases hO : okP (ms.getD k [])
      · have HF : Hid (okM ms = false) := all_no (f := okP) hlt' (by rw [← hg]; exact hO)
        clear hg
        go_wp2_with (fail)
        refine (sheetOf_any lo hi a' l c _ _ hI'.out hhr).mono ?_
        rintro e w1 ⟨rfl, B1⟩
        rw [hO]
        unfold pageV
        have hB1 := hB.trans (B1.mono hB.size)
        have h1 := hB1.size
        clear hok hE hR hI'
        go_wp2
        refine bodyPost_ret (v := .tuple #[.slice none 0 0, .bool false]) (by simp [results, Tryd.results34, go_sem]) rfl ?_
        refine ⟨fun h => (by rw [HF.out] at h; cases h), fun _ => rfl, ?_⟩
        (repeat' (with_reducible (first | exact Below.refl _ _ | apply Below.setCell | apply Below.alloc | apply below_drewN | apply Below.drew | refine Below.trans ?_ (Below.mono (by assumption) ?_)))) <;> (first | exact Nat.le_refl _ | (simp; done) | (simp; omega) | (simp at *; omega))
      · have HT : Hid ((ms.take (k + 1)).all okP = true) := all_more hlt' hok.out (by rw [← hg]; exact hO)
        have hf := okP_four hO
        clear hg hok
        go_wp2_with (fail)
        refine (sheetOf_any lo hi a' l c _ _ hI'.out hhr).mono ?_
        rintro e w1 ⟨rfl, B1⟩
        rw [hO]
        unfold pageV
        have hB1 := hB.trans (B1.mono hB.size)
        have h1 := B1.size
        have R1 : Hid (Room w1 w.heap.size (len * 4)) := hR.out.below B1 hlt
        have E1 : Hid (Sheets w1 w.heap.size (ms.take k)) := hE.out.below B1 hlt
        have HG : Hid (ms.getD k [] = [(ms.getD k []).getD 0 0, (ms.getD k []).getD 1 0, (ms.getD k []).getD 2 0, (ms.getD k []).getD 3 0]) := hf
        generalize (ms.getD k []).getD 0 0 = z0 at HG
        generalize (ms.getD k []).getD 1 0 = z1 at HG
        generalize (ms.getD k []).getD 2 0 = z2 at HG
        generalize (ms.getD k []).getD 3 0 = z3 at HG
        clear hf hI' hE hR
        obtain ⟨⟨u0, d0⟩, f0⟩ := R1.out (k * 4) (by omega)
        obtain ⟨⟨u1, d1⟩, f1⟩ := R1.out (k * 4 + 1) (by omega)
        obtain ⟨⟨u2, d2⟩, f2⟩ := R1.out (k * 4 + 2) (by omega)
        obtain ⟨⟨u3, d3⟩, f3⟩ := R1.out (k * 4 + 3) (by omega)
        have hlt1 : w.heap.size < w1.heap.size := by omega
        have hlt2 : w.heap.size < w1.heap.size + 1 := by omega
        go_wp2
        go_roundw
        case rel =>
          have hs3 : w.heap.size < ((((w1.setCell ⟨w.heap.size, k * 4, none⟩ (.int .i64 z0)).setCell ⟨w.heap.size, k * 4 + 1, none⟩ (.int .i64 z1)).setCell ⟨w.heap.size, k * 4 + 2, none⟩ (.int .i64 z2)).setCell ⟨w.heap.size, k * 4 + 3, none⟩ (.int .i64 z3)).heap.size := by simpa using hlt1
          have b3 : ∀ (W : World) o, Below W.heap.size W (W.alloc o) := fun W o => (Below.refl _ _).alloc (Nat.le_refl _) _
          refine ⟨k + 1, by omega, by go_num, HT, (sheets_put R1.out E1.out hlt' (by omega) HG.out).below (b3 _ _) hs3, ((((R1.out.put _).put _).put _).put _).below (b3 _ _) hs3, by simp; omega, ?_⟩
          (repeat' (with_reducible (first | exact Below.refl _ _ | apply Below.setCell | apply Below.alloc | apply below_drewN | apply Below.drew | refine Below.trans ?_ (Below.mono (by assumption) ?_)))) <;> (first | exact Nat.le_refl _ | (simp; done) | (simp; omega) | (simp at *; omega))
        case measure => simp [intOf]; omega
    · have hkk : k = len := by omega
      have HA : Hid (okM ms = true) := by
        have := hok.out
        rwa [List.take_of_length_le (by omega)] at this
      have HE : Hid (Sheets wr w.heap.size ms) := by
        have := hE.out
        rwa [List.take_of_length_le (by omega)] at this
      clear hE hok
      go_wp2
      refine bodyPost_ret (v := .tuple #[.slice (some ⟨w.heap.size, 0, none⟩) len len, .bool true]) (by simp [results, Tryd.results34, go_sem]) rfl ?_
      exact ⟨fun _ => ⟨rfl, HE.out, hR.out, hlt⟩, fun h => (by rw [HA.out] at h; cases h), hB⟩

set_option maxHeartbeats 1000000 in
/-- Handing out: each page in a block of its own. -/
theorem memOf_any (b len cap : Nat) (ms : List (List Int)) (w : World) (hl : ms.length = len) (hb : b < w.heap.size) (hS : Sheets w b ms) (h4 : ∀ i, i < len → (ms.getD i []).length = 4) (hn : len ≤ 1048576) :
    Calls Tryd.prog 38 #[.slice (some ⟨b, 0, none⟩) len cap] w fun e w' => ∃ T, e = .returned (.slice (some ⟨T, 0, none⟩) len len) ∧ OwnMem w' w.heap.size w'.heap.size (some ⟨T, 0, none⟩) len ms ∧ Below w.heap.size w w' := by
  have hmk := make_mems len hn
  go_enter Tryd.func38, Tryd.ntmps38
  go_wp2
  clear hmk
  go_loopw [4, 5, 11] (fun _ _ i wr => ∃ k : Nat, k ≤ len ∧ i = .int .i64 k ∧ Hid (OwnUpto wr w.heap.size w.heap.size wr.heap.size k ms) ∧ Hid (Room wr w.heap.size len) ∧ w.heap.size < wr.heap.size ∧ Below w.heap.size w wr) (fun _ _ i _ => len - (intOf i).toNat)
  case atStart => exact ⟨0, Nat.zero_le _, rfl, ⟨fun _ => 0, fun i j h1 h2 => by omega, fun i hi => by omega⟩, room_made _ _ _ _, by simp, (Below.refl _ _).alloc (Nat.le_refl _) _⟩
  case round =>
    obtain ⟨k, hk, rfl, hE, hR, hlt, hB⟩ := hrel
    by_cases hkl : k < len
    · obtain ⟨q0, q1, q2, q3⟩ := hS k (by omega)
      have hf := four (h4 k hkl)
      have HG : Hid (ms.getD k [] = [(ms.getD k []).getD 0 0, (ms.getD k []).getD 1 0, (ms.getD k []).getD 2 0, (ms.getD k []).getD 3 0]) := hf
      generalize (ms.getD k []).getD 0 0 = z0 at HG q0
      generalize (ms.getD k []).getD 1 0 = z1 at HG q1
      generalize (ms.getD k []).getD 2 0 = z2 at HG q2
      generalize (ms.getD k []).getD 3 0 = z3 at HG q3
      have c0 := (hB.cell (p := ⟨b, k * 4, none⟩) hb).trans q0
      have c1 := (hB.cell (p := ⟨b, k * 4 + 1, none⟩) hb).trans q1
      have c2 := (hB.cell (p := ⟨b, k * 4 + 2, none⟩) hb).trans q2
      have c3 := (hB.cell (p := ⟨b, k * 4 + 3, none⟩) hb).trans q3
      have hki : (k : Int) < (len : Int) := by omega
      clear hf q0 q1 q2 q3
      go_wp2_with (fail)
      refine (sheetWords z0 z1 z2 z3 _).mono ?_
      rintro e w1 ⟨p, rfl, hp1, hp2, hI, hRp, B1⟩
      have C1 : Below wr.heap.size wr w1 := Below.trans ((Below.refl _ _).alloc (Nat.le_refl _) _) (B1.mono (by simp))
      have hp0 : wr.heap.size ≤ p := by simp at hp1; omega
      have R1 : Hid (Room w1 w.heap.size len) := hR.out.below C1 hlt
      have hlt1 : w.heap.size < w1.heap.size := Nat.lt_of_lt_of_le hlt C1.size
      have hB1 := hB.trans (C1.mono hB.size)
      obtain ⟨⟨u0, d0⟩, f0⟩ := R1.out k hkl
      have HI : Hid (Ints w1 p 0 [z0, z1, z2, z3]) := hI
      have HRp : Hid (Room w1 p 4) := hRp
      clear hI hRp c0 c1 c2 c3 hp1 B1
      go_wp2
      go_roundw
      case rel =>
        obtain ⟨⟨v0, e0⟩, g0⟩ := hR.out k hkl
        refine ⟨k + 1, by omega, by go_num, ?_, R1.out.put _, by simpa using hlt1, ?_⟩
        · have := OwnUpto.step (c := 4) (l := 4) hE.out (below_sameIn C1 (Nat.le_refl _)) (Nat.le_refl _) hlt hp0 hp2 (by rw [HG.out]; rfl) (by rw [HG.out]; exact HI.out) (fun j hj => (HRp.out j hj).2) e0 g0
          simpa [World.setCell, Hid] using this
        · exact hB1.setCell (p := ⟨w.heap.size, k, none⟩) (Nat.le_refl _) _
      case measure => simp [intOf]; omega
    · have hkk : k = len := by omega
      subst hkk
      clear hR
      go_wp2
      go_ret
      exact ⟨_, rfl, ⟨hl, Or.inr ⟨_, rfl, Nat.le_refl _, hlt, hE.out⟩⟩, hB⟩
end Go.Proofs.YteelpikhijkmdaaDoor
