/-
  What the drawing of acts gives; tidy or not, of acts that may be none.
-/
import Derived.Test.YtdnaiifibpbobaaPlay0
import Derived.Test.YtdnaiifibpbobaaTidy1
set_option linter.unusedSimpArgs false
namespace Go.Proofs.Ytdnaiifibpbobaa
open Go.RowKit

set_option maxHeartbeats 1000000 in
theorem drawTidy (a : Option Addr) (len cap : Nat) (zs : List Int) (w : World) (h : IsRow .u8 w a len cap zs) :
    Calls Try.prog 6 #[.slice a len cap] w fun e w' => ∃ a c xs, e = .returned (.slice a xs.length c) ∧ xs.length ≤ c ∧ IsActs w' a xs.length xs ∧ (a = none ∧ c = 0 ∨ ∃ T, a = some ⟨T, 0, none⟩ ∧ w.heap.size ≤ T ∧ T < w'.heap.size ∧ Acts w' T 0 xs) ∧ xs.length ≤ 60 ∧ (∀ x, x ∈ xs → SmA 2 x) ∧ Below w.heap.size w w' := by
  go_enter Try.func6, Try.ntmps6
  go_wp2_with (fail)
  refine (open_any a len cap zs w h).mono ?_
  rintro e w1 ⟨rfl, len', hl, rfl⟩
  have hr := rd_new h hl 0 40
  have hB : Below w.heap.size w (w.alloc (.cells #[.slice a len' cap, .int .i64 0] 40)) := (Below.refl _ _).alloc (Nat.le_refl _) _
  have hsz : (w.alloc (.cells #[.slice a len' cap, .int .i64 0] 40)).heap.size = w.heap.size + 1 := by simp
  generalize w.alloc (.cells #[.slice a len' cap, .int .i64 0] 40) = w1 at *
  go_wp2_with (fail)
  refine (drawPlay w.heap.size 0 w1 hr (by omega)).mono ?_
  rintro e w2 ⟨n, v, xs, rfl, hn1, hn2, hO, hxl, hS, _, hA⟩
  obtain ⟨a', c, rfl, hac, hI, hT⟩ := hO.acts
  go_wp2
  go_ret
  refine ⟨a', c, xs, rfl, hac, hI, ?_, hxl, fun x hx => (hS x hx).wider hn2, hB.trans (hA.below (Nat.le_refl _) (by omega))⟩
  rcases hT with h0 | ⟨T, h1, h2, h3, h4⟩
  · exact Or.inl h0
  · exact Or.inr ⟨T, h1, by omega, h3, h4⟩

theorem wf_two {z : Int} (h0 : 0 ≤ z) (h7 : z < 2) : (Lit.int .i64 z).wf = true := by
  rcases (by omega : z = 0 ∨ z = 1) with e | e <;> subst e <;> decide
theorem smA_wf {x : A5} (h : SmA 2 x) : (Lit.int .i64 x.2.1).wf = true := wf_two h.2.1.1 h.2.1.2

set_option maxHeartbeats 1000000 in
theorem implTidyV (a : Option Addr) (len cap : Nat) (xs : List A5) (w : World) (h : IsActs w a len xs) (hm : len ≤ 2000000) (hS : ∀ x, x ∈ xs → SmA 2 x) :
    Calls Try.prog 7 #[.slice a len cap] w fun e w' => e = .returned (.bool (tidyA xs)) ∧ Below w.heap.size w w' := by
  obtain ⟨hl, h⟩ := h
  rcases h with rfl | ⟨b, o, rfl, hb, hc⟩
  · obtain rfl := List.eq_nil_of_length_eq_zero hl
    have hmm := @run_makeMap Try.prog
    go_enter Try.func7, Try.ntmps7
    go_wp2_with (fail)
    clear hmm
    go_loopw [9] (fun i wr => i = .int .i64 0 ∧ Below w.heap.size w wr) (fun _ _ => 0)
    case atStart => exact ⟨rfl, (Below.refl _ _).alloc (Nat.le_refl _) _⟩
    case round =>
      obtain ⟨rfl, hB⟩ := hrel
      go_wp2
      go_ret
      exact ⟨rfl, hB⟩
  · exact implActsTidy b o len cap xs w hl hm hb hc (fun x hx => smA_wf (hS x hx))
set_option maxHeartbeats 1000000 in
theorem specTidyV (a : Option Addr) (len cap : Nat) (xs : List A5) (w : World) (h : IsActs w a len xs) (hm : len ≤ 2000000) :
    Calls Try.prog 8 #[.slice a len cap] w fun e w' => e = .returned (.bool (tidyA xs)) ∧ Below w.heap.size w w' := by
  obtain ⟨hl, h⟩ := h
  rcases h with rfl | ⟨b, o, rfl, hb, hc⟩
  · obtain rfl := List.eq_nil_of_length_eq_zero hl
    go_enter Try.func8, Try.ntmps8
    go_wp2
    go_loopw [3] (fun i wr => i = .int .i64 0 ∧ wr = w) (fun _ _ => 0)
    case atStart => exact ⟨rfl, rfl⟩
    case round =>
      obtain ⟨rfl, rfl⟩ := hrel
      go_wp2
      go_ret
      exact ⟨rfl, Below.refl _ _⟩
  · exact specActsTidy b o len cap xs w hl hm hb hc

theorem OwnA.below {w w' : World} {lo : Nat} {v : Value} {xs : List A5} (h : OwnA w lo v xs) (hB : Below w.heap.size w w') : OwnA w' lo v xs := by
  refine World.ownsRow.kept h (row := none) ⟨hB.os, hB.tape, hB.output, hB.size, fun k hk _ => hB.block k hk⟩ ?_
  cases hv : v.ownBlock with
  | none => exact Or.inl rfl
  | some g => exact Or.inr fun e => by cases e
theorem acts_flat {w : World} {b o : Nat} {xs : List A5} (h : Acts w b o xs) : ∀ j u, (flatA xs)[j]? = some u → w.cell? ((⟨b, o, none⟩ : Addr).add j) = some u := by
  intro j u hj
  have hl : j < xs.length * 5 := by
    rcases Nat.lt_or_ge j (flatA xs).length with h | h
    · rwa [flatA_len] at h
    · rw [List.getElem?_eq_none h] at hj; cases hj
  have hi : j / 5 < xs.length := by omega
  obtain ⟨e0, e1, e2, e3, e4⟩ := flatA_get xs (j / 5) hi
  obtain ⟨c0, c1, c2, c3, c4⟩ := h (j / 5) hi
  have ad : (⟨b, o, none⟩ : Addr).add j = ⟨b, o + j, none⟩ := by by_cases h : j = 0 <;> simp [Addr.add, h]
  rw [ad]
  rcases (by omega : j = j / 5 * 5 ∨ j = j / 5 * 5 + 1 ∨ j = j / 5 * 5 + 2 ∨ j = j / 5 * 5 + 3 ∨ j = j / 5 * 5 + 4) with hk | hk | hk | hk | hk
  · rw [← hk] at e0 c0; rw [e0] at hj; cases hj; exact c0
  · rw [← hk] at e1; rw [Nat.add_assoc, ← hk] at c1; rw [e1] at hj; cases hj; exact c1
  · rw [← hk] at e2; rw [Nat.add_assoc, ← hk] at c2; rw [e2] at hj; cases hj; exact c2
  · rw [← hk] at e3; rw [Nat.add_assoc, ← hk] at c3; rw [e3] at hj; cases hj; exact c3
  · rw [← hk] at e4; rw [Nat.add_assoc, ← hk] at c4; rw [e4] at hj; cases hj; exact c4
/-- An append of a literal of acts. -/
theorem app_lit (lo : Nat) (v : Value) (xs ys : List A5) (w : World) (h : OwnA w lo v xs) (hlo : lo ≤ w.heap.size) (m : Nat) (hm : ys.length = m) (h0 : 0 < m) (hn : xs.length + m ≤ 100000) (cs : Array Value) (hcs : cs.toList = flatA ys) :
    ∃ g cap w', apaRun Try.prog v (.slice (some ⟨w.heap.size, 0, none⟩) m m) (w.alloc (.cells cs 27)) = .ok (.slice (some ⟨g, 0, none⟩) (xs.length + m) cap) w' ∧ OwnA w' lo (.slice (some ⟨g, 0, none⟩) (xs.length + m) cap) (xs ++ ys) ∧ Below lo w w' := by
  obtain ⟨g, cap, w', h1, h2, h3, _⟩ := app_acts lo v xs ys (w.alloc (.cells cs 27)) (World.ownsRow.alloc h _) (by simp; omega) ⟨w.heap.size, 0, none⟩ m m hm h0 hn (fun j u hu => cells_new w cs _ j u (by rw [hcs]; exact hu))
  exact ⟨g, cap, w', h1, h2, ((Below.refl lo w).alloc hlo _).trans h3⟩
/-- An append of acts, also of none, to a row just begun. -/
theorem app_all (ys : List A5) (w : World) (a : Option Addr) (c : Nat) (hI : IsActs w a ys.length ys) (hn : ys.length ≤ 10000) :
    ∃ g cap w', apaRun Try.prog (.slice (some ⟨w.heap.size, 0, none⟩) 0 0) (.slice a ys.length c) (w.alloc (.cells #[] 27)) = .ok (.slice (some ⟨g, 0, none⟩) ys.length cap) w' ∧ OwnA w' w.heap.size (.slice (some ⟨g, 0, none⟩) ys.length cap) ys ∧ Below w.heap.size w w' := by
  obtain ⟨_, hI⟩ := hI
  rcases hI with h0 | ⟨b, o, rfl, hb, hc⟩
  · obtain rfl := List.eq_nil_of_length_eq_zero h0
    refine ⟨w.heap.size, 0, w.alloc (.cells #[] 27), ?_, OwnA.new w, (Below.refl _ _).alloc (Nat.le_refl _) _⟩
    obtain ⟨i0, hi, hz0, hz1, hz2⟩ := info_parts infoAp
    cases a <;> simp [Builtin.lenOf, loadCells, loadCellsFrom, storeCells, apaRun, Builtin.append_, run_underlying Try.underlying23, sizeOf, typeInfo, zeroValue, hi, hz0, hz1, hz2, Builtin.firstCells, Value.cells]
  · by_cases h0 : ys.length = 0
    · obtain rfl := List.eq_nil_of_length_eq_zero h0
      refine ⟨w.heap.size, 0, w.alloc (.cells #[] 27), ?_, OwnA.new w, (Below.refl _ _).alloc (Nat.le_refl _) _⟩
      obtain ⟨i0, hi, hz0, hz1, hz2⟩ := info_parts infoAp
      simp [Builtin.lenOf, loadCells, loadCellsFrom, storeCells, apaRun, Builtin.append_, run_underlying Try.underlying23, sizeOf, typeInfo, zeroValue, hi, hz0, hz1, hz2, Builtin.firstCells, Value.cells]
    · obtain ⟨g, cap, w', h1, h2, h3, _⟩ := app_acts w.heap.size (.slice (some ⟨w.heap.size, 0, none⟩) 0 0) [] ys (w.alloc (.cells #[] 27)) (OwnA.new w) (by simp) ⟨b, o, none⟩ ys.length c rfl (by omega) (by simp; omega) (fun j u hu => by
        have := acts_flat (hc.below ((Below.refl w.heap.size w).alloc (Nat.le_refl _) (.cells #[] 27)) hb) j u hu
        exact this)
      simp only [List.length_nil, Nat.zero_add, List.nil_append] at h1 h2
      exact ⟨g, cap, w', h1, h2, ((Below.refl _ w).alloc (Nat.le_refl _) _).trans h3⟩
end Go.Proofs.Ytdnaiifibpbobaa
