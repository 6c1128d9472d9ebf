/-
  Lodgers and houses as rows of cells; a row of pages from any place of a block on, handed out.
-/
import Derived.Test.YtahcoklhijjenaaHost0
import Derived.Test.YtahcoklhijjenaaMemAns0
import Derived.Deep.MidRow
namespace Go.Proofs.Ytahcoklhijjenaa
open Go.RowKit

/-- A page, pages, shades, a lodger, a house as cells. -/
def sheetC (zs : List Int) : List Value := [.int .i64 (zs.getD 0 0), .int .i64 (zs.getD 1 0), .int .i64 (zs.getD 2 0), .int .i64 (zs.getD 3 0)]
def sheetsC (ms : List (List Int)) : List Value := ms.flatMap sheetC
def quadC (s : S4) : List Value := [.bool s.1, .int .i64 s.2.1, .int .i64 s.2.2.1, .bool s.2.2.2]
def quadsC (ss : List S4) : List Value := ss.flatMap quadC
def lodC (g : Gst) : List Value := flat g.maps ++ (sheetsC g.disk ++ quadsC g.shades)
def houseC (fs : List (List Int)) (v : Value) (hand : Int) : List Value := sheetsC fs ++ [v, .int .i64 hand]
/-- A guest that has as many of all as it has to have. -/
def Sized (g : Gst) : Prop := g.maps.length = 6 ∧ g.disk.length = 6 ∧ (∀ i, i < 6 → (g.disk.getD i []).length = 4) ∧ g.shades.length = 6

theorem flatMap_len {α : Type} (f : α → List Value) (n : Nat) (hf : ∀ a, (f a).length = n) : ∀ l : List α, (l.flatMap f).length = l.length * n
  | [] => by simp
  | a :: l => by rw [List.flatMap_cons, List.length_append, hf, flatMap_len f n hf l, List.length_cons, Nat.add_mul]; omega
theorem flatMap_get {α : Type} (f : α → List Value) (n : Nat) (d : α) (hf : ∀ a, (f a).length = n) : ∀ (l : List α) (i j : Nat), i < l.length → j < n → (l.flatMap f)[i * n + j]? = (f (l.getD i d))[j]?
  | [], i, j, hi, _ => by simp at hi
  | a :: l, 0, j, _, hj => by
    rw [List.flatMap_cons, Nat.zero_mul, Nat.zero_add, List.getElem?_append_left (by rw [hf]; exact hj)]; rfl
  | a :: l, i + 1, j, hi, hj => by
    rw [List.flatMap_cons, List.getElem?_append_right (by rw [hf, Nat.add_mul]; omega), hf]
    have : (i + 1) * n + j - n = i * n + j := by rw [Nat.add_mul]; omega
    rw [this, flatMap_get f n d hf l i j (by simpa using hi) hj]; simp
theorem sheetsC_len (ms : List (List Int)) : (sheetsC ms).length = ms.length * 4 := flatMap_len _ 4 (fun _ => rfl) ms
theorem quadsC_len (ss : List S4) : (quadsC ss).length = ss.length * 4 := flatMap_len _ 4 (fun _ => rfl) ss
theorem lodC_len {g : Gst} (h : Sized g) : (lodC g).length = 66 := by
  obtain ⟨h1, h2, _, h3⟩ := h
  simp only [lodC, List.length_append, flat_len, sheetsC_len, quadsC_len, h1, h2, h3]
theorem houseC_len {fs : List (List Int)} (h : fs.length = 8) (v : Value) (hand : Int) : (houseC fs v hand).length = 34 := by simp [houseC, sheetsC_len, h]

theorem one_flatMap {α : Type} {f : α → List Value} (hf : ∀ a, ∀ v ∈ f a, v.oneCell' = true) (l : List α) : ∀ v ∈ l.flatMap f, v.oneCell' = true := by
  intro v hv
  obtain ⟨a, _, ha⟩ := List.mem_flatMap.1 hv
  exact hf a v ha
theorem flat_one (es : List E3) : ∀ v ∈ flat es, v.oneCell' = true := one_flatMap (fun a v hv => by simp at hv; rcases hv with rfl | rfl | rfl <;> rfl) es
theorem sheetsC_one (ms : List (List Int)) : ∀ v ∈ sheetsC ms, v.oneCell' = true := one_flatMap (fun a v hv => by simp [sheetC] at hv; rcases hv with rfl | rfl | rfl | rfl <;> rfl) ms
theorem quadsC_one (ss : List S4) : ∀ v ∈ quadsC ss, v.oneCell' = true := one_flatMap (fun a v hv => by simp [quadC] at hv; rcases hv with rfl | rfl | rfl | rfl <;> rfl) ss
theorem lodC_one (g : Gst) : ∀ v ∈ lodC g, v.oneCell' = true := by
  intro v hv
  simp only [lodC, List.mem_append] at hv
  rcases hv with h | h | h
  · exact flat_one _ v h
  · exact sheetsC_one _ v h
  · exact quadsC_one _ v h

/-! Ranges: parted, put together, and as the rows that are told elsewhere. -/
theorem range_left {w : World} {b o : Nat} {xs ys : List Value} (h : w.rangeAt b o (xs ++ ys)) : w.rangeAt b o xs := fun j v hj => h j v (by rw [List.getElem?_append_left (List.getElem?_eq_some_iff.1 hj).1]; exact hj)
theorem range_right {w : World} {b o : Nat} {xs ys : List Value} (h : w.rangeAt b o (xs ++ ys)) {n : Nat} (hn : xs.length = n) : w.rangeAt b (o + n) ys := fun j v hj => by
  have := h (n + j) v (by rw [List.getElem?_append_right (by omega), ← hn]; simpa using hj)
  rwa [← Nat.add_assoc] at this
theorem range_join {w : World} {b o n : Nat} {xs ys : List Value} (hn : xs.length = n) (h : w.rangeAt b o xs) (k : w.rangeAt b (o + n) ys) : w.rangeAt b o (xs ++ ys) := fun j v hj => by
  by_cases hl : j < xs.length
  · rw [List.getElem?_append_left hl] at hj
    exact h j v hj
  · rw [List.getElem?_append_right (by omega)] at hj
    have := k _ v hj
    rwa [show o + n + (j - xs.length) = o + j by omega] at this
theorem range_below {N : Nat} {w w' : World} {b o : Nat} {cs : List Value} (h : w.rangeAt b o cs) (hB : Below N w w') (hb : b < N) : w'.rangeAt b o cs := fun j v hj => (hB.cell (p := ⟨b, o + j, none⟩) hb).trans (h j v hj)
theorem there_below {N : Nat} {w w' : World} {b o n : Nat} (h : w.there b o n) (hB : Below N w w') (hb : b < N) : w'.there b o n := fun j hj => by
  rw [hB.cell (p := ⟨b, o + j, none⟩) hb, hB.frozen (p := ⟨b, o + j, none⟩) hb]; exact h j hj
theorem range_ents {w : World} {b o : Nat} {es : List E3} (h : w.rangeAt b o (flat es)) : Ents w b o es := fun i hi => by
  have f : ∀ j, j < 3 → (flat es)[i * 3 + j]? = ([.bool (es.getD i noM).1, .int .i64 (es.getD i noM).2.1, .bool (es.getD i noM).2.2] : List Value)[j]? := fun j hj => flatMap_get (fun x : E3 => [.bool x.1, .int .i64 x.2.1, .bool x.2.2]) 3 noM (fun _ => rfl) es i j hi hj
  have h0 := h (i * 3 + 0) _ (f 0 (by omega))
  have h1 := h (i * 3 + 1) _ (f 1 (by omega))
  have h2 := h (i * 3 + 2) _ (f 2 (by omega))
  exact ⟨h0, h1, h2⟩
theorem ents_range {w : World} {b o : Nat} {es : List E3} (h : Ents w b o es) : w.rangeAt b o (flat es) := fun j v hj => by
  have hl := (List.getElem?_eq_some_iff.1 hj).1
  rw [flat_len] at hl
  obtain ⟨h0, h1, h2⟩ := h (j / 3) (by omega)
  have f := flatMap_get (fun x : E3 => [.bool x.1, .int .i64 x.2.1, .bool x.2.2]) 3 noM (fun _ => rfl) es (j / 3) (j % 3) (by omega) (by omega)
  have e : j / 3 * 3 + j % 3 = j := by omega
  rw [e] at f
  have hj' := f.symm.trans hj
  have hm : j % 3 < 3 := by omega
  generalize hq : j % 3 = q at hj' hm e
  rw [← e]
  match q, hm with
  | 0, _ => simp at hj'; rw [← hj']; exact h0
  | 1, _ => simp at hj'; rw [← hj']; exact h1
  | 2, _ => simp at hj'; rw [← hj']; exact h2
theorem range_quads {w : World} {b o : Nat} {ss : List S4} (h : w.rangeAt b o (quadsC ss)) : Quads w b o ss := fun i hi => by
  have f : ∀ j, j < 4 → (quadsC ss)[i * 4 + j]? = (quadC (ss.getD i noS))[j]? := fun j hj => flatMap_get quadC 4 noS (fun _ => rfl) ss i j hi hj
  exact ⟨h (i * 4 + 0) _ (f 0 (by omega)), h (i * 4 + 1) _ (f 1 (by omega)), h (i * 4 + 2) _ (f 2 (by omega)), h (i * 4 + 3) _ (f 3 (by omega))⟩
theorem quads_range {w : World} {b o : Nat} {ss : List S4} (h : Quads w b o ss) : w.rangeAt b o (quadsC ss) := fun j v hj => by
  have hl := (List.getElem?_eq_some_iff.1 hj).1
  rw [quadsC_len] at hl
  obtain ⟨h0, h1, h2, h3⟩ := h (j / 4) (by omega)
  have f := flatMap_get quadC 4 noS (fun _ => rfl) ss (j / 4) (j % 4) (by omega) (by omega)
  have e : j / 4 * 4 + j % 4 = j := by omega
  rw [e] at f
  have hj' := f.symm.trans hj
  have hm : j % 4 < 4 := by omega
  generalize hq : j % 4 = q at hj' hm e
  rw [← e]
  match q, hm with
  | 0, _ => simp [quadC] at hj'; rw [← hj']; exact h0
  | 1, _ => simp [quadC] at hj'; rw [← hj']; exact h1
  | 2, _ => simp [quadC] at hj'; rw [← hj']; exact h2
  | 3, _ => simp [quadC] at hj'; rw [← hj']; exact h3
/-- Pages as arrays, from a place of a block on. -/
def SheetsAt (w : World) (b o : Nat) (ms : List (List Int)) : Prop := ∀ i, i < ms.length →
  w.cell? ⟨b, o + i * 4, none⟩ = some (.int .i64 ((ms.getD i []).getD 0 0)) ∧ w.cell? ⟨b, o + i * 4 + 1, none⟩ = some (.int .i64 ((ms.getD i []).getD 1 0)) ∧
  w.cell? ⟨b, o + i * 4 + 2, none⟩ = some (.int .i64 ((ms.getD i []).getD 2 0)) ∧ w.cell? ⟨b, o + i * 4 + 3, none⟩ = some (.int .i64 ((ms.getD i []).getD 3 0))
theorem range_sheets {w : World} {b o : Nat} {ms : List (List Int)} (h : w.rangeAt b o (sheetsC ms)) : SheetsAt w b o ms := fun i hi => by
  have f : ∀ j, j < 4 → (sheetsC ms)[i * 4 + j]? = (sheetC (ms.getD i []))[j]? := fun j hj => flatMap_get sheetC 4 [] (fun _ => rfl) ms i j hi hj
  exact ⟨h (i * 4 + 0) _ (f 0 (by omega)), h (i * 4 + 1) _ (f 1 (by omega)), h (i * 4 + 2) _ (f 2 (by omega)), h (i * 4 + 3) _ (f 3 (by omega))⟩
theorem sheets_range {w : World} {b : Nat} {ms : List (List Int)} (h : Sheets w b ms) : w.rangeAt b 0 (sheetsC ms) := fun j v hj => by
  have hl := (List.getElem?_eq_some_iff.1 hj).1
  rw [sheetsC_len] at hl
  obtain ⟨h0, h1, h2, h3⟩ := h (j / 4) (by omega)
  have f := flatMap_get sheetC 4 [] (fun _ => rfl) ms (j / 4) (j % 4) (by omega) (by omega)
  have e : j / 4 * 4 + j % 4 = j := by omega
  rw [e] at f
  have hj' := f.symm.trans hj
  have hm : j % 4 < 4 := by omega
  rw [Nat.zero_add]
  generalize hq : j % 4 = q at hj' hm e
  rw [← e]
  match q, hm with
  | 0, _ => simp [sheetC] at hj'; rw [← hj']; exact h0
  | 1, _ => simp [sheetC] at hj'; rw [← hj']; exact h1
  | 2, _ => simp [sheetC] at hj'; rw [← hj']; exact h2
  | 3, _ => simp [sheetC] at hj'; rw [← hj']; exact h3
theorem lod_maps {w : World} {b o : Nat} {g : Gst} (h : w.rangeAt b o (lodC g)) : Ents w b o g.maps := range_ents (range_left h)
theorem lod_disk {w : World} {b o : Nat} {g : Gst} (hg : Sized g) (h : w.rangeAt b o (lodC g)) : SheetsAt w b (o + 18) g.disk := range_sheets (range_left (range_right h (by rw [flat_len, hg.1])))
theorem lod_shades {w : World} {b o : Nat} {g : Gst} (hg : Sized g) (h : w.rangeAt b o (lodC g)) : Quads w b (o + 42) g.shades := by
  have := range_right (range_right h (n := 18) (by rw [flat_len, hg.1])) (n := 24) (by rw [sheetsC_len, hg.2.1])
  exact range_quads this
theorem range_new (w : World) (cs : List Value) (t : TypeId) : (w.alloc (.cells cs.toArray t)).rangeAt w.heap.size 0 cs := fun j v hj => by
  have hl := (List.getElem?_eq_some_iff.1 hj)
  simp [hl.1, hl.2]

set_option maxHeartbeats 1000000 in
/-- Handing out, from any place of a block on: each page in a block of its own. -/
theorem memOf_at (b o len cap : Nat) (ms : List (List Int)) (w : World) (hl : ms.length = len) (hb : b < w.heap.size) (hS : SheetsAt w b o ms) (h4 : ∀ i, i < len → (ms.getD i []).length = 4) (hn : len ≤ 1048576) :
    Calls Try.prog 47 #[.slice (some ⟨b, o, none⟩) len cap] w fun e w' => ∃ T, e = .returned (.slice (some ⟨T, 0, none⟩) len len) ∧ OwnMem w' w.heap.size w'.heap.size (some ⟨T, 0, none⟩) len ms ∧ Below w.heap.size w w' := by
  have hmk := make_mems len hn
  go_enter Try.func47, Try.ntmps47
  go_wp2
  clear hmk
  go_loopw [4, 5, 11] (fun _ _ i wr => ∃ k : Nat, k ≤ len ∧ i = .int .i64 k ∧ Hid (OwnUpto wr w.heap.size w.heap.size wr.heap.size k ms) ∧ Hid (Room wr w.heap.size len) ∧ w.heap.size < wr.heap.size ∧ Below w.heap.size w wr) (fun _ _ i _ => len - (intOf i).toNat)
  case atStart => exact ⟨0, Nat.zero_le _, rfl, ⟨fun _ => 0, fun i j h1 h2 => by omega, fun i hi => by omega⟩, room_made _ _ _ _, by simp, (Below.refl _ _).alloc (Nat.le_refl _) _⟩
  case round =>
    obtain ⟨k, hk, rfl, hE, hR, hlt, hB⟩ := hrel
    by_cases hkl : k < len
    · obtain ⟨q0, q1, q2, q3⟩ := hS k (by omega)
      have hf := four (h4 k hkl)
      have HG : Hid (ms.getD k [] = [(ms.getD k []).getD 0 0, (ms.getD k []).getD 1 0, (ms.getD k []).getD 2 0, (ms.getD k []).getD 3 0]) := hf
      generalize (ms.getD k []).getD 0 0 = z0 at HG q0
      generalize (ms.getD k []).getD 1 0 = z1 at HG q1
      generalize (ms.getD k []).getD 2 0 = z2 at HG q2
      generalize (ms.getD k []).getD 3 0 = z3 at HG q3
      have c0 := (hB.cell (p := ⟨b, o + k * 4, none⟩) hb).trans q0
      have c1 := (hB.cell (p := ⟨b, o + k * 4 + 1, none⟩) hb).trans q1
      have c2 := (hB.cell (p := ⟨b, o + k * 4 + 2, none⟩) hb).trans q2
      have c3 := (hB.cell (p := ⟨b, o + k * 4 + 3, none⟩) hb).trans q3
      have hki : (k : Int) < (len : Int) := by omega
      clear hf q0 q1 q2 q3
      go_wp2_with (fail)
      refine (sheetWords z0 z1 z2 z3 _).mono ?_
      rintro e w1 ⟨p, rfl, hp1, hp2, hI, hRp, B1⟩
      have C1 : Below wr.heap.size wr w1 := Below.trans ((Below.refl _ _).alloc (Nat.le_refl _) _) (B1.mono (by simp))
      have hp0 : wr.heap.size ≤ p := by simp at hp1; omega
      have R1 : Hid (Room w1 w.heap.size len) := hR.out.below C1 hlt
      have hlt1 : w.heap.size < w1.heap.size := Nat.lt_of_lt_of_le hlt C1.size
      have hB1 := hB.trans (C1.mono hB.size)
      obtain ⟨⟨u0, d0⟩, f0⟩ := R1.out k hkl
      have HI : Hid (Ints w1 p 0 [z0, z1, z2, z3]) := hI
      have HRp : Hid (Room w1 p 4) := hRp
      clear hI hRp c0 c1 c2 c3 hp1 B1
      go_wp2
      go_roundw
      case rel =>
        obtain ⟨⟨v0, e0⟩, g0⟩ := hR.out k hkl
        refine ⟨k + 1, by omega, by go_num, ?_, R1.out.put _, by simpa using hlt1, ?_⟩
        · have := OwnUpto.step (c := 4) (l := 4) hE.out (below_sameIn C1 (Nat.le_refl _)) (Nat.le_refl _) hlt hp0 hp2 (by rw [HG.out]; rfl) (by rw [HG.out]; exact HI.out) (fun j hj => (HRp.out j hj).2) e0 g0
          simpa [World.setCell, Hid] using this
        · exact hB1.setCell (p := ⟨w.heap.size, k, none⟩) (Nat.le_refl _) _
      case measure => simp [intOf]; omega
    · have hkk : k = len := by omega
      subst hkk
      clear hR
      go_wp2
      go_ret
      exact ⟨_, rfl, ⟨hl, Or.inr ⟨_, rfl, Nat.le_refl _, hlt, hE.out⟩⟩, hB⟩
end Go.Proofs.Ytahcoklhijjenaa
