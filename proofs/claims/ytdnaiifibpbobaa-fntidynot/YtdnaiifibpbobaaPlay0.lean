/-
  Acts that a call has made: a row of its own; what is appended to it; what the drawing of a table's acts gives.
-/
import Derived.Test.YtdnaiifibpbobaaActDraw0
import Derived.Deep.AppendLies
set_option linter.unusedSimpArgs false
namespace Go.Proofs.Ytdnaiifibpbobaa
open Go.RowKit

/-- The cells of an act, and of acts. -/
def actC (a : A5) : List Value := [.int .i64 a.1, .int .i64 a.2.1, .int .i64 a.2.2.1, .int .i64 a.2.2.2.1, .int .i64 a.2.2.2.2]
def flatA (xs : List A5) : List Value := xs.flatMap actC
theorem flatA_app (xs ys : List A5) : flatA (xs ++ ys) = flatA xs ++ flatA ys := by simp [flatA]
theorem flatA_len (xs : List A5) : (flatA xs).length = xs.length * 5 := by
  induction xs with
  | nil => rfl
  | cons x xs ih => simp only [flatA, List.flatMap_cons, List.length_append, List.length_cons, actC, List.length_nil] at ih ⊢; omega
theorem flatA_one (xs : List A5) : ∀ u ∈ flatA xs, u.oneCell' = true := by
  induction xs with
  | nil => intro u hu; simp [flatA] at hu
  | cons x xs ih =>
    intro u hu
    rw [show flatA (x :: xs) = actC x ++ flatA xs from rfl, List.mem_append] at hu
    rcases hu with hu | hu
    · simp only [actC, List.mem_cons, List.not_mem_nil, or_false] at hu
      rcases hu with rfl | rfl | rfl | rfl | rfl <;> rfl
    · exact ih u hu
theorem flatA_get (xs : List A5) (i : Nat) (hi : i < xs.length) :
    (flatA xs)[i * 5]? = some (.int .i64 (xs.getD i noA).1) ∧ (flatA xs)[i * 5 + 1]? = some (.int .i64 (xs.getD i noA).2.1) ∧ (flatA xs)[i * 5 + 2]? = some (.int .i64 (xs.getD i noA).2.2.1) ∧ (flatA xs)[i * 5 + 3]? = some (.int .i64 (xs.getD i noA).2.2.2.1) ∧ (flatA xs)[i * 5 + 4]? = some (.int .i64 (xs.getD i noA).2.2.2.2) := by
  induction xs generalizing i with
  | nil => simp at hi
  | cons x xs ih =>
    have hx : flatA (x :: xs) = .int .i64 x.1 :: .int .i64 x.2.1 :: .int .i64 x.2.2.1 :: .int .i64 x.2.2.2.1 :: .int .i64 x.2.2.2.2 :: flatA xs := rfl
    cases i with
    | zero => rw [hx]; simp
    | succ i =>
      have := ih i (by simpa using hi)
      rw [hx, show (i + 1) * 5 = i * 5 + 5 by omega]
      simpa using this

/-- Acts that a call owns, at or above a place. -/
def OwnA (w : World) (lo : Nat) (v : Value) (xs : List A5) : Prop := w.ownsRow lo 27 5 v xs.length (flatA xs)
theorem OwnA.acts {w : World} {lo : Nat} {v : Value} {xs : List A5} (h : OwnA w lo v xs) : ∃ a cap, v = .slice a xs.length cap ∧ xs.length ≤ cap ∧ IsActs w a xs.length xs ∧ ((a = none ∧ cap = 0) ∨ ∃ T, a = some ⟨T, 0, none⟩ ∧ lo ≤ T ∧ T < w.heap.size ∧ Acts w T 0 xs) := by
  have hc := h
  obtain ⟨hlen, hd⟩ := h
  rcases hd with ⟨hv, h0⟩ | ⟨g, cap, cur, rfl, hg, hh, hle, _⟩
  · have he : xs = [] := List.eq_nil_of_length_eq_zero h0
    subst he
    exact ⟨none, 0, hv, Nat.zero_le _, ⟨rfl, Or.inl rfl⟩, Or.inl ⟨rfl, rfl⟩⟩
  · have hlt := (World.ownsRow.lt hc g rfl).2
    have hA : Acts w g 0 xs := fun i hi => by
      obtain ⟨e0, e1, e2, e3, e4⟩ := flatA_get xs i hi
      have ad : ∀ j, (⟨g, 0, none⟩ : Addr).add j = ⟨g, j, none⟩ := fun j => by by_cases h : j = 0 <;> simp [Addr.add, h]
      have k0 := World.ownsRow.cells hc rfl _ _ e0
      have k1 := World.ownsRow.cells hc rfl _ _ e1
      have k2 := World.ownsRow.cells hc rfl _ _ e2
      have k3 := World.ownsRow.cells hc rfl _ _ e3
      have k4 := World.ownsRow.cells hc rfl _ _ e4
      rw [ad] at k0 k1 k2 k3 k4
      simp only [Nat.zero_add]
      exact ⟨k0, k1, k2, k3, k4⟩
    exact ⟨some ⟨g, 0, none⟩, cap, rfl, hle, ⟨rfl, Or.inr ⟨g, 0, rfl, hlt, hA⟩⟩, Or.inr ⟨g, rfl, hg, hlt, hA⟩⟩
theorem OwnA.lower {w : World} {lo lo' : Nat} {v : Value} {xs : List A5} (h : OwnA w lo v xs) (hb : lo' ≤ lo) : OwnA w lo' v xs := by
  obtain ⟨hl, hd⟩ := h
  refine ⟨hl, ?_⟩
  rcases hd with h0 | ⟨g, cap, cur, rfl, hg, hr⟩
  · exact Or.inl h0
  · exact Or.inr ⟨g, cap, cur, rfl, Nat.le_trans hb hg, hr⟩
theorem adv_grownA {rb : Nat} {W w' : World} (h : Adv rb W w') : W.grownBy w' (some rb) := ⟨h.os, h.tape, h.output, h.size, fun k hk hn => h.block k hk (fun e => hn (by rw [e]))⟩
theorem OwnA.adv {rb lo : Nat} {W w' : World} {v : Value} {xs : List A5} (h : OwnA W lo v xs) (ha : Adv rb W w') (hb : rb < lo) : OwnA w' lo v xs := by
  refine World.ownsRow.kept h (adv_grownA ha) ?_
  cases hv : v.ownBlock with
  | none => exact Or.inl rfl
  | some g =>
    refine Or.inr fun e => ?_
    have := (World.ownsRow.lt h g hv).1
    simp at e
    omega
theorem OwnA.new (w : World) : OwnA (w.alloc (.cells #[] 27)) w.heap.size (.slice (some ⟨w.heap.size, 0, none⟩) 0 0) [] := World.ownsRow_made w #[] 0 (Nat.le_refl _) (by simp [maxLen]) rfl
theorem cells_new (w : World) (cs : Array Value) (t : TypeId) (j : Nat) (u : Value) (h : cs.toList[j]? = some u) : (w.alloc (.cells cs t)).cell? ((⟨w.heap.size, 0, none⟩ : Addr).add j) = some u :=
  World.news_of_block (fr := (0, 0)) (by show (w.heap.push _)[w.heap.size]? = _; exact Array.getElem?_push_size) j u h
theorem Adv.then_belowA {rb : Nat} {w X w' : World} (h : Adv rb w X) (hb : Below w.heap.size X w') : Adv rb w w' :=
  ⟨hb.os.trans h.os, hb.tape.trans h.tape, hb.output.trans h.output, Nat.le_trans h.size hb.size, fun k hk hn => (hb.block k hk).trans (h.block k hk hn)⟩

theorem infoAp : (Try.prog.info? 27).map (fun i => (i.zero, i.size, i.bytes)) = some (some (.agg #[.int .i64 0, .int .i64 0, .int .i64 0, .int .i64 0, .int .i64 0]), 5, 40) := by kernel_rfl
/-- An append of acts, kept shut. -/
def apaRun (P : Program) (x y : Value) (w : World) : Result Value := (Builtin.append_ #[23, 23] 23 #[x, y]).run P w
def nextAp : Result Value → Result Next
  | .ok v w => .ok (.value v) w
  | .halt h w => .halt h w
theorem nextAp_ok (v : Value) (w : World) : nextAp (.ok v w) = .ok (.value v) w := rfl
theorem exec_apa (ρ : Operand → Value) (dst : Option Tmp) (pos : String) (after : Array _) (guard : Option _) (x y : Operand) (w : World) :
    (execOp ρ ⟨dst, .call { callee := .builtin .append, args := #[x, y], argTypes := #[23, 23] }, 23, pos, after, guard⟩).run Try.prog w = nextAp (apaRun Try.prog (ρ x) (ρ y) w) := by
  unfold apaRun execOp
  simp only [resolve, invoke, builtin, Sem.run_bind, Sem.run_pure, Result.andThen_ok, List.map_toArray, List.map_cons, List.map_nil]
  cases (Builtin.append_ #[23, 23] 23 #[ρ x, ρ y]).run Try.prog w <;> rfl
theorem app_acts (lo : Nat) (v : Value) (xs ys : List A5) (w : World) (h : OwnA w lo v xs) (hlo : lo ≤ w.heap.size) (ad : Addr) (m c : Nat) (hm : ys.length = m) (h0 : 0 < m) (hn : xs.length + m ≤ 100000) (hc : ∀ j u, (flatA ys)[j]? = some u → w.cell? (ad.add j) = some u) :
    ∃ g cap w', apaRun Try.prog v (.slice (some ad) m c) w = .ok (.slice (some ⟨g, 0, none⟩) (xs.length + m) cap) w' ∧ OwnA w' lo (.slice (some ⟨g, 0, none⟩) (xs.length + m) cap) (xs ++ ys) ∧ Below lo w w' ∧ w.grownBy w' v.ownBlock := by
  obtain ⟨i0, hi, hz0, hz1, hz2⟩ := info_parts infoAp
  obtain ⟨g, cap, w', hr, ho, hg, _, _⟩ := run_append_lies (P := Try.prog) w 23 23 lo 27 i0 _ 5 40 Try.underlying23 hi hz0 hz1 hz2 rfl (by decide) v xs.length (flatA xs) h ad m c (flatA ys) (by rw [flatA_len, hm]) hc (flatA_one ys) h0 (by unfold maxLen; omega) (by omega) hlo w.heap.size rfl
  refine ⟨g, cap, w', hr, ?_, Below.grown (Below.refl _ _) hg hlo (fun k hk => (World.ownsRow.lt h k hk).1), hg⟩
  unfold OwnA
  rw [flatA_app, List.length_append, hm]
  exact ho
attribute [local go_sem ↓] exec_apa
attribute [local go_sem] nextAp_ok

theorem SmA.wider {n m : Int} {a : A5} (h : SmA n a) (hn : n ≤ m) : SmA m a := ⟨h.1, ⟨h.2.1.1, by have := h.2.1.2; omega⟩, h.2.2⟩
set_option maxRecDepth 100000 in
set_option maxHeartbeats 4000000 in
theorem drawTables (rb k0 : Nat) (n g : Int) (w : World) (hr0 : Rd w rb k0) (hk0 : k0 ≤ 600000) (hg : 0 ≤ g) (hg2 : g < n) (_hn : n ≤ 64) :
    Calls Try.prog 17 #[.pointer (some ⟨rb, 0, none⟩), .int .i64 g] w fun e w' => ∃ v xs, e = .returned v ∧ OwnA w' w.heap.size v xs ∧ xs.length ≤ 12 ∧ (∀ a, a ∈ xs → SmA n a) ∧ (∃ k', Rd w' rb k' ∧ k' ≤ k0 + 12) ∧ Adv rb w w' := by
  have hlt := hr0.lt
  go_enter Try.func17, Try.ntmps17
  go_wp2
  go_loopw [5, 6] (fun v i wr => ∃ (k kr : Nat) (xs : List A5), k ≤ 6 ∧ i = .int .i64 k ∧ xs.length ≤ 2 * k ∧ (∃ a c, v = .slice a xs.length c) ∧ Hid (OwnA wr w.heap.size v xs) ∧ Hid (∀ a, a ∈ xs → SmA n a) ∧ Hid (Rd wr rb kr) ∧ kr ≤ k0 + 2 * k ∧ Hid (Adv rb w wr)) (fun _ i _ => 6 - (intOf i).toNat)
  case atStart => exact ⟨0, k0, [], Nat.zero_le _, rfl, Nat.zero_le _, ⟨_, _, rfl⟩, OwnA.new w, fun a ha => by simp at ha, hr0.alloc _, by omega, (Adv.refl _ _).alloc _⟩
  case round =>
    obtain ⟨k, kr, xs, hk, rfl, hl, ⟨a, c, rfl⟩, hO, hS, hR, hkr, hA⟩ := hrel
    by_cases hkl : k < 6
    · have hki : (k : Int) < 6 := by omega
      have sW := hA.out.size
      go_wp2_with (fail)
      refine (pickA rb kr 4 _ hR.out (by omega) (by omega) (by omega)).mono ?_
      rintro e w1 ⟨v, rfl, hv, hr1, ha1⟩
      have hO1 := hidA (hO.out.adv ha1 hlt)
      have hR1 := hidA hr1
      have hA1 := hidA (hA.out.trans ha1)
      have s1 := ha1.size
      clear hO hR hA hr1 ha1
      by_cases hv0 : v = 0
      · subst hv0
        go_wp2_with (fail)
        go_roundw
        case rel => exact ⟨k + 1, kr + 1, xs, by omega, by go_num, by omega, ⟨_, _, rfl⟩, hO1.out, hS.out, hR1.out, by omega, hA1.out⟩
        case measure => simp [intOf]; omega
      · have hvi : (0 : Int) < (v : Int) := by omega
        have e1 : (k : Int).tdiv 4 = ((k / 4 : Nat) : Int) := by rw [Int.tdiv_eq_ediv_of_nonneg (by omega)]; omega
        have e2 : (k : Int).tmod 4 = ((k % 4 : Nat) : Int) := by rw [Int.tmod_eq_emod_of_nonneg (by omega)]; omega
        have e3 : IntKind.i64.wrap ((k : Int).tdiv 4) = ((k / 4 : Nat) : Int) := by rw [e1]; exact wrap_small _ (by omega) (by omega)
        go_wp2_with (fail)
        refine (pickA rb (kr + 1) 8 _ hR1.out (by omega) (by omega) (by omega)).mono ?_
        rintro e w2 ⟨z, rfl, hz, hr2, ha2⟩
        have hO2 := hO1.out.adv ha2 hlt
        have s2 := ha2.size
        have hR2 := hidA hr2
        have hA2 := hidA (hA1.out.trans ha2)
        clear hO1 hR1 hA1 hr2 ha2
        obtain ⟨W3, hW3⟩ : ∃ W3, W3 = w2.alloc (.cells #[.int .i64 2, .int .i64 g, .int .i64 ((k : Int) / 4), .int .i64 ((k : Int) % 4), .int .i64 (5 + (z : Int)), .int .i64 5, .int .i64 g, .int .i64 0, .int .i64 0, .int .i64 0] 27) := ⟨_, rfl⟩
        have s3 : W3.heap.size = w2.heap.size + 1 := by rw [hW3]; simp
        have hB3 : Below w2.heap.size w2 W3 := by rw [hW3]; exact (Below.refl _ _).alloc (Nat.le_refl _) _
        obtain ⟨gg, cap, w4, hApp, hO4, hB4, _⟩ := app_acts w.heap.size (.slice a xs.length c) xs [(2, g, (k : Int) / 4, (k : Int) % 4, 5 + (z : Int)), (5, g, 0, 0, 0)] W3 (by rw [hW3]; exact World.ownsRow.alloc hO2 _) (by omega) ⟨w2.heap.size, 0, none⟩ 2 2 rfl (by omega) (by omega) (fun j u hu => by rw [hW3]; exact cells_new w2 _ _ j u hu)
        have hS4 : Hid (∀ x, x ∈ xs ++ [(2, g, (k : Int) / 4, (k : Int) % 4, 5 + (z : Int)), (5, g, 0, 0, 0)] → SmA n x) := fun x hx => by
          rw [List.mem_append] at hx
          rcases hx with hx | hx
          · exact hS.out x hx
          · simp only [List.mem_cons, List.not_mem_nil, or_false] at hx
            rcases hx with rfl | rfl
            · refine ⟨⟨?_, ?_⟩, ⟨?_, ?_⟩, ⟨?_, ?_⟩, ⟨?_, ?_⟩, ⟨?_, ?_⟩⟩ <;> (dsimp only; omega)
            · refine ⟨⟨?_, ?_⟩, ⟨?_, ?_⟩, ⟨?_, ?_⟩, ⟨?_, ?_⟩, ⟨?_, ?_⟩⟩ <;> (dsimp only; omega)
        have hO4 := hidA hO4
        have hA4 := hidA (hA2.out.then_belowA (hB3.mono (by omega)) |>.then_belowA hB4)
        have hR4 := hidA ((hR2.out.below hB3 (by omega)).below hB4 hlt)
        clear hO2 hB3 hB4 hA2 hR2 hS
        go_wp2_with (fail)
        rw [← hW3, hApp, nextAp_ok]
        clear hW3 hApp
        go_wp2
        go_roundw
        case rel => exact ⟨k + 1, kr + 1 + 1, _, by omega, by go_num, (by simp; omega), ⟨some ⟨gg, 0, none⟩, cap, by rw [List.length_append]; rfl⟩, hO4.out, hS4.out, hR4.out, by omega, hA4.out⟩
        case measure => simp [intOf]; omega
    · obtain rfl : k = 6 := by omega
      go_wp2
      go_ret
      exact ⟨_, xs, rfl, hO.out, by omega, hS.out, ⟨kr, hR.out, by omega⟩, hA.out⟩

set_option maxRecDepth 100000 in
set_option maxHeartbeats 4000000 in
theorem drawPlay (rb k0 : Nat) (w : World) (hr0 : Rd w rb k0) (hk0 : k0 ≤ 500000) :
    Calls Try.prog 12 #[.pointer (some ⟨rb, 0, none⟩)] w fun e w' => ∃ (n : Int) (v : Value) (xs : List A5), e = .returned (.tuple #[.int .i64 n, v]) ∧ 1 ≤ n ∧ n ≤ 2 ∧ OwnA w' w.heap.size v xs ∧ xs.length ≤ 60 ∧ (∀ a, a ∈ xs → SmA n a) ∧ (∃ k', Rd w' rb k' ∧ k' ≤ k0 + 1000) ∧ Adv rb w w' := by
  have hlt := hr0.lt
  go_enter Try.func12, Try.ntmps12
  go_wp2_with (fail)
  refine (pickA rb k0 2 _ hr0 (by omega) (by omega) (by omega)).mono ?_
  rintro e w1 ⟨g, rfl, hg, hr1, ha1⟩
  have s1 := ha1.size
  have e0 : IntKind.i64.wrap (1 + (g : Int)) = 1 + (g : Int) := wrap_small _ (by omega) (by omega)
  go_wp2_with (fail)
  obtain ⟨W2, hW2⟩ : ∃ W2, W2 = w1.alloc (.cells #[] 27) := ⟨_, rfl⟩
  have hO2 : OwnA W2 w.heap.size (.slice (some ⟨w1.heap.size, 0, none⟩) 0 0) [] := by rw [hW2]; exact (OwnA.new w1).lower s1
  have hA2 : Adv rb w W2 := by rw [hW2]; exact ha1.alloc _
  have hR2 : Rd W2 rb (k0 + 1) := by rw [hW2]; exact hr1.alloc _
  rw [← hW2]
  clear hW2 hr1 ha1
  refine (pickA rb (k0 + 1) 4 _ hR2 (by omega) (by omega) (by omega)).mono ?_
  rintro e w3 ⟨v, rfl, hv, hr3, ha3⟩
  have hO3 := hO2.adv ha3 hlt
  have hA3 := hA2.trans ha3
  have s2 := ha3.size
  have hS0 : ∀ a : A5, a ∈ ([] : List A5) → SmA (1 + (g : Int)) a := fun a ha => by simp at ha
  obtain ⟨xs, hxs⟩ : ∃ xs : List A5, xs = [] := ⟨_, rfl⟩
  by_cases hv0 : v = 0
  focus
    subst hv0
    go_wp2_with (fail)
    have hJ : ∃ (xs : List A5) (a : Option Addr) (c : Nat), Value.slice (some ⟨w1.heap.size, 0, none⟩) 0 0 = .slice a xs.length c ∧ xs.length ≤ 12 ∧ Hid (OwnA w3 w.heap.size (.slice a xs.length c) xs) ∧ Hid (∀ a : A5, a ∈ xs → SmA (1 + (g : Int)) a) ∧ (∃ kr, Rd w3 rb kr ∧ kr ≤ k0 + 20) ∧ Hid (Adv rb w w3) := ⟨[], _, _, rfl, Nat.zero_le _, hO3, hS0, ⟨_, hr3, by omega⟩, hA3⟩
    obtain ⟨xs, a, c, hva, hxl, hO, hS, ⟨kr, hR, hk5⟩, hA⟩ := hJ
    rw [hva]
    clear hva
  rotate_left
  focus
    have hvi : (0 : Int) < (v : Int) := by omega
    go_wp2_with (fail)
    refine (pickA rb _ (1 + (g : Int)) _ hr3 (by omega) (by omega) (by omega)).mono ?_
    rintro e w4 ⟨q, rfl, hq, hr4, ha4⟩
    go_wp2_with (fail)
    refine (drawTables rb _ (1 + (g : Int)) q _ hr4 (by omega) (by omega) hq (by omega)).mono ?_
    rintro e w5 ⟨v5, xs, rfl, hO5, hxl, hS5, ⟨kr, hR, hk5'⟩, ha5⟩
    obtain ⟨a, c, rfl, hac, _, _⟩ := hO5.acts
    have s4 := ha4.size
    have hk5 : kr ≤ k0 + 20 := by omega
    have hO := hidA (hO5.lower (show w.heap.size ≤ w4.heap.size by have := hA3.size; omega))
    have hS := hidA hS5
    have hA := hidA ((hA3.trans ha4).trans ha5)
    go_wp2_with (fail)
    clear hO5 hS5 hac ha5 hr4 ha4 hvi
  all_goals
    clear hO3 hA3 hS0 hr0 hO2 hA2 hR2 ha3 hr3 s2
    refine (pickA rb kr 4 _ hR (by omega) (by omega) (by omega)).mono ?_
    rintro e w6 ⟨t, rfl, ht, hr6, ha6⟩
    have hO6 := hidA (hO.out.adv ha6 hlt)
    have hA6 := hidA (hA.out.trans ha6)
    clear hO hA hR ha6
    go_wp2_with (fail)
    refine (pickA rb (kr + 1) 52 _ hr6 (by omega) (by omega) (by omega)).mono ?_
    rintro e w7 ⟨m0, rfl, hm0, hr7, ha7⟩
    have hO7 := hidA (hO6.out.adv ha7 hlt)
    have hA7 := hidA (hA6.out.trans ha7)
    have hR7 := hidA hr7
    clear hO6 hA6 hr6 ha7 hr7
    go_wp2
    obtain ⟨tb, htb⟩ : ∃ tb : Bool, tb = decide (0 < t) := ⟨_, rfl⟩
    rw [← htb]
    clear htb
    go_loopw [5, 7] (fun v i wr => ∃ (m kr : Nat) (xs : List A5), m ≤ 51 ∧ i = .int .i64 m ∧ xs.length ≤ 60 ∧ (∃ a c, v = .slice a xs.length c) ∧ Hid (OwnA wr w.heap.size v xs) ∧ Hid (∀ a, a ∈ xs → SmA (1 + (g : Int)) a) ∧ Hid (Rd wr rb kr) ∧ kr + 10 * m ≤ k0 + 540 ∧ Hid (Adv rb w wr)) (fun _ i _ => (intOf i).toNat)
    case atStart => exact ⟨m0, _, xs, by omega, rfl, by omega, ⟨_, _, rfl⟩, hO7.out, hS.out, hR7.out, by omega, hA7.out⟩
    case round =>
      clear hS hO7 hA7 hR7
      obtain ⟨m, kr, xs, hm, rfl, hl, ⟨a, c, rfl⟩, hO, hS, hR, hkr, hA⟩ := hrel
      by_cases hm0 : m = 0
      · subst hm0
        go_wp2
        refine bodyPost_ret (v := .tuple #[.int .i64 (1 + (g : Int)), .slice a xs.length c]) (by simp [results, Try.results12, go_sem]) rfl ?_
        exact ⟨_, _, xs, rfl, by omega, by omega, hO.out, hl, hS.out, ⟨kr, hR.out, by omega⟩, hA.out⟩
      by_cases hl58 : xs.length < 58
      · have hmi : (0 : Int) < (m : Int) := by omega
        have hli : (xs.length : Int) < 58 := by omega
        have hr := hR.out
        have hlr := hr.lt
        have sW := hA.out.size
        have hwr := Adv.refl rb wr
        go_wp2_with (fail)
        refine (drawAct rb kr (1 + (g : Int)) _ hr (by omega) (by omega) (by omega)).mono ?_
        rintro e w8 ⟨⟨a0, a1, a2, a3, a4⟩, rfl, hs8, ⟨k8, hr8, hk8⟩, ha8⟩
        have s8 := ha8.size
        have hO8 := hidA (hO.out.adv ha8 hlt)
        have hA8 := hidA (hA.out.trans ha8)
        have hR8 := hidA hr8
        have hs8 := hidA hs8
        have hown : (Value.slice a xs.length c).ownBlock ≠ some w8.heap.size := fun e => by have := (World.ownsRow.lt hO8.out _ e).2; omega
        clear hO hA hR hr hwr hr8 ha8
        rw [show actV (a0, a1, a2, a3, a4) = .agg #[.int .i64 a0, .int .i64 a1, .int .i64 a2, .int .i64 a3, .int .i64 a4] from rfl]
        obtain ⟨W9, hW9⟩ : ∃ W9, W9 = (w8.alloc (.cells #[.int .i64 a0, .int .i64 a1, .int .i64 a2, .int .i64 a3, .int .i64 a4] 27)).alloc (.cells #[.int .i64 a0, .int .i64 a1, .int .i64 a2, .int .i64 a3, .int .i64 a4] 27) := ⟨_, rfl⟩
        have s9 : W9.heap.size = w8.heap.size + 1 + 1 := by rw [hW9]; simp
        have hB9 : Below w8.heap.size w8 W9 := by rw [hW9]; exact ((Below.refl _ _).alloc (Nat.le_refl _) _).alloc (by simp) _
        have hc9 : W9.cell? ⟨w8.heap.size, 0, none⟩ = some (.int .i64 a0) ∧ W9.cell? ⟨w8.heap.size, 1, none⟩ = some (.int .i64 a1) ∧ W9.cell? ⟨w8.heap.size, 2, none⟩ = some (.int .i64 a2) := by rw [hW9]; simp
        obtain ⟨gg, cap, w10, hApp, hO10, hB10, hG10⟩ := app_acts w.heap.size (.slice a xs.length c) xs [(a0, a1, a2, a3, a4)] W9 (by rw [hW9]; exact World.ownsRow.alloc (World.ownsRow.alloc hO8.out _) _) (by omega) ⟨w8.heap.size + 1, 0, none⟩ 1 1 rfl (by omega) (by omega) (fun j u hu => by rw [hW9]; have := cells_new (w8.alloc (.cells #[.int .i64 a0, .int .i64 a1, .int .i64 a2, .int .i64 a3, .int .i64 a4] 27)) #[.int .i64 a0, .int .i64 a1, .int .i64 a2, .int .i64 a3, .int .i64 a4] 27 j u hu; rwa [World.size_alloc] at this)
        obtain ⟨c0, c1, c2⟩ := hc9
        have n10 : some w8.heap.size ≠ (Value.slice a xs.length c).ownBlock := fun e => hown e.symm
        have c0 := (hG10.cell_far ⟨w8.heap.size, 0, none⟩ (by show w8.heap.size < _; omega) n10).trans c0
        have c1 := (hG10.cell_far ⟨w8.heap.size, 1, none⟩ (by show w8.heap.size < _; omega) n10).trans c1
        have c2 := (hG10.cell_far ⟨w8.heap.size, 2, none⟩ (by show w8.heap.size < _; omega) n10).trans c2
        have hS10 : Hid (∀ x, x ∈ xs ++ [(a0, a1, a2, a3, a4)] → SmA (1 + (g : Int)) x) := fun x hx => by
          rw [List.mem_append] at hx
          rcases hx with hx | hx
          · exact hS.out x hx
          · simp only [List.mem_cons, List.not_mem_nil, or_false] at hx
            rw [hx]; exact hs8.out
        have hO10 := hidA hO10
        have hA10 := hidA (hA8.out.then_belowA (hB9.mono (by have := hA8.out.size; omega)) |>.then_belowA hB10)
        have hR10 := hidA ((hR8.out.below hB9 (by have := hA8.out.size; omega)).below hB10 hlt)
        have s10 := hB10.size
        clear hO8 hB9 hB10 hA8 hR8 hS hG10 hown n10
        obtain ⟨ys, hys⟩ : ∃ ys, ys = xs ++ [(a0, a1, a2, a3, a4)] := ⟨_, rfl⟩
        have hyl : ys.length = xs.length + 1 := by rw [hys]; simp
        rw [← hys] at hO10 hS10
        rw [← hyl] at hO10 hApp
        replace hyl := hidA hyl
        clear hys
        have hnext : ∀ (wz : World) (zs : List A5) (vz : Value), zs.length ≤ 60 → (∃ a c, vz = .slice a zs.length c) → Hid (OwnA wz w.heap.size vz zs) → Hid (∀ x, x ∈ zs → SmA (1 + (g : Int)) x) → Hid (Rd wz rb k8) → Hid (Adv rb w wz) → ∃ (m' kr : Nat) (xs : List A5), m' ≤ 51 ∧ Value.int .i64 ((m : Int) - 1) = .int .i64 m' ∧ xs.length ≤ 60 ∧ (∃ a c, vz = .slice a xs.length c) ∧ Hid (OwnA wz w.heap.size vz xs) ∧ Hid (∀ a, a ∈ xs → SmA (1 + (g : Int)) a) ∧ Hid (Rd wz rb kr) ∧ kr + 10 * m' ≤ k0 + 540 ∧ Hid (Adv rb w wz) := fun wz zs vz h1 h2 h3 h4 h5 h6 => ⟨m - 1, k8, zs, by omega, by congr 1; omega, h1, h2, h3, h4, h5, by omega, h6⟩
        have em : IntKind.i64.wrap ((m : Int) - 1) = (m : Int) - 1 := wrap_small _ (by omega) (by omega)
        go_wp2_with (fail)
        rw [← hW9, hApp, nextAp_ok]
        clear hW9 hApp
        cases tb
        · go_wp2
          go_roundw
          case rel => exact hnext _ ys _ (by have := hyl.out; omega) ⟨_, _, rfl⟩ hO10 hS10 hR10 hA10
          case measure => simp [intOf]; omega
        · by_cases h2 : a0 = 2
          · by_cases h3 : a2 < 2
            · obtain ⟨W11, hW11⟩ : ∃ W11, W11 = w10.alloc (.cells #[.int .i64 5, .int .i64 a1, .int .i64 0, .int .i64 0, .int .i64 0] 27) := ⟨_, rfl⟩
              have s11 : W11.heap.size = w10.heap.size + 1 := by rw [hW11]; simp
              have hB11 : Below w10.heap.size w10 W11 := by rw [hW11]; exact (Below.refl _ _).alloc (Nat.le_refl _) _
              obtain ⟨g2, cap2, w12, hApp, hO12, hB12, _⟩ := app_acts w.heap.size (.slice (some ⟨gg, 0, none⟩) ys.length cap) ys [(5, a1, 0, 0, 0)] W11 (by rw [hW11]; exact World.ownsRow.alloc hO10.out _) (by omega) ⟨w10.heap.size, 0, none⟩ 1 1 rfl (by omega) (by have := hyl.out; omega) (fun j u hu => by rw [hW11]; exact cells_new w10 _ _ j u hu)
              have hS12 : Hid (∀ x, x ∈ ys ++ [(5, a1, 0, 0, 0)] → SmA (1 + (g : Int)) x) := fun x hx => by
                rw [List.mem_append] at hx
                rcases hx with hx | hx
                · exact hS10.out x hx
                · simp only [List.mem_cons, List.not_mem_nil, or_false] at hx
                  have h5 := hs8.out.2.1
                  rw [hx]
                  exact ⟨⟨(by dsimp only; omega), (by dsimp only; omega)⟩, h5, ⟨(by dsimp only; omega), (by dsimp only; omega)⟩, ⟨(by dsimp only; omega), (by dsimp only; omega)⟩, ⟨(by dsimp only; omega), (by dsimp only; omega)⟩⟩
              have hO12 := hidA hO12
              have hA12 := hidA (hA10.out.then_belowA (hB11.mono (by have := hA10.out.size; omega)) |>.then_belowA hB12)
              have hR12 := hidA ((hR10.out.below hB11 (by have := hA10.out.size; omega)).below hB12 hlt)
              clear hO10 hA10 hR10 hB11 hB12 hS10
              go_wp2_with (fail)
              rw [← hW11, hApp, nextAp_ok]
              clear hW11 hApp
              go_wp2
              go_roundw
              case rel => exact hnext _ (ys ++ [(5, a1, 0, 0, 0)]) _ (by rw [List.length_append]; show ys.length + 1 ≤ 60; have := hyl.out; omega) ⟨some ⟨g2, 0, none⟩, cap2, by rw [List.length_append]; rfl⟩ hO12 hS12 hR12 hA12
              case measure => simp [intOf]; omega
            · go_wp2
              go_roundw
              case rel => exact hnext _ ys _ (by have := hyl.out; omega) ⟨_, _, rfl⟩ hO10 hS10 hR10 hA10
              case measure => simp [intOf]; omega
          · go_wp2
            go_roundw
            case rel => exact hnext _ ys _ (by have := hyl.out; omega) ⟨_, _, rfl⟩ hO10 hS10 hR10 hA10
            case measure => simp [intOf]; omega
      · go_wp2
        refine bodyPost_ret (v := .tuple #[.int .i64 (1 + (g : Int)), .slice a xs.length c]) (by simp [results, Try.results12, go_sem]) rfl ?_
        exact ⟨_, _, xs, rfl, by omega, by omega, hO.out, hl, hS.out, ⟨kr, hR.out, by omega⟩, hA.out⟩
end Go.Proofs.Ytdnaiifibpbobaa
