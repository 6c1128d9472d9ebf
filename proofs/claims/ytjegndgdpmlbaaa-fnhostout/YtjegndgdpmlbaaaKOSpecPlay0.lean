/-
  What the given HostPlay does.
-/
import Derived.Test.YtjegndgdpmlbaaaKOHF
import Derived.Test.YtjegndgdpmlbaaaKOHG
import Derived.Test.YtjegndgdpmlbaaaKOY
import Derived.Test.YtjegndgdpmlbaaaKOHE
set_option linter.unusedSimpArgs false
namespace Go.Proofs.Ytjegndgdpmlbaaa
open Go.RowKit
attribute [local go_sem ↓] Go.wp_at_zero Go.wp_at_succ exec_app
attribute [local go_sem] bigNext_ok

/-- Acts played on a host, one behind the other: the host in the end, and what came of each. -/
def stepS (s : Hst × List Int) (a : A5) : Hst × List Int := ((doH s.1 a).1, s.2 ++ [(doH s.1 a).2])
def playS (h : Hst) (xs : List A5) : Hst × List Int := xs.foldl stepS (h, [])
theorem foldS_ok (xs : List A5) : ∀ (s : Hst × List Int), OkH s.1 → OkH (xs.foldl stepS s).1 ∧ (xs.foldl stepS s).1.guests.length = s.1.guests.length ∧ (xs.foldl stepS s).2.length = s.2.length + xs.length := by
  induction xs with
  | nil => intro s k; exact ⟨k, rfl, rfl⟩
  | cons a xs ih =>
    intro s k
    obtain ⟨k1, l1, _⟩ := doH_keeps k a
    obtain ⟨k2, l2, e2⟩ := ih (stepS s a) k1
    exact ⟨k2, l2.trans l1, by rw [List.foldl_cons, e2, stepS, List.length_append, List.length_cons, List.length_cons, List.length_nil]; omega⟩
theorem playS_ok {h : Hst} (k : OkH h) (xs : List A5) : OkH (playS h xs).1 ∧ (playS h xs).1.guests.length = h.guests.length ∧ (playS h xs).2.length = xs.length := by
  obtain ⟨a, b, c⟩ := foldS_ok xs (h, []) k
  exact ⟨a, b, by rw [playS, c]; simp⟩
theorem playS_take (h : Hst) (xs : List A5) (k : Nat) (hk : k < xs.length) : playS h (xs.take (k + 1)) = stepS (playS h (xs.take k)) (xs.getD k noA) := by
  have e : xs.take (k + 1) = xs.take k ++ [xs.getD k noA] := by
    rw [List.take_add_one, List.getElem?_eq_getElem hk, List.getD_eq_getElem?_getD, List.getElem?_eq_getElem hk]; rfl
  rw [playS, e, List.foldl_append]; rfl

theorem newH_ok (m : Nat) (h1 : 1 ≤ m) (h2 : m ≤ 2) : newB (m : Int) = true ∧ OkH (newH (m : Int)) ∧ (newH (m : Int)).guests.length = m ∧ (newH (m : Int)).hand = 0 := by
  have hb : newB (m : Int) = true := by simp [newB]; omega
  have hlb : loadB (zeroM (m * 6)) = true := (loadB_nat (by simp [zeroM])).2 ⟨m, rfl, h1, h2, okM_zero _⟩
  have e : newH (m : Int) = loadH (zeroM (m * 6)) := by rw [newH, hb, Int.toNat_natCast]; rfl
  obtain ⟨a, b, _⟩ := load_ok (ms := zeroM (m * 6)) (n := m) (by simp [zeroM]) h1 h2 hlb
  rw [e]
  exact ⟨hb, a, b, by rw [loadH_yes (n := m) (by simp [zeroM]) hlb]⟩

theorem own_block {w w' : World} {base : Nat} {t : TypeId} {size n : Nat} {v : Value} {vs : List Value} (h : w.ownsRow base t size v n vs) (e : ∀ b, v.ownBlock = some b → w'.heap[b]? = w.heap[b]?) : w'.ownsRow base t size v n vs := by
  obtain ⟨hl, hd⟩ := h
  refine ⟨hl, hd.imp id ?_⟩
  rintro ⟨g, cap, cur, rfl, hg, hh, hr⟩
  exact ⟨g, cap, cur, rfl, hg, by rw [e g rfl]; exact hh, hr⟩
theorem SepH.grown {w w' : World} {N : Nat} {A : Pl → Nat} {h : Hst} {row : Option Nat} (k : SepH w N A h) (hg : w.grownBy w' row) (hne : ∀ x, x.ok h.guests.length → row ≠ some (A x)) : SepH w' N A h :=
  k.keep hg.size (fun x hx => hg.block _ (k.low x hx).2 (fun e => hne x hx e.symm))
/-- One word more, and what that leaves as it was. -/
theorem int_app2 {W : World} {N : Nat} {v : Value} {zs : List Int} (z : Int) (hown : W.ownsRow N 3 1 v zs.length (zv zs)) (hN : N ≤ W.heap.size) (hl : zs.length ≤ 1000) :
    ∃ g c w1, appRun Try.prog 41 41 v (.slice (some ⟨W.heap.size, 0, none⟩) 1 1) (W.alloc (.cells #[.int .i64 z] 3)) = .ok (.slice (some ⟨g, 0, none⟩) (zs.length + 1) c) w1 ∧ w1.ownsRow N 3 1 (.slice (some ⟨g, 0, none⟩) (zs.length + 1) c) (zs ++ [z]).length (zv (zs ++ [z])) ∧ (W.alloc (.cells #[.int .i64 z] 3)).grownBy w1 v.ownBlock ∧ (v.ownBlock = some g ∨ g = W.heap.size + 1) := by
  obtain ⟨i0, hi0, hz0, hz1, hz2⟩ := info_parts infoZ
  have hown3 := hown.alloc (.cells #[.int .i64 z] 3)
  obtain ⟨g, c, w1, hrun, own3, grow3, hat, hlt3⟩ := run_append_lies (P := Try.prog) (W.alloc (.cells #[.int .i64 z] 3)) 41 41 N 3 i0 (.int .i64 0) 1 8 Try.underlying41 hi0 hz0 hz1 hz2 rfl (by decide) _ zs.length _ hown3 ⟨W.heap.size, 0, none⟩ 1 1 [.int .i64 z] rfl (one_new W _ _) (by simp [Value.oneCell']) (by decide) (by simp [maxLen]; omega) (by omega) (by simp; omega) _ rfl
  refine ⟨g, c, w1, hrun, ?_, grow3, hat.imp id (fun e => by rw [e, World.size_alloc])⟩
  rw [List.length_append, zv, List.map_append]
  exact own3

/-- How far a play has come: the host in its variable, what came of the acts in a row of the call's own. -/
def PlayUp (W1 wr : World) (X m : Nat) (A : Pl → Nat) (cf cg : Nat) (v : Value) (h : Hst) (out : List Int) : Prop :=
  Var3 wr X (.slice (some ⟨A .fr, 0, none⟩) 8 cf) (.slice (some ⟨A .gs, 0, none⟩) m cg) (.int .i64 h.hand) ∧ X < wr.heap.size ∧ W1.heap.size ≤ X ∧ SepH wr W1.heap.size A h ∧ OkH h ∧ h.guests.length = m ∧ (∀ x, x.ok m → A x ≠ X) ∧ (∀ x, x.ok m → v.ownBlock ≠ some (A x)) ∧ wr.ownsRow (X + 1) 3 1 v out.length (zv out) ∧ Below W1.heap.size W1 wr ∧ Spare A m cg
theorem playUp_step {W1 wr W w4 W5 : World} {X m : Nat} {A A' : Pl → Nat} {cf cg : Nat} (cf' cg' : Nat) {v : Value} {h h1 : Hst} {out : List Int} (z : Int) (u : PlayUp W1 wr X m A cf cg v h out) (BW : Below wr.heap.size wr W) (hM : Mw W w4 W1.heap.size m A A' h1) (hB5 : Below wr.heap.size w4 W5) (S5 : SepH W5 W1.heap.size A' h1) (hsp : Spare A' m cg') (k1 : OkH h1) (hl : out.length ≤ 1000) :
    Var3 W5 X (.slice (some ⟨A .fr, 0, none⟩) 8 cf) (.slice (some ⟨A .gs, 0, none⟩) m cg) (.int .i64 h.hand) ∧ X < W5.heap.size ∧
    ∃ g c w8, appRun Try.prog 41 41 v (.slice (some ⟨W5.heap.size, 0, none⟩) 1 1) ((((W5.setCell ⟨X, 0, none⟩ (.slice (some ⟨A' .fr, 0, none⟩) 8 cf')).setCell ⟨X, 1, none⟩ (.slice (some ⟨A' .gs, 0, none⟩) m cg')).setCell ⟨X, 2, none⟩ (.int .i64 h1.hand)).alloc (.cells #[.int .i64 z] 3)) = .ok (.slice (some ⟨g, 0, none⟩) (out.length + 1) c) w8 ∧ Hid (PlayUp W1 w8 X m A' cf' cg' (.slice (some ⟨g, 0, none⟩) (out.length + 1) c) h1 (out ++ [z])) := by
  obtain ⟨hX, hXl, hX1, hS, kk, hn, hAX, hAv, hown, hB, _⟩ := u
  obtain ⟨hpl, hS4, hn4, hB4, hkeep⟩ := hM
  have s1 := hB.size
  have sW := BW.size
  have s4 := hB4.size
  have s5 := hB5.size
  have hlow : ∀ b, v.ownBlock = some b → X < b ∧ b < wr.heap.size := fun b hb => by
    have := World.ownsRow.lt hown b hb
    omega
  have old : ∀ b, b < wr.heap.size → (∀ x, x.ok m → A x ≠ b) → W5.heap[b]? = wr.heap[b]? := fun b hb hA => (hB5.block b hb).trans ((hkeep b (by omega) hA).trans (BW.block b hb))
  have hX5 := hX.same (old X hXl hAX)
  have own5 := own_block hown (fun b hb => old b (hlow b hb).2 (fun x hx e => hAv x hx (by rw [hb, e])))
  have nX : ∀ x, x.ok m → A' x ≠ X := fun x hx => by
    rcases hpl x hx with ⟨y, hy, e⟩ | e
    · rw [e]; exact hAX y hy
    · omega
  have nv : ∀ x, x.ok m → v.ownBlock ≠ some (A' x) := fun x hx e => by
    rcases hpl x hx with ⟨y, hy, e2⟩ | e2
    · rw [e2] at e; exact hAv y hy e
    · have := hlow _ e; omega
  refine ⟨hX5, by omega, ?_⟩
  obtain ⟨W6, hW6⟩ : ∃ W6, W6 = ((W5.setCell ⟨X, 0, none⟩ (.slice (some ⟨A' .fr, 0, none⟩) 8 cf')).setCell ⟨X, 1, none⟩ (.slice (some ⟨A' .gs, 0, none⟩) m cg')).setCell ⟨X, 2, none⟩ (.int .i64 h1.hand) := ⟨_, rfl⟩
  have e6 : ∀ j, j ≠ X → W6.heap[j]? = W5.heap[j]? := fun j hj => by rw [hW6, Below.heap_setCell _ _ _ _ (by simpa using hj), Below.heap_setCell _ _ _ _ (by simpa using hj), Below.heap_setCell _ _ _ _ (by simpa using hj)]
  have s6 : W6.heap.size = W5.heap.size := by rw [hW6]; simp
  have v6 : Var3 W6 X (.slice (some ⟨A' .fr, 0, none⟩) 8 cf') (.slice (some ⟨A' .gs, 0, none⟩) m cg') (.int .i64 h1.hand) := by rw [hW6]; exact Var3.putAll hX5 _ _ _
  have B6 : Below W1.heap.size W1 W6 := by rw [hW6]; exact ((((((hB.trans (BW.mono s1)).trans hB4)).trans (hB5.mono s1)).setCell (p := ⟨X, 0, none⟩) hX1 _).setCell (p := ⟨X, 1, none⟩) hX1 _).setCell (p := ⟨X, 2, none⟩) hX1 _
  have S6 : SepH W6 W1.heap.size A' h1 := S5.keep (by omega) (fun x hx => e6 _ (nX x (by rw [← hn4]; exact hx)))
  have own6 : W6.ownsRow (X + 1) 3 1 v out.length (zv out) := own_block own5 (fun b hb => e6 b (by have := hlow b hb; omega))
  rw [← hW6]
  clear hW6
  obtain ⟨g, c, w8, hr, own8, hg, hat⟩ := int_app2 z own6 (by omega) hl
  rw [← s6]
  have B78 : Below W6.heap.size W6 (W6.alloc (.cells #[.int .i64 z] 3)) := (Below.refl _ _).alloc (Nat.le_refl _) _
  have S8 := (S6.belowK B78).grown hg (fun x hx => nv x (by rw [← hn4]; exact hx))
  have v8 := (v6.belowK B78).same (w' := w8) (hg.block X (by rw [World.size_alloc]; omega) (fun e => by have := hlow X e.symm; omega))
  have B8 : Below W1.heap.size W1 w8 := (B6.trans (B78.mono (by omega))).trans (Below.grown (Below.refl _ _) hg (by rw [World.size_alloc]; omega) (fun b hb => by have := hlow b hb; omega))
  refine ⟨g, c, w8, hr, v8, ?_, hX1, S8, k1, hn4, nX, fun x hx e => ?_, own8, B8, hsp⟩
  · have := hg.size; rw [World.size_alloc] at this; omega
  · have e : g = A' x := by simpa [Value.ownBlock] using e
    rcases hat with h0 | h0
    · exact nv x hx (by rw [h0, e])
    · have := (S6.low x (by rw [hn4]; exact hx)).2
      omega

set_option maxRecDepth 100000 in
set_option maxHeartbeats 4000000 in
theorem specPlay_yes (m : Nat) (a : Option Addr) (cap : Nat) (xs : List A5) (w : World) (h1 : 1 ≤ m) (h2 : m ≤ 2) (hx : xs.length ≤ 60) (hA : IsActs w a xs.length xs) :
    Calls Try.prog 75 #[.int .i64 m, .slice a xs.length cap] w fun e w' => ∃ A cf cg v, e = .returned (.tuple #[.agg #[.slice (some ⟨A .fr, 0, none⟩) 8 cf, .slice (some ⟨A .gs, 0, none⟩) m cg, .int .i64 (playS (newH m) xs).1.hand], v]) ∧ SepH w' w.heap.size A (playS (newH m) xs).1 ∧ Spare A m cg ∧ OwnI w' w.heap.size w'.heap.size v (playS (newH m) xs).2 ∧ Below w.heap.size w w' := by
  obtain ⟨hnb, kk0, hl0, hh0⟩ := newH_ok m h1 h2
  obtain ⟨L, hL⟩ : ∃ L, xs.length = L := ⟨_, rfl⟩
  rw [hL] at hA hx ⊢
  obtain ⟨W1, hW1⟩ : ∃ W1, W1 = w.alloc (.cells #[.slice none 0 0, .slice none 0 0, .int .i64 0] 26) := ⟨_, rfl⟩
  have s1 : W1.heap.size = w.heap.size + 1 := by rw [hW1]; simp
  have B1 : Below w.heap.size w W1 := by rw [hW1]; exact (Below.refl _ _).alloc (Nat.le_refl _) _
  have r1 : Var3 W1 w.heap.size (.slice none 0 0) (.slice none 0 0) (.int .i64 0) := by rw [hW1]; exact var3_new w _ _ _ _
  have hnew := specHostNewR (m : Int) W1
  rw [hnb] at hnew
  have hA1 := hA.below B1
  generalize newH (m : Int) = h0 at *
  have hok0 := okHost_mk kk0
  have hLi : (L : Int) ≤ 60 := by omega
  have hPk := hidE (fun k => playS_ok kk0 (xs.take k))
  have hPs := hidE (fun k (hk : k < L) => playS_take h0 xs k (by omega))
  have hfin : Hid (playS h0 (xs.take L) = playS h0 xs) := by show _ = _; rw [List.take_of_length_le (by omega)]
  have hR1 := hidE r1
  have HB1 := hidE B1
  replace s1 := hidE s1
  clear hA r1 hnb B1
  go_enter Try.func75, Try.ntmps75
  go_wp2_with (fail)
  rw [← hW1]
  clear hW1
  refine hnew.mono ?_
  rintro e w2 ⟨vf, vg, rfl, hO, B2, hR⟩
  obtain ⟨T, cg, rfl, hcg, hR⟩ := hR (by first | trivial | rfl)
  rw [Int.toNat_natCast] at hO hcg ⊢
  obtain ⟨A, cf, rfl, rfl, h9, k2⟩ := sep_of_ownS (s := (cg - m) * 3) hO (by rw [show m * 3 + (cg - m) * 3 = cg * 3 by omega]; exact hR) hok0 hl0 (Nat.le_refl _)
  have s2 := B2.size
  obtain ⟨W3, hW3⟩ : ∃ W3, W3 = (w2.alloc (.cells #[.slice (some ⟨A .fr, 0, none⟩) 8 cf, .slice (some ⟨A .gs, 0, none⟩) m cg, .int .i64 0] 26)).alloc (.cells #[] 3) := ⟨_, rfl⟩
  have B23 : Below w2.heap.size w2 W3 := by rw [hW3]; exact ((Below.refl _ _).alloc (Nat.le_refl _) _).alloc (by simp) _
  have hup : Hid (PlayUp W1 W3 w2.heap.size m A cf cg (.slice (some ⟨w2.heap.size + 1, 0, none⟩) 0 0) (playS h0 (xs.take 0)).1 (playS h0 (xs.take 0)).2) := by
    have hlow : ∀ x, x.ok m → A x < w2.heap.size := fun x hx => (k2.low x (by rw [hl0]; exact hx)).2
    refine ⟨?_, by rw [hW3]; simp; omega, s2, k2.belowK B23, kk0, hl0, fun x hx => by have := hlow x hx; omega, fun x hx e => ?_, ?_, B2.trans (B23.mono s2), hcg, h9⟩
    · rw [show (playS h0 (xs.take 0)).1.hand = 0 from hh0, hW3]
      exact (var3_new w2 _ _ _ _).allocK _
    · have := hlow x hx
      have e : w2.heap.size + 1 = A x := by simpa [Value.ownBlock] using e
      omega
    · have := World.ownsRow_made (e := 3) (size := 1) (w2.alloc (.cells #[.slice (some ⟨A .fr, 0, none⟩) 8 cf, .slice (some ⟨A .gs, 0, none⟩) m cg, .int .i64 0] 26)) #[] 0 (Nat.le_refl _) (by simp [maxLen]) rfl
      rw [World.size_alloc] at this
      rw [hW3]
      exact this
  clear hnew hO hR k2 B23 hok0 hh0 B2
  go_wp2_with (fail)
  rw [← hW3]
  clear hW3
  go_loopw [8, 9] (fun v i wr => ∃ (k : Nat) (A : Pl → Nat) (cf cg : Nat), k ≤ L ∧ i = .int .i64 k ∧ Hid (PlayUp W1 wr w2.heap.size m A cf cg v (playS h0 (xs.take k)).1 (playS h0 (xs.take k)).2)) (fun _ i _ => L - (intOf i).toNat)
  case atStart => exact ⟨0, A, cf, cg, Nat.zero_le _, rfl, hup⟩
  case round =>
    clear hup
    obtain ⟨k, A, cf, cg, hk, rfl, hU⟩ := hrel
    by_cases hkl : k < L
    · have hki : (k : Int) < (L : Int) := by omega
      obtain ⟨⟨x0, x1, x2, _, _, _⟩, hXl, hX1, hS, kk, hn, _, _, _, hB, hsp⟩ := hU.out
      have hsB := hB.size
      rcases hE : xs.getD k noA with ⟨a0, a1, a2, a3, a4⟩
      obtain ⟨_, hAc⟩ := hA1
      rcases hAc with hc | ⟨b, o, rfl, hbl, hAc⟩
      · omega
      obtain ⟨c0, c1, c2, c3, c4⟩ := hAc.at hB hbl (by omega) hE
      have hdo := fun (W : World) (B : Below wr.heap.size wr W) => specDo21 W1.heap.size A _ a0 a1 a2 a3 a4 m cf cg W (hS.belowK B) kk hn (Nat.le_trans hsB B.size) hsp
      have hlow : ∀ x, x.ok m → A x < wr.heap.size := fun x hx => (hS.low x (by rw [hn]; exact hx)).2
      have hol := (hPk.out k).2.2
      rw [List.length_take] at hol
      have hst := fun (W w4 W5 : World) (A' : Pl → Nat) (cf' cg' : Nat) (BW : Below wr.heap.size wr W) (hM : Mw W w4 W1.heap.size m A A' _) (hB5 : Below wr.heap.size w4 W5) (S5 : SepH W5 W1.heap.size A' _) (hsp' : Spare A' m cg') => playUp_step cf' cg' (doH (playS h0 (xs.take k)).1 (a0, a1, a2, a3, a4)).2 hU.out BW hM hB5 S5 hsp' (doH_keeps kk (a0, a1, a2, a3, a4)).1 (by omega)
      have hnx := hPs.out k hkl
      rw [hE] at hnx
      rw [show stepS (playS h0 (xs.take k)) (a0, a1, a2, a3, a4) = ((doH (playS h0 (xs.take k)).1 (a0, a1, a2, a3, a4)).1, (playS h0 (xs.take k)).2 ++ [(doH (playS h0 (xs.take k)).1 (a0, a1, a2, a3, a4)).2]) from rfl] at hnx
      have hnx := hidE hnx
      replace hE := hidE hE
      generalize doH (playS h0 (xs.take k)).1 (a0, a1, a2, a3, a4) = D at *
      obtain ⟨H1, G1⟩ := D
      simp only at hdo hst hnx
      generalize playS h0 (xs.take k) = P at *
      generalize P.2.length = pl at *
      clear hU hS kk hn hB hAc hol hsp
      go_wp2_with (fail)
      have bA := hidE (show Below wr.heap.size wr wr.drew from (Below.refl _ _).drew)
      have bB : Below wr.heap.size wr (wr.alloc (.cells #[.slice none 0 0, .slice none 0 0, .int .i64 0] 26)).drew := ((Below.refl _ _).alloc (Nat.le_refl _) _).drew
      have zB : ∀ (w4 : World) (A' : Pl → Nat) (h' : Hst), Mw (wr.alloc (.cells #[.slice none 0 0, .slice none 0 0, .int .i64 0] 26)).drew w4 W1.heap.size m A A' h' → Var3 w4 wr.heap.size (.slice none 0 0) (.slice none 0 0) (.int .i64 0) ∧ wr.heap.size < w4.heap.size := fun w4 A' h' hM => by
        have hs := hM.2.2.2.1.size
        rw [World.size_drew, World.size_alloc] at hs
        exact ⟨(Var3.same (w' := (wr.alloc (.cells #[.slice none 0 0, .slice none 0 0, .int .i64 0] 26)).drew) (var3_newK (w := wr) (t := 26) rfl) rfl).same (hM.2.2.2.2 wr.heap.size (by rw [World.size_drew, World.size_alloc]; omega) (fun x hx => by have := hlow x hx; omega)), by omega⟩
      replace bB := hidE bB
      have hbw : b < wr.heap.size := Nat.lt_of_lt_of_le hbl hsB
      replace zB := hidE zB
      replace hdo := hidE hdo
      replace hlow := hidE hlow
      replace hst := hidE hst
      go_region_with (first | (go_at_call 100; refine (hdo.out wr.drew bA.out).mono ?_; rintro e w4 ⟨A', cf', cg', rfl, hM, hsp'⟩) | (go_at_call 100; refine (hdo.out _ bB.out).mono ?_; rintro e w4 ⟨A', cf', cg', rfl, hM, hsp'⟩; have z9 := zB.out _ _ _ hM; obtain ⟨⟨z0, z1, z2, g0, g1, g2⟩, z3⟩ := z9) | fail)
      all_goals
        first
          | (obtain ⟨W5, hW5⟩ : ∃ W5, W5 = w4.alloc (.cells #[.slice (some ⟨A' .fr, 0, none⟩) 8 cf', .slice (some ⟨A' .gs, 0, none⟩) m cg', .int .i64 H1.hand] 26) := ⟨_, rfl⟩
             rw [← hW5]
             have s54 : W5.heap.size = w4.heap.size + 1 := by rw [hW5]; simp
             have hb5 : w4.heap.size < W5.heap.size := by omega
             have x5 : W5.cell? ⟨w4.heap.size, 0, none⟩ = some (.slice (some ⟨A' .fr, 0, none⟩) 8 cf') ∧ W5.cell? ⟨w4.heap.size, 1, none⟩ = some (.slice (some ⟨A' .gs, 0, none⟩) m cg') ∧ W5.cell? ⟨w4.heap.size, 2, none⟩ = some (.int .i64 H1.hand) := by rw [hW5]; simp
             have B54 : Below w4.heap.size w4 W5 := by rw [hW5]; exact (Below.refl _ _).alloc (Nat.le_refl _) _
             have h5 := hst.out wr.drew w4 W5 A' cf' cg' bA.out hM (B54.mono (by have := hM.2.2.2.1.size; rw [World.size_drew] at this; exact this)) (hM.2.1.belowK B54) hsp'
             replace s54 := hidE s54
             clear hW5 B54)
          | (obtain ⟨W5, hW5⟩ : ∃ W5, W5 = ((w4.setCell ⟨wr.heap.size, 0, none⟩ (.slice (some ⟨A' .fr, 0, none⟩) 8 cf')).setCell ⟨wr.heap.size, 1, none⟩ (.slice (some ⟨A' .gs, 0, none⟩) m cg')).setCell ⟨wr.heap.size, 2, none⟩ (.int .i64 H1.hand) := ⟨_, rfl⟩
             rw [← hW5]
             have x9 := Var3.putAll (w := w4) ⟨z0, z1, z2, g0, g1, g2⟩ (.slice (some ⟨A' .fr, 0, none⟩) 8 cf') (.slice (some ⟨A' .gs, 0, none⟩) m cg') (.int .i64 H1.hand)
             rw [← hW5] at x9
             have x5 := (show W5.cell? ⟨wr.heap.size, 0, none⟩ = some (.slice (some ⟨A' .fr, 0, none⟩) 8 cf') ∧ W5.cell? ⟨wr.heap.size, 1, none⟩ = some (.slice (some ⟨A' .gs, 0, none⟩) m cg') ∧ W5.cell? ⟨wr.heap.size, 2, none⟩ = some (.int .i64 H1.hand) from ⟨x9.1, x9.2.1, x9.2.2.1⟩)
             have hb5 : wr.heap.size < W5.heap.size := by rw [hW5]; simp; omega
             have nA : ∀ x, x.ok H1.guests.length → A' x ≠ wr.heap.size := fun x hx => by
               rw [hM.2.2.1] at hx
               rcases hM.1 x hx with ⟨y, hy, e⟩ | e
               · have := hlow.out y hy; omega
               · rw [World.size_drew, World.size_alloc] at e; omega
             have h5 := hst.out _ w4 W5 A' cf' cg' bB.out hM (by rw [hW5]; exact (((Below.refl _ _).setCell (p := ⟨wr.heap.size, 0, none⟩) (Nat.le_refl _) _).setCell (p := ⟨wr.heap.size, 1, none⟩) (Nat.le_refl _) _).setCell (p := ⟨wr.heap.size, 2, none⟩) (Nat.le_refl _) _) (by rw [hW5]; exact ((hM.2.1.off nA _).off nA _).off nA _) hsp'
             clear hW5 x9 nA z0 z1 z2 g0 g1 g2 z3)
      all_goals
        obtain ⟨⟨y0, y1, y2, f0, f1, f2⟩, hX4, g, c, w8, happ, hU'⟩ := h5
        obtain ⟨x50, x51, x52⟩ := x5
        have hU2 : Hid (PlayUp W1 w8 w2.heap.size m A' cf' cg' (.slice (some ⟨g, 0, none⟩) (pl + 1) c) (playS h0 (xs.take (k + 1))).1 (playS h0 (xs.take (k + 1))).2) := by rw [hnx.out]; exact hU'
        clear hM hdo hst hU' hsp' c0 c1 c2 c3 c4 x0 x1 x2 bA bB zB hlow
        go_wp2
        go_roundw
        case rel => exact ⟨k + 1, A', cf', cg', by omega, by go_num, hU2⟩
        case measure => simp [intOf]; omega
    · obtain rfl : k = L := by omega
      have hU3 := hU.out
      rw [hfin.out] at hU3
      obtain ⟨⟨x0, x1, x2, _, _, _⟩, hXl, hX1, hS, kk, hn, _, _, hown, hB, hsp⟩ := hU3
      obtain ⟨r0, r1, r2, f0, f1, f2⟩ := hR1.out.same (hB.block _ (by have := s1.out; omega))
      have hRl : w.heap.size < wr.heap.size := by have := s1.out; omega
      have HS := hidE hS
      have Hsp := hidE hsp
      have HBw := hidE (HB1.out.trans (hB.mono (by have := s1.out; omega)))
      have HO := hidE ((own_i hown).wide (show w.heap.size + 1 ≤ w2.heap.size + 1 by have := s1.out; omega))
      clear hU hS hown hB hA1 hPk hPs hfin kk hn hR1 hsp
      go_wp2
      refine bodyPost_ret (by simp [results, Try.results75, go_sem, *]; rfl) rfl ?_
      have ew : ∀ x y t, ∀ j, j ≠ w.heap.size → (((wr.setCell ⟨w.heap.size, 0, none⟩ x).setCell ⟨w.heap.size, 1, none⟩ y).setCell ⟨w.heap.size, 2, none⟩ t).heap[j]? = wr.heap[j]? := fun x y t j hj => by rw [Below.heap_setCell _ _ _ _ (by simpa using hj), Below.heap_setCell _ _ _ _ (by simpa using hj), Below.heap_setCell _ _ _ _ (by simpa using hj)]
      refine ⟨A, cf, cg, _, rfl, SepH.lower (N := W1.heap.size) (HS.out.keep (by simp) (fun x hx => ew _ _ _ _ (by have := (HS.out.low x hx).1; have := s1.out; omega))) (by have := s1.out; omega), Hsp.out, ?_, ((HBw.out.setCell (p := ⟨w.heap.size, 0, none⟩) (Nat.le_refl _) _).setCell (p := ⟨w.heap.size, 1, none⟩) (Nat.le_refl _) _).setCell (p := ⟨w.heap.size, 2, none⟩) (Nat.le_refl _) _⟩
      obtain ⟨a, c, e, hd⟩ := HO.out
      refine ⟨a, c, e, hd.imp id ?_⟩
      rintro ⟨b, rfl, b1, b2, b3, b4⟩
      have s := same_block (ew (.slice (some ⟨A .fr, 0, none⟩) 8 cf) (.slice (some ⟨A .gs, 0, none⟩) m cg) (.int .i64 (playS h0 xs).1.hand) b (by omega))
      exact ⟨b, rfl, by omega, by simpa using b2, b3.same s (Nat.le_refl _) (Nat.lt_succ_self _), b4.same s (Nat.le_refl _) (Nat.lt_succ_self _)⟩

end Go.Proofs.Ytjegndgdpmlbaaa
