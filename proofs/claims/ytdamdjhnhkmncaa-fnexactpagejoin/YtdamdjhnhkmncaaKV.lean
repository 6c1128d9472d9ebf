/-
  What the program's own ring of pages that wait does: put, take.
-/
import Derived.Test.YtdamdjhnhkmncaaKU
import Derived.Test.YtdamdjhnhkmncaaKImplOut1
import Derived.Test.YtdamdjhnhkmncaaKT
import Derived.Test.YtdamdjhnhkmncaaKImplOut2
set_option linter.unusedSimpArgs false
namespace Go.Proofs.Ytdamdjhnhkmncaa
open Go.RowKit

/-- All old blocks but one are as they were. -/
structure Upd (b : Nat) (w w' : World) : Prop where
  os : w'.os = w.os
  tape : w'.tape = w.tape
  output : w'.output = w.output
  size : w.heap.size ≤ w'.heap.size
  block : ∀ k, k < w.heap.size → k ≠ b → w'.heap[k]? = w.heap[k]?
theorem Upd.refl (b : Nat) (w : World) : Upd b w w := ⟨rfl, rfl, rfl, Nat.le_refl _, fun _ _ _ => rfl⟩
theorem Upd.alloc {b : Nat} {w w' : World} (h : Upd b w w') (o : Obj) : Upd b w (w'.alloc o) := by
  have B : Below w'.heap.size w' (w'.alloc o) := (Below.refl _ _).alloc (Nat.le_refl _) _
  exact ⟨B.os.trans h.os, B.tape.trans h.tape, B.output.trans h.output, Nat.le_trans h.size B.size, fun k hk hn => (B.block k (Nat.lt_of_lt_of_le hk h.size)).trans (h.block k hk hn)⟩
theorem Upd.drew {b : Nat} {w w' : World} (h : Upd b w w') : Upd b w w'.drew := ⟨h.os, h.tape, h.output, h.size, h.block⟩
theorem Upd.put {b : Nat} {w w' : World} (h : Upd b w w') (j : Nat) (u : Value) : Upd b w (w'.setCell ⟨b, j, none⟩ u) :=
  ⟨h.os, h.tape, h.output, by simpa [World.setCell] using h.size, fun k hk hn => (Below.heap_setCell _ _ _ _ (by simpa using hn)).trans (h.block k hk hn)⟩
theorem Upd.new {b : Nat} {w w' : World} (h : Upd b w w') {p : Addr} (hp : w.heap.size ≤ p.block) (u : Value) : Upd b w (w'.setCell p u) :=
  ⟨h.os, h.tape, h.output, by simpa [World.setCell] using h.size, fun k hk hn => (Below.heap_setCell _ _ _ _ (by omega)).trans (h.block k hk hn)⟩
theorem Upd.below {b B : Nat} {w w' : World} (h : Upd b w w') (hB : B ≤ b) (hs : B ≤ w.heap.size) : Below B w w' := ⟨h.os, h.tape, h.output, h.size, fun k hk => h.block k (by omega) (by omega)⟩

/-- The ring in memory: pages from place 0 on, the first that goes, how many wait. -/
def RingAt (w : World) (R : Nat) (l : List (Nat × Nat)) (f c : Nat) : Prop :=
  w.there R 0 26 ∧ w.cell? ⟨R, 24, none⟩ = some (.int .i64 f) ∧ w.cell? ⟨R, 25, none⟩ = some (.int .i64 c) ∧
  ∀ i, i < l.length → w.cell? ⟨R, i * 2, none⟩ = some (.int .i64 ((l.getD i (0, 0)).1 : Nat)) ∧ w.cell? ⟨R, i * 2 + 1, none⟩ = some (.int .i64 ((l.getD i (0, 0)).2 : Nat))
theorem RingAt.same {w w' : World} {R f c : Nat} {l : List (Nat × Nat)} (h : RingAt w R l f c) (e : w'.heap[R]? = w.heap[R]?) : RingAt w' R l f c := by
  have hc : ∀ o, w'.cell? ⟨R, o, none⟩ = w.cell? ⟨R, o, none⟩ := fun o => World.cell?_of_block (a := ⟨R, o, none⟩) e
  have hf : ∀ o, w'.frozen? ⟨R, o, none⟩ = w.frozen? ⟨R, o, none⟩ := fun o => World.frozen?_of_block (a := ⟨R, o, none⟩) e
  obtain ⟨h1, h2, h3, h4⟩ := h
  exact ⟨fun j hj => by rw [hc, hf]; exact h1 j hj, by rw [hc]; exact h2, by rw [hc]; exact h3, fun i hi => by rw [hc, hc]; exact h4 i hi⟩
theorem RingAt.lt {w : World} {R f c : Nat} {l : List (Nat × Nat)} (h : RingAt w R l f c) : R < w.heap.size := World.block_lt_of_cell? _ _ h.2.1
theorem there_put {w : World} {b o n j : Nat} (h : w.there b o n) (u : Value) : (w.setCell ⟨b, j, none⟩ u).there b o n := fun i hi => by
  obtain ⟨h1, h2⟩ := h i hi
  obtain ⟨v, hv⟩ := Option.isSome_iff_exists.1 h1
  exact ⟨by rw [cell_put hv]; rfl, by rw [← h2]; go_simp⟩
theorem RingAt.more {w : World} {R c : Nat} {l : List (Nat × Nat)} (h : RingAt w R l 0 c) (hl : l.length = c) (hc : c < 12) (g p : Nat) :
    RingAt (((w.setCell ⟨R, c * 2, none⟩ (.int .i64 g)).setCell ⟨R, c * 2 + 1, none⟩ (.int .i64 p)).setCell ⟨R, 25, none⟩ (.int .i64 ((c : Int) + 1))) R (l ++ [(g, p)]) 0 (c + 1) := by
  obtain ⟨h1, h2, h3, h4⟩ := h
  refine ⟨there_put (there_put (there_put h1 _) _) _, ?_, ?_, fun i hi => ?_⟩
  · refine (cell_put (cell_put (cell_put h2))).trans ?_
    rw [if_neg (by omega), if_neg (by omega), if_neg (by omega)]
  · refine (cell_put (cell_put (cell_put h3))).trans ?_
    rw [if_pos rfl]; simp
  · simp only [List.length_append, List.length_cons, List.length_nil] at hi
    by_cases e : i = c
    · subst e
      obtain ⟨v0, hv0⟩ := Option.isSome_iff_exists.1 (h1 (i * 2) (by omega)).1
      obtain ⟨v1, hv1⟩ := Option.isSome_iff_exists.1 (h1 (i * 2 + 1) (by omega)).1
      rw [Nat.zero_add] at hv0 hv1
      have eg : (l ++ [(g, p)]).getD i (0, 0) = (g, p) := by
        rw [List.getD_eq_getElem?_getD, List.getElem?_append_right (by omega), hl]
        simp
      rw [eg]
      refine ⟨(cell_put (cell_put (cell_put hv0))).trans ?_, (cell_put (cell_put (cell_put hv1))).trans ?_⟩
      · rw [if_neg (by omega), if_neg (by omega), if_pos rfl]
      · rw [if_neg (by omega), if_pos rfl]
    · obtain ⟨a, b⟩ := h4 i (by omega)
      have eg : (l ++ [(g, p)]).getD i (0, 0) = l.getD i (0, 0) := by
        simp only [List.getD_eq_getElem?_getD]
        rw [List.getElem?_append_left (by omega)]
      rw [eg]
      refine ⟨(cell_put (cell_put (cell_put a))).trans ?_, (cell_put (cell_put (cell_put b))).trans ?_⟩
      · rw [if_neg (by omega), if_neg (by omega), if_neg (by omega)]
      · rw [if_neg (by omega), if_neg (by omega), if_neg (by omega)]
theorem RingAt.less {w : World} {R f c : Nat} {l : List (Nat × Nat)} (h : RingAt w R l f c) (hl : l.length ≤ 12) (f' c' : Nat) :
    RingAt ((w.setCell ⟨R, 24, none⟩ (.int .i64 f')).setCell ⟨R, 25, none⟩ (.int .i64 c')) R l f' c' := by
  obtain ⟨h1, h2, h3, h4⟩ := h
  refine ⟨there_put (there_put h1 _) _, ?_, ?_, fun i hi => ?_⟩
  · refine (cell_put (cell_put h2)).trans ?_
    rw [if_neg (by omega), if_pos rfl]
  · refine (cell_put (cell_put h3)).trans ?_
    rw [if_pos rfl]
  · obtain ⟨a, b⟩ := h4 i hi
    refine ⟨(cell_put (cell_put a)).trans ?_, (cell_put (cell_put b)).trans ?_⟩
    · rw [if_neg (by omega), if_neg (by omega)]
    · rw [if_neg (by omega), if_neg (by omega)]

set_option maxRecDepth 100000 in
set_option maxHeartbeats 2000000 in
theorem implPut (R c g p : Nat) (l : List (Nat × Nat)) (w : World) (h : RingAt w R l 0 c) (hl : l.length = c) (hc : c < 12) :
    Calls Try.prog 146 #[.pointer (some ⟨R, 0, none⟩), .agg #[.int .i64 g, .int .i64 p]] w fun e w' => e = .returned (.tuple #[]) ∧ RingAt w' R (l ++ [(g, p)]) 0 (c + 1) ∧ Upd R w w' := by
  have hR := h.lt
  obtain ⟨h1, h2, h3, h4⟩ := h
  obtain ⟨i0, z0⟩ := h1 (c * 2) (by omega)
  obtain ⟨i1, z1⟩ := h1 (c * 2 + 1) (by omega)
  obtain ⟨_, z2⟩ := h1 25 (by omega)
  rw [Nat.zero_add] at i0 z0 i1 z1 z2
  obtain ⟨v0, hv0⟩ := Option.isSome_iff_exists.1 i0
  obtain ⟨v1, hv1⟩ := Option.isSome_iff_exists.1 i1
  have hci : (c : Int) < 12 := by omega
  have h0c : (0 : Int) ≤ (c : Int) := Int.natCast_nonneg _
  have hR1 : R < w.heap.size + 1 := by omega
  have B1 : Below w.heap.size w (w.alloc (.cells #[.int .i64 g, .int .i64 p] 99)) := (Below.refl _ _).alloc (Nat.le_refl _) _
  have hX := RingAt.more ⟨h1, h2, h3, h4⟩ hl hc g p
  have BX := fun (V : World) => (Below.refl V.heap.size V).alloc (Nat.le_refl _) (.cells #[.int .i64 g, .int .i64 p] 99)
  have HR := hidE ((hX.same ((BX _).block R hX.lt)).same (w' := ((((w.setCell ⟨R, c * 2, none⟩ (.int .i64 g)).setCell ⟨R, c * 2 + 1, none⟩ (.int .i64 p)).setCell ⟨R, 25, none⟩ (.int .i64 ((c : Int) + 1))).alloc (.cells #[.int .i64 g, .int .i64 p] 99)).drew) rfl)
  have HU := hidE (((((Upd.refl R w).put (c * 2) (.int .i64 g)).put (c * 2 + 1) (.int .i64 p)).put 25 (.int .i64 ((c : Int) + 1))).alloc (.cells #[.int .i64 g, .int .i64 p] 99)).drew
  clear h1 h4 i0 i1 B1 hX BX
  rw [show ((0 : Nat) : Int) = 0 from rfl] at h2
  have hne : ¬ c * 2 + 1 = c * 2 := by omega
  have hm2 : (IntKind.i64.wrap (c : Int)).tmod 12 = (c : Int) := by rw [wrap_small _ (by omega) (by omega), Int.tmod_eq_emod_of_nonneg h0c]; omega
  have hc24 : ¬ c * 2 = 25 := by omega
  go_enter Try.func146, Try.ntmps146
  go_wp2_with (fail)
  go_region_with (fail)
  all_goals go_wp2_with fail
  all_goals
    refine bodyPost_end (v := .tuple #[]) (by simp [results, Try.results146, go_sem]) rfl ?_
    exact ⟨rfl, HR.out, HU.out⟩

set_option maxRecDepth 100000 in
set_option maxHeartbeats 2000000 in
theorem implTakeNo (R f : Nat) (l : List (Nat × Nat)) (w : World) (h : RingAt w R l f 0) :
    Calls Try.prog 147 #[.pointer (some ⟨R, 0, none⟩)] w fun e w' => e = .returned (.tuple #[.agg #[.int .i64 0, .int .i64 0], .bool false]) ∧ Below w.heap.size w w' := by
  have hR := h.lt
  obtain ⟨_, _, h3, _⟩ := h
  rw [show ((0 : Nat) : Int) = 0 from rfl] at h3
  have HU := hidE ((Below.refl w.heap.size w).alloc (Nat.le_refl _) (.cells #[.int .i64 0, .int .i64 0] 99))
  go_enter Try.func147, Try.ntmps147
  go_wp2
  refine bodyPost_ret (v := .tuple #[.agg #[.int .i64 0, .int .i64 0], .bool false]) (by simp [results, Try.results147, go_sem, *]) rfl ?_
  exact ⟨rfl, HU.out⟩

set_option maxRecDepth 100000 in
set_option maxHeartbeats 2000000 in
theorem implTake (R f c : Nat) (l : List (Nat × Nat)) (w : World) (h : RingAt w R l f (c + 1)) (hl : l.length ≤ 12) (hf : f < l.length) (hc : c ≤ 12) :
    Calls Try.prog 147 #[.pointer (some ⟨R, 0, none⟩)] w fun e w' => e = .returned (.tuple #[.agg #[.int .i64 ((l.getD f (0, 0)).1 : Nat), .int .i64 ((l.getD f (0, 0)).2 : Nat)], .bool true]) ∧ RingAt w' R l ((f + 1) % 12) c ∧ Upd R w w' := by
  have hR := h.lt
  have hless := fun (W : World) (k : RingAt W R l f (c + 1)) => k.less hl ((f + 1) % 12) c
  have h' := h
  obtain ⟨h1, h2, h3, h4⟩ := h'
  obtain ⟨q0, q1⟩ := h4 f hf
  obtain ⟨_, z24⟩ := h1 24 (by omega)
  obtain ⟨_, z25⟩ := h1 25 (by omega)
  rw [Nat.zero_add] at z24 z25
  have hfi : (f : Int) < 12 := by omega
  have h0f : (0 : Int) ≤ (f : Int) := Int.natCast_nonneg _
  have hci : (c : Int) ≤ 12 := by omega
  have hne : (((c + 1 : Nat) : Int) == 0) = false := by simp; omega
  have hmd : (((f + 1) % 12 : Nat) : Int) = ((f : Int) + 1) % 12 := by simp
  have hsub : ((c + 1 : Nat) : Int) - 1 = (c : Int) := by omega
  obtain ⟨g, hg⟩ : ∃ g, g = (l.getD f (0, 0)).1 := ⟨_, rfl⟩
  obtain ⟨p, hp⟩ : ∃ p, p = (l.getD f (0, 0)).2 := ⟨_, rfl⟩
  rw [← hg] at q0 ⊢
  rw [← hp] at q1 ⊢
  have hX := hless w h
  rw [hmd] at hX
  have B1 := fun (V : World) => (Below.refl V.heap.size V).alloc (Nat.le_refl _) (.cells #[.int .i64 g, .int .i64 p] 99)
  have hX1 := hX.same ((B1 _).block R hX.lt)
  have hX2 := hX1.same ((B1 _).block R hX1.lt)
  have HR := hidE (hX2.same (w' := ((((w.setCell ⟨R, 24, none⟩ (.int .i64 (((f : Int) + 1) % 12))).setCell ⟨R, 25, none⟩ (.int .i64 c)).alloc (.cells #[.int .i64 g, .int .i64 p] 99)).alloc (.cells #[.int .i64 g, .int .i64 p] 99)).drew) rfl)
  have HU := hidE (((((Upd.refl R w).put 24 (.int .i64 (((f : Int) + 1) % 12))).put 25 (.int .i64 c)).alloc (.cells #[.int .i64 g, .int .i64 p] 99)).alloc (.cells #[.int .i64 g, .int .i64 p] 99)).drew
  clear hg hp h1 h4 hX hX1 hX2 B1 h hless
  go_enter Try.func147, Try.ntmps147
  go_wp2_with (fail)
  go_region_with (fail)
  all_goals go_wp2_with fail
  all_goals
    refine bodyPost_ret (v := .tuple #[.agg #[.int .i64 g, .int .i64 p], .bool true]) (by simp [results, Try.results147, go_sem, *]) rfl ?_
    exact ⟨rfl, HR.out, HU.out⟩

theorem ring_new (w : World) (z : Array Value) (hz : z = (List.replicate 26 (Value.int .i64 0)).toArray) : RingAt (w.alloc (.cells z 168)) w.heap.size [] 0 0 := by
  have hth := there_new w z 168
  subst hz
  exact ⟨by simpa using hth, by simp, by simp, fun i hi => by simp at hi⟩
end Go.Proofs.Ytdamdjhnhkmncaa

/-
  What the program's own emptying of a frame does.
-/
set_option linter.unusedSimpArgs false
namespace Go.Proofs.Ytdamdjhnhkmncaa
open Go.RowKit
attribute [local go_sem ↓] Go.wp_at_zero Go.wp_at_succ exec_app exec_lod exec_house exec_mapsA exec_allocL exec_storeL exec_buildL exec_idxM exec_look exec_upd exec_allocH exec_buildH exec_storeH exec_bsL exec_storeQ exec_loadQ exec_idxQ
attribute [local go_sem] bigNext_ok bigSkip_ok

theorem wf_small {z : Int} (h0 : 0 ≤ z) (h7 : z ≤ 7) : (Lit.int .i64 z).wf = true := by
  rcases (by omega : z = 0 ∨ z = 1 ∨ z = 2 ∨ z = 3 ∨ z = 4 ∨ z = 5 ∨ z = 6 ∨ z = 7) with e | e | e | e | e | e | e | e <;> subst e <;> decide
theorem okH_wf {h : Hst} (k : OkH h) : WfGs h.guests.length h.guests := fun i hi p hp => by
  cases hm : (mAt h i p).1
  · have := k.mo i p hi hp hm
    show (Lit.int .i64 (mAt h i p).2.1).wf = true
    rw [this]
    decide
  · obtain ⟨a, b, _⟩ := k.mi i p hi hp hm
    exact wf_small a b
theorem okH_in {h : Hst} (k : OkH h) {g p : Nat} (hg : g < h.guests.length) (hp : p < 6) (hm : ((gOf h g).maps.getD p noM).1 = true) : ∃ F : Nat, F < 8 ∧ ((gOf h g).maps.getD p noM).2.1 = (F : Int) := by
  obtain ⟨a, b, _⟩ := k.mi g p hg hp hm
  refine ⟨((gOf h g).maps.getD p noM).2.1.toNat, ?_, ?_⟩
  · show (mAt h g p).2.1.toNat < 8; omega
  · show (mAt h g p).2.1 = ((mAt h g p).2.1.toNat : Int); omega
theorem own_spots {w : World} {lo c : Nat} {a : Option Addr} {l : List (Nat × Nat)} (h : w.ownsRow lo 99 2 (.slice a l.length c) l.length (spC l)) :
    l.length = 0 ∨ ∃ T, a = some ⟨T, 0, none⟩ ∧ lo ≤ T ∧ T < w.heap.size ∧ ∀ i, i < l.length → w.cell? ⟨T, i * 2, none⟩ = some (.int .i64 ((l.getD i (0, 0)).1 : Nat)) ∧ w.cell? ⟨T, i * 2 + 1, none⟩ = some (.int .i64 ((l.getD i (0, 0)).2 : Nat)) := by
  have hc := h
  obtain ⟨hlen, hd⟩ := h
  rcases hd with ⟨e, h0⟩ | ⟨g, cap, cur, e, hg, hh, hcap, _⟩
  · exact Or.inl h0
  · cases e
    refine Or.inr ⟨g, rfl, hg, (hc.lt g rfl).2, fun i hi => ?_⟩
    have hr := own_range hc
    have key : ∀ (l : List (Nat × Nat)) (i : Nat), i < l.length → (spC l)[i * 2]? = some (.int .i64 ((l.getD i (0, 0)).1 : Nat)) ∧ (spC l)[i * 2 + 1]? = some (.int .i64 ((l.getD i (0, 0)).2 : Nat)) := by
      intro l
      induction l with
      | nil => intro i hi; simp at hi
      | cons x l ih =>
        intro i hi
        cases i with
        | zero => exact ⟨rfl, rfl⟩
        | succ i =>
          have := ih i (by simpa using hi)
          rw [show (i + 1) * 2 = i * 2 + 2 by omega, show i * 2 + 2 + 1 = (i * 2 + 1) + 2 by omega]
          exact this
    obtain ⟨k0, k1⟩ := key l i hi
    have q0 := hr _ _ k0
    have q1 := hr _ _ k1
    rw [Nat.zero_add] at q0 q1
    exact ⟨q0, q1⟩
theorem upd_of {L : Nat} {w w' : World} (hs : w.heap.size ≤ w'.heap.size) (hx : ∀ j, j < w.heap.size → j ≠ L → w'.heap[j]? = w.heap[j]?) (hb : Below L w w') : Upd L w w' := ⟨hb.os, hb.tape, hb.output, hs, hx⟩
theorem Upd.trans {b : Nat} {w w1 w2 : World} (h : Upd b w w1) (k : Upd b w1 w2) : Upd b w w2 := ⟨k.os.trans h.os, k.tape.trans h.tape, k.output.trans h.output, Nat.le_trans h.size k.size, fun j hj hn => (k.block j (Nat.lt_of_lt_of_le hj h.size) hn).trans (h.block j hj hn)⟩
theorem Upd.ofBelow {b : Nat} {w w' : World} (h : Below w.heap.size w w') : Upd b w w' := ⟨h.os, h.tape, h.output, h.size, fun j hj _ => h.block j hj⟩
/-- A block of the call's own has turned. -/
theorem Upd.own {b R : Nat} {w w1 w2 : World} (h : Upd b w w1) (k : Upd R w1 w2) (hR : w.heap.size ≤ R) : Upd b w w2 := ⟨k.os.trans h.os, k.tape.trans h.tape, k.output.trans h.output, Nat.le_trans h.size k.size, fun j hj hn => (k.block j (Nat.lt_of_lt_of_le hj h.size) (by omega)).trans (h.block j hj hn)⟩
theorem HouseW.upd {w w' : World} {B L c R : Nat} {h : Hst} (hW : HouseW w B L c h) (k : Upd R w w') (h1 : B ≠ R) (h2 : L ≠ R) : HouseW w' B L c h := by
  obtain ⟨a1, a2, a3, a4, a5, a6, a7, a8, a9, a10⟩ := hW
  have eB := k.block B a9 h1
  have eL := k.block L a10 h2
  have hs := k.size
  refine ⟨fun j v hj => (World.cell?_of_block (a := ⟨B, 0 + j, none⟩) eB).trans (a1 j v hj), fun j hj => by rw [World.cell?_of_block (a := ⟨B, 0 + j, none⟩) eB, World.frozen?_of_block (a := ⟨B, 0 + j, none⟩) eB]; exact a2 j hj, (lods_block a3 a4 eL (by omega)).1, (lods_block a3 a4 eL (by omega)).2, a5, a6, a7, a8, by omega, by omega⟩

/-- What stands when a page has been taken from the ring, or none was left. -/
def EmpAt (w wr : World) (R B L c : Nat) (h : Hst) (l : List (Nat × Nat)) (t7 t8 : Value) (j : Nat) : Prop :=
  HouseW wr B L c (outAll h (l.take j)) ∧ Upd L w wr ∧ ∃ V, t7 = .pointer (some ⟨V, 0, none⟩) ∧ R < V ∧ V < wr.heap.size ∧ wr.there V 0 2 ∧
    ((j < l.length ∧ t8 = .bool true ∧ wr.cell? ⟨V, 0, none⟩ = some (.int .i64 ((l.getD j (0, 0)).1 : Nat)) ∧ wr.cell? ⟨V, 1, none⟩ = some (.int .i64 ((l.getD j (0, 0)).2 : Nat)) ∧ RingAt wr R l ((j + 1) % 12) (l.length - (j + 1))) ∨ (j = l.length ∧ t8 = .bool false ∧ ∃ f, RingAt wr R l f 0))

/-- What the ring keeps of the count, as the loop's measure. -/
def isT (v : Value) : Nat := match v with | .bool b => (bif b then 1 else 0) | _ => 0
def ringM (wr : World) (R : Nat) (t8 : Value) : Nat := (match wr.cell? ⟨R, 25, none⟩ with | some v => (intOf v).toNat | none => 0) + isT t8
theorem ringM_of {wr : World} {R f c : Nat} {l : List (Nat × Nat)} (h : RingAt wr R l f c) (b : Bool) : ringM wr R (.bool b) = c + (bif b then 1 else 0) := by
  rw [ringM, h.2.2.1]
  simp [intOf, isT]
theorem there2_new {V : World} {b : Nat} {x y : Value} {t : TypeId} (e : V.heap.size = b) : (V.alloc (.cells #[x, y] t)).there b 0 2 := by
  have := there_new V #[x, y] t
  rw [e] at this
  exact this
/-- Behind a page taken, kept in its variable. -/
theorem emp_yes {w w4 w5 : World} {R B L c V j : Nat} {h : Hst} {l : List (Nat × Nat)} (hR : w.heap.size ≤ R) (hB : B < w.heap.size) (hL : L < w.heap.size) (hj : j < l.length) (hH : HouseW w4 B L c (outAll h (l.take j))) (hU : Upd L w w4) (hRV : R < V) (hV : V < w5.heap.size) (hth : w5.there V 0 2) (h5 : Upd R w4 w5) (hr : RingAt w5 R l ((j + 1) % 12) (l.length - (j + 1))) :
    EmpAt w ((w5.setCell ⟨V, 0, none⟩ (.int .i64 ((l.getD j (0, 0)).1 : Nat))).setCell ⟨V, 1, none⟩ (.int .i64 ((l.getD j (0, 0)).2 : Nat))) R B L c h l (.pointer (some ⟨V, 0, none⟩)) (.bool true) j := by
  have hX : Upd V w5 ((w5.setCell ⟨V, 0, none⟩ (.int .i64 ((l.getD j (0, 0)).1 : Nat))).setCell ⟨V, 1, none⟩ (.int .i64 ((l.getD j (0, 0)).2 : Nat))) := ((Upd.refl V w5).put 0 _).put 1 _
  obtain ⟨x0, hx0⟩ := Option.isSome_iff_exists.1 (hth 0 (by omega)).1
  obtain ⟨x1, hx1⟩ := Option.isSome_iff_exists.1 (hth 1 (by omega)).1
  refine ⟨(hH.upd h5 (by omega) (by omega)).upd hX (by omega) (by omega), (hU.own h5 hR).own hX (by omega), V, rfl, hRV, by simpa using hV, there_put (there_put hth _) _, Or.inl ⟨hj, rfl, ?_, ?_, hr.same (hX.block R hr.lt (by omega))⟩⟩
  · refine (cell_put (cell_put hx0)).trans ?_
    rw [if_neg (by omega), if_pos rfl]
  · refine (cell_put (cell_put hx1)).trans ?_
    rw [if_pos rfl]
theorem emp_no {w w4 w5 : World} {R B L c V : Nat} {h : Hst} {l : List (Nat × Nat)} (hR : w.heap.size ≤ R) (hB : B < w.heap.size) (hL : L < w.heap.size) (hH : HouseW w4 B L c (outAll h l)) (hU : Upd L w w4) (hRV : R < V) (hV : V < w5.heap.size) (hth : w5.there V 0 2) (h5 : Below w4.heap.size w4 w5) {f : Nat} (hr : RingAt w5 R l f 0) (x y : Value) :
    EmpAt w ((w5.setCell ⟨V, 0, none⟩ x).setCell ⟨V, 1, none⟩ y) R B L c h l (.pointer (some ⟨V, 0, none⟩)) (.bool false) l.length := by
  have hX : Upd V w5 ((w5.setCell ⟨V, 0, none⟩ x).setCell ⟨V, 1, none⟩ y) := ((Upd.refl V w5).put 0 _).put 1 _
  have h5' : Upd V w4 w5 := Upd.ofBelow h5
  exact ⟨by rw [List.take_length]; exact (hH.upd h5' (by omega) (by omega)).upd hX (by omega) (by omega), (hU.own h5' (by omega)).own hX (by omega), V, rfl, hRV, by simpa using hV, there_put (there_put hth _) _, Or.inr ⟨rfl, rfl, f, hr.same (hX.block R hr.lt (by omega))⟩⟩

set_option maxRecDepth 100000 in
set_option maxHeartbeats 8000000 in
theorem implEmpty (B L c F : Nat) (h : Hst) (w : World) (hW : HouseW w B L c h) (k : OkH h) (hF : F < 8) :
    Calls Try.prog 133 #[.pointer (some ⟨B, 0, none⟩), .int .i64 F] w fun e w' => e = .returned (.tuple #[]) ∧ HouseW w' B L c (outAll h (ten h.guests F)) ∧ Upd L w w' := by
  obtain ⟨W1, hW1⟩ : ∃ W1, W1 = w.alloc (.cells #[.int .i64 0, .int .i64 0, .int .i64 0, .int .i64 0, .int .i64 0, .int .i64 0, .int .i64 0, .int .i64 0, .int .i64 0, .int .i64 0, .int .i64 0, .int .i64 0, .int .i64 0, .int .i64 0, .int .i64 0, .int .i64 0, .int .i64 0, .int .i64 0, .int .i64 0, .int .i64 0, .int .i64 0, .int .i64 0, .int .i64 0, .int .i64 0, .int .i64 0, .int .i64 0] 168) := ⟨_, rfl⟩
  have B1 : Below w.heap.size w W1 := by rw [hW1]; exact (Below.refl _ _).alloc (Nat.le_refl _) _
  have s1 : W1.heap.size = w.heap.size + 1 := by rw [hW1]; simp
  have r1 : RingAt W1 w.heap.size [] 0 0 := by rw [hW1]; exact ring_new w _ rfl
  have k1 := hW.belowK B1
  have hgv := k1.give
  have hl2 := hW.2.2.2.2.2.2.2.1
  have lB := hW.2.2.2.2.2.2.2.2.1
  have lL := hW.2.2.2.2.2.2.2.2.2
  have ht := implTenants L h.guests.length c h.frames h.hand h.guests W1 k.f8 rfl hl2 (fun i hi => (k1.lodAt hi).1) (okH_wf k) k1.2.2.2.2.2.2.2.2.2 (fun i hi => (k1.lodAt hi).2.1)
  have hpl := plc_ten h F
  have hok := fun j => outAll_ok ((ten h.guests F).take j) k (fun x hx => hpl x (List.mem_of_mem_take hx))
  have hl12 : (ten h.guests F).length ≤ 12 := by have := tenG_len h.guests h.guests.length F; show (tenG h.guests h.guests.length F).length ≤ 12; omega
  have hwF : (Lit.int .i64 (F : Int)).wf = true := wf_small (by omega) (by omega)
  generalize hhs : (houseC h.frames (.slice (some ⟨L, 0, none⟩) h.guests.length c) h.hand).toArray = hs at *
  rw [hW1] at hgv
  go_enter Try.func133, Try.ntmps133
  go_wp2_with (fail)
  rw [← hW1]
  clear hW1
  refine ht.mono ?_
  rintro e w2 ⟨r, rfl, hr, hWho, B2⟩
  obtain ⟨a, cw, hlk0, hown, _⟩ := hWho.look (F : Int) hwF
  have hrl := hWho.lt
  have hlk : lookRun Try.prog 137 (.map (some r)) (.int .i64 (F : Int)) w2 = .ok (.slice a (ten h.guests F).length cw) w2 := hlk0 w2 rfl
  have hsp := own_spots hown
  have s2 := B2.size
  have k2 := k1.belowK B2
  have r2 := r1.same (B2.block _ (by omega))
  have U2 := hidE ((Upd.ofBelow (b := L) B1).trans (Upd.ofBelow B2))
  have Hok := hidE hok
  clear ht hWho hlk0 hown B2 hgv k1 r1 hhs hok
  generalize hten : ten h.guests F = l at *
  go_wp2_with (fail)
  go_loopw [6, 16] (fun _ i wr => ∃ q : Nat, q ≤ l.length ∧ i = .int .i64 q ∧ Hid (RingAt wr w.heap.size (l.take q) 0 q) ∧ Hid (Upd w.heap.size w2 wr)) (fun _ i _ => l.length - (intOf i).toNat)
  case atStart => exact ⟨0, Nat.zero_le _, rfl, r2, Upd.refl _ _⟩
  case round =>
    clear hlk
    obtain ⟨q, hq, rfl, HR, HU⟩ := hrel
    have sU := HU.out.size
    have hlqi : (l.length : Int) ≤ 12 := by omega
    by_cases hql : q < l.length
    · have hqi : (q : Int) < (l.length : Int) := by omega
      rcases hsp with h0 | ⟨T, rfl, hT1, hT2, hT⟩
      · omega
      obtain ⟨q0, q1⟩ := hT q hql
      have q0 := (World.cell?_of_block (a := ⟨T, q * 2, none⟩) (HU.out.block T hT2 (by omega))).trans q0
      have q1 := (World.cell?_of_block (a := ⟨T, q * 2 + 1, none⟩) (HU.out.block T hT2 (by omega))).trans q1
      have lT : T < wr.heap.size := by omega
      have htk : l.take (q + 1) = l.take q ++ [((l.getD q (0, 0)).1, (l.getD q (0, 0)).2)] := by
        rw [List.take_succ_eq_append_getElem hql, getD_lt hql]
      obtain ⟨g, hg⟩ : ∃ g, g = (l.getD q (0, 0)).1 := ⟨_, rfl⟩
      obtain ⟨p, hp⟩ : ∃ p, p = (l.getD q (0, 0)).2 := ⟨_, rfl⟩
      rw [← hg] at q0 htk
      rw [← hp] at q1 htk
      have Htk := hidE htk
      clear hg hp htk
      have BA : Below wr.heap.size wr (wr.alloc (.cells #[.int .i64 g, .int .i64 p] 99)) := (Below.refl _ _).alloc (Nat.le_refl _) _
      have hput := implPut w.heap.size q g p (l.take q) (wr.alloc (.cells #[.int .i64 g, .int .i64 p] 99)) (HR.out.same (BA.block _ HR.out.lt)) (by rw [List.length_take]; omega) (by omega)
      have HUA := hidE (HU.out.alloc (.cells #[.int .i64 g, .int .i64 p] 99))
      clear BA
      go_wp2_with (fail)
      refine hput.mono ?_
      rintro e w3 ⟨rfl, hR3, hU3⟩
      have HR3 := hidE hR3
      have HU3 := hidE (HUA.out.trans hU3)
      clear hput hR3 hU3
      go_wp2
      go_roundw
      case rel => exact ⟨q + 1, by omega, by go_num, by rw [Htk.out]; exact HR3.out, HU3.out⟩
      case measure => simp [intOf]; omega
    · obtain rfl : q = l.length := by omega
      have hRl : RingAt wr w.heap.size l 0 l.length := by
        have := HR.out
        rwa [List.take_length] at this
      have hH2 : HouseW wr B L c (outAll h (l.take 0)) := k2.upd HU.out (by omega) (by omega)
      have hUL := (U2.out.own HU.out (Nat.le_refl _))
      have hqq : ¬ (l.length : Int) < (l.length : Int) := by omega
      -- the first page, or none
      have hfirst : ∃ b : Bool, ∃ g p : Nat, Hid (Calls Try.prog 147 #[.pointer (some ⟨w.heap.size, 0, none⟩)] wr fun e w' => e = .returned (.tuple #[.agg #[.int .i64 (g : Int), .int .i64 (p : Int)], .bool b]) ∧ wr.heap.size ≤ w'.heap.size ∧ ∃ j, j ≤ l.length ∧ EmpAt w (w'.alloc (.cells #[.int .i64 (g : Int), .int .i64 (p : Int)] 99)) w.heap.size B L c h l (.pointer (some ⟨w'.heap.size, 0, none⟩)) (.bool b) j) := by
        rcases Nat.eq_zero_or_pos l.length with h0 | hp
        · have hl0 : l = [] := List.length_eq_zero_iff.1 h0
          refine ⟨false, 0, 0, (implTakeNo w.heap.size 0 l wr (by have := hRl; rw [h0] at this; exact this)).mono ?_⟩
          rintro e w' ⟨rfl, hB'⟩
          have BA : Below w'.heap.size w' (w'.alloc (.cells #[.int .i64 0, .int .i64 0] 99)) := (Below.refl _ _).alloc (Nat.le_refl _) _
          have hsz := hB'.size
          refine ⟨rfl, hB'.size, 0, Nat.zero_le _, ?_⟩
          have hr0 := (hRl.same (hB'.block _ hRl.lt)).same (BA.block _ (by omega))
          exact ⟨(hH2.belowK hB').belowK BA, hUL.trans ((Upd.ofBelow hB').trans (Upd.ofBelow BA)), _, rfl, by omega, by simp, there2_new rfl, Or.inr ⟨by rw [hl0]; rfl, rfl, 0, by rw [h0] at hr0; exact hr0⟩⟩
        · obtain ⟨n', hn'⟩ : ∃ n', l.length = n' + 1 := ⟨l.length - 1, by omega⟩
          refine ⟨true, (l.getD 0 (0, 0)).1, (l.getD 0 (0, 0)).2, (implTake w.heap.size 0 n' l wr (by rw [← hn']; exact hRl) hl12 hp (by omega)).mono ?_⟩
          rintro e w' ⟨rfl, hr', hU'⟩
          have BA : Below w'.heap.size w' (w'.alloc (.cells #[.int .i64 ((l.getD 0 (0, 0)).1 : Nat), .int .i64 ((l.getD 0 (0, 0)).2 : Nat)] 99)) := (Below.refl _ _).alloc (Nat.le_refl _) _
          have hsz := hU'.size
          refine ⟨rfl, hU'.size, 0, Nat.zero_le _, ?_⟩
          have hr0 := hr'.same (BA.block _ hr'.lt)
          exact ⟨(hH2.upd hU' (by omega) (by omega)).belowK BA, (hUL.own hU' (Nat.le_refl _)).trans (Upd.ofBelow BA), _, rfl, by omega, by simp, there2_new rfl, Or.inl ⟨hp, rfl, by simp, by simp, by rw [show l.length - (0 + 1) = n' by omega]; exact hr0⟩⟩
      obtain ⟨b, g, p, hfirst⟩ := hfirst
      have hf := hfirst.out
      clear hfirst hRl hH2 hUL HR HU hsp r2 k2
      go_wp2_with (fail)
      refine hf.mono ?_
      rintro e w3 ⟨rfl, hs3, j, hj, hE⟩
      have HE := hidE hE
      clear hf hE
      go_wp2_with (fail)
      go_loopw [7, 8] (fun t7 t8 wr => ∃ j, j ≤ l.length ∧ Hid (EmpAt w wr w.heap.size B L c h l t7 t8 j)) (fun _ t8 wr => ringM wr w.heap.size t8)
      case atStart => exact ⟨j, hj, HE.out⟩
      case round =>
        clear HE hj
        obtain ⟨j, hj, HE⟩ := hrel
        obtain ⟨hH, hU, V, rfl, hRV, hV, hth, hd⟩ := HE.out
        rcases hd with ⟨hjl, rfl, q0, q1, hr⟩ | ⟨hjl, rfl, f, hr⟩
        · have hmem : l.getD j (0, 0) ∈ l := by rw [getD_lt hjl]; exact List.getElem_mem hjl
          obtain ⟨hg, hp⟩ := hpl _ hmem
          obtain ⟨i1, i2, _⟩ := Hok.out j
          have hM := hidE (ringM_of hr true)
          have hto := implTakeOut B L c (l.getD j (0, 0)).1 (l.getD j (0, 0)).2 (outAll h (l.take j)) wr hH (by rw [i2]; exact hg) hp (fun hm => okH_in i1 (by rw [i2]; exact hg) hp hm)
          have hnext : outP (outAll h (l.take j)) (l.getD j (0, 0)).1 (l.getD j (0, 0)).2 = outAll h (l.take (j + 1)) := by
            rw [List.take_succ_eq_append_getElem hjl, ← getD_lt (d := (0, 0)) hjl]
            exact (outAll_snoc h (l.take j) _ _).symm
          rw [hnext] at hto
          have hmv : ∀ W3 : World, HouseW W3 B L c (outAll h (l.take (j + 1))) → Upd L wr W3 → ∃ b : Bool, ∃ g' p' : Nat, Hid (∀ W4, W4 = W3.alloc (.cells #[.int .i64 ((l.getD j (0, 0)).1 : Nat), .int .i64 ((l.getD j (0, 0)).2 : Nat)] 99) → Calls Try.prog 147 #[.pointer (some ⟨w.heap.size, 0, none⟩)] W4 fun e w' => e = .returned (.tuple #[.agg #[.int .i64 (g' : Int), .int .i64 (p' : Int)], .bool b]) ∧ (∃ v0, w'.cell? ⟨W3.heap.size, 0, none⟩ = some v0) ∧ (∃ v1, w'.cell? ⟨W3.heap.size, 1, none⟩ = some v1) ∧ w'.frozen? ⟨W3.heap.size, 0, none⟩ = false ∧ w'.frozen? ⟨W3.heap.size, 1, none⟩ = false ∧ W3.heap.size < w'.heap.size ∧
              ∃ j', j' ≤ l.length ∧ Hid (EmpAt w ((w'.setCell ⟨W3.heap.size, 0, none⟩ (.int .i64 (g' : Int))).setCell ⟨W3.heap.size, 1, none⟩ (.int .i64 (p' : Int))) w.heap.size B L c h l (.pointer (some ⟨W3.heap.size, 0, none⟩)) (.bool b) j' ∧ ringM ((w'.setCell ⟨W3.heap.size, 0, none⟩ (.int .i64 (g' : Int))).setCell ⟨W3.heap.size, 1, none⟩ (.int .i64 (p' : Int))) w.heap.size (.bool b) < l.length - (j + 1) + 1)) := fun W3 hH3 hU3 => by
            have hs3 := hU3.size
            have hr3 := hr.same (hU3.block _ hr.lt (by omega))
            have hsr := hr.lt
            by_cases hj1 : j + 1 < l.length
            · obtain ⟨c', hc'⟩ : ∃ c', l.length - (j + 1) = c' + 1 := ⟨l.length - (j + 1) - 1, by omega⟩
              refine ⟨true, (l.getD (j + 1) (0, 0)).1, (l.getD (j + 1) (0, 0)).2, fun W4 hW4 => ?_⟩
              have BA : Below W3.heap.size W3 W4 := by rw [hW4]; exact (Below.refl _ _).alloc (Nat.le_refl _) _
              have hth4 : W4.there W3.heap.size 0 2 := by rw [hW4]; exact there2_new rfl
              have hsA : W4.heap.size = W3.heap.size + 1 := by rw [hW4]; simp
              have hr4 := hr3.same (BA.block _ hr3.lt)
              rw [Nat.mod_eq_of_lt (by omega), hc'] at hr4
              refine (implTake w.heap.size (j + 1) c' l W4 hr4 hl12 hj1 (by omega)).mono ?_
              rintro e w' ⟨rfl, hr5, hU5⟩
              have hs5 := hU5.size
              have hth5 : w'.there W3.heap.size 0 2 := fun i hi => by
                rw [World.cell?_of_block (a := ⟨W3.heap.size, 0 + i, none⟩) (hU5.block W3.heap.size (by omega) (by omega)), World.frozen?_of_block (a := ⟨W3.heap.size, 0 + i, none⟩) (hU5.block W3.heap.size (by omega) (by omega))]
                exact hth4 i hi
              have hE := emp_yes (V := W3.heap.size) (Nat.le_refl _) lB lL hj1 (hH3.belowK BA) ((hU.trans hU3).trans (Upd.ofBelow BA)) (by omega) (by omega) hth5 hU5 (by rw [show l.length - (j + 1 + 1) = c' by omega]; exact hr5)
              refine ⟨rfl, Option.isSome_iff_exists.1 (hth5 0 (by omega)).1, Option.isSome_iff_exists.1 (hth5 1 (by omega)).1, (hth5 0 (by omega)).2, (hth5 1 (by omega)).2, by omega, j + 1, by omega, hE, ?_⟩
              rw [ringM_of (hr5.same (by rw [Below.heap_setCell _ _ _ _ (by simp; omega), Below.heap_setCell _ _ _ _ (by simp; omega)])) true]
              simp
              omega
            · have hjn : l.length = j + 1 := by omega
              refine ⟨false, 0, 0, fun W4 hW4 => ?_⟩
              have BA : Below W3.heap.size W3 W4 := by rw [hW4]; exact (Below.refl _ _).alloc (Nat.le_refl _) _
              have hth4 : W4.there W3.heap.size 0 2 := by rw [hW4]; exact there2_new rfl
              have hsA : W4.heap.size = W3.heap.size + 1 := by rw [hW4]; simp
              have hr4 := hr3.same (BA.block _ hr3.lt)
              rw [show l.length - (j + 1) = 0 by omega] at hr4
              refine (implTakeNo w.heap.size _ l W4 hr4).mono ?_
              rintro e w' ⟨rfl, hB5⟩
              have hs5 := hB5.size
              have hr5 := hr4.same (hB5.block _ hr4.lt)
              have hth5 : w'.there W3.heap.size 0 2 := there_below hth4 hB5 (by omega)
              have hH3' : HouseW W3 B L c (outAll h l) := by
                have := hH3
                rwa [← hjn, List.take_length] at this
              have hE := emp_no (V := W3.heap.size) (Nat.le_refl _) lB lL (hH3'.belowK BA) ((hU.trans hU3).trans (Upd.ofBelow BA)) (by omega) (by omega) hth5 hB5 hr5 (.int .i64 0) (.int .i64 0)
              refine ⟨rfl, Option.isSome_iff_exists.1 (hth5 0 (by omega)).1, Option.isSome_iff_exists.1 (hth5 1 (by omega)).1, (hth5 0 (by omega)).2, (hth5 1 (by omega)).2, by omega, l.length, Nat.le_refl _, hE, ?_⟩
              rw [ringM_of (hr5.same (by rw [Below.heap_setCell _ _ _ _ (by simp; omega), Below.heap_setCell _ _ _ _ (by simp; omega)])) false]
              simp
          have Hmv := hidE hmv
          have lV := hV
          have hVL : V ≠ L := by omega
          have hRL : w.heap.size ≠ L := by omega
          clear hr hH hmem hnext i1 i2 hmv HE
          generalize (l.getD j (0, 0)).1 = g at *
          generalize (l.getD j (0, 0)).2 = p at *
          go_wp2_with (fail)
          refine hto.mono ?_
          rintro e W3 ⟨rfl, hH3, hs3, hx3, hb3⟩
          have U3 := upd_of hs3 hx3 hb3
          obtain ⟨b, g', p', hm⟩ := Hmv.out W3 hH3 U3
          have q0 := (World.cell?_of_block (a := ⟨V, 0, none⟩) (U3.block V hV hVL)).trans q0
          have q1 := (World.cell?_of_block (a := ⟨V, 1, none⟩) (U3.block V hV hVL)).trans q1
          have lV3 : V < W3.heap.size := by omega
          have hm' := hm.out _ rfl
          clear hto hH3 hs3 hx3 hb3 U3 Hmv hm hU hth
          go_wp2_with (fail)
          refine hm'.mono ?_
          rintro e w5 ⟨rfl, ⟨v0, hv0⟩, ⟨v1, hv1⟩, f0, f1, l5, j', hj', HE⟩
          clear hm'
          go_wp2
          go_roundw
          case rel => exact ⟨j', hj', HE.out.1⟩
          case measure =>
            show ringM _ _ _ < ringM _ _ _
            rw [hM.out]
            exact HE.out.2
        · go_wp2
          refine bodyPost_end (v := .tuple #[]) (by simp [results, Try.results133, go_sem]) rfl ?_
          rw [hjl, List.take_length] at hH
          exact ⟨rfl, by rw [hten]; exact hH, hU⟩
end Go.Proofs.Ytdamdjhnhkmncaa

/-
  What the program's own making of room does.
-/
set_option linter.unusedSimpArgs false
namespace Go.Proofs.Ytdamdjhnhkmncaa
open Go.RowKit
attribute [local go_sem ↓] Go.wp_at_zero Go.wp_at_succ exec_app exec_lod exec_house exec_mapsA exec_allocL exec_storeL exec_buildL exec_idxM exec_look exec_upd exec_allocH exec_buildH exec_storeH exec_bsL exec_storeQ exec_loadQ exec_idxQ
attribute [local go_sem] bigNext_ok bigSkip_ok

/-- All old blocks but two are as they were. -/
structure Upd2 (a b : Nat) (w w' : World) : Prop where
  os : w'.os = w.os
  tape : w'.tape = w.tape
  output : w'.output = w.output
  size : w.heap.size ≤ w'.heap.size
  block : ∀ k, k < w.heap.size → k ≠ a → k ≠ b → w'.heap[k]? = w.heap[k]?
theorem Upd2.refl (a b : Nat) (w : World) : Upd2 a b w w := ⟨rfl, rfl, rfl, Nat.le_refl _, fun _ _ _ _ => rfl⟩
theorem Upd2.trans {a b : Nat} {w w1 w2 : World} (h : Upd2 a b w w1) (k : Upd2 a b w1 w2) : Upd2 a b w w2 := ⟨k.os.trans h.os, k.tape.trans h.tape, k.output.trans h.output, Nat.le_trans h.size k.size, fun j hj h1 h2 => (k.block j (Nat.lt_of_lt_of_le hj h.size) h1 h2).trans (h.block j hj h1 h2)⟩
theorem Upd2.ofBelow {a b : Nat} {w w' : World} (h : Below w.heap.size w w') : Upd2 a b w w' := ⟨h.os, h.tape, h.output, h.size, fun j hj _ _ => h.block j hj⟩
theorem Upd2.right {a b : Nat} {w w' : World} (h : Upd b w w') : Upd2 a b w w' := ⟨h.os, h.tape, h.output, h.size, fun j hj _ h2 => h.block j hj h2⟩
theorem Upd2.left {a b : Nat} {w w' : World} (h : Upd a w w') : Upd2 a b w w' := ⟨h.os, h.tape, h.output, h.size, fun j hj h1 _ => h.block j hj h1⟩
theorem Upd2.below {a b N : Nat} {w w' : World} (h : Upd2 a b w w') (ha : N ≤ a) (hb : N ≤ b) (hs : N ≤ w.heap.size) : Below N w w' := ⟨h.os, h.tape, h.output, h.size, fun k hk => h.block k (by omega) (by omega) (by omega)⟩

theorem outP_setHand (h : Hst) (z : Int) (g p : Nat) : outP (setHand h z) g p = setHand (outP h g p) z := by
  have e1 : gOf (setHand h z) g = gOf h g := rfl
  rw [outP, outP, e1]
  cases ((gOf h g).maps.getD p noM).1 <;> rfl
theorem outAll_setHand : ∀ (l : List (Nat × Nat)) (h : Hst) (z : Int), outAll (setHand h z) l = setHand (outAll h l) z
  | [], _, _ => rfl
  | x :: l, h, z => by
    show outAll (outP (setHand h z) x.1 x.2) l = setHand (outAll (outP h x.1 x.2) l) z
    rw [outP_setHand, outAll_setHand l]
theorem HouseW.hand {w : World} {B L c : Nat} {h : Hst} (hW : HouseW w B L c h) (z : Int) : HouseW (w.setCell ⟨B, 33, none⟩ (.int .i64 z)) B L c (setHand h z) := by
  obtain ⟨h1, h2, h3, h4, h5, h6, h7, h8, h9, h10⟩ := hW
  have l1 : (sheetsC h.frames).length = 32 := by rw [sheetsC_len, h6]
  have r1 := range_left h1
  have r2 := range_right h1 l1
  have e0 : w.setCell ⟨B, 33, none⟩ (.int .i64 z) = w.setCells B 33 [.int .i64 z] := rfl
  have hne : B ≠ L := h5
  have blk : (w.setCell ⟨B, 33, none⟩ (.int .i64 z)).heap[L]? = w.heap[L]? := Below.heap_setCell _ _ _ _ (by simpa using Ne.symm hne)
  refine ⟨?_, there_put h2 _, (lods_block h3 h4 blk (by simpa using h10)).1, (lods_block h3 h4 blk (by simpa using h10)).2, h5, h6, h7, h8, by simpa using h9, by simpa using h10⟩
  show (w.setCell ⟨B, 33, none⟩ (.int .i64 z)).rangeAt B 0 (sheetsC h.frames ++ [.slice (some ⟨L, 0, none⟩) h.guests.length c, .int .i64 z])
  have k32 := r2 0 _ rfl
  have k33 := r2 1 _ rfl
  refine range_join l1 ?_ ?_
  · rw [e0]
    exact World.rangeAt_setCells_apart r1 _ _ _ (Or.inr (Or.inl (by omega)))
  · intro j v hj
    match j, hj with
    | 0, hj =>
      simp at hj
      subst hj
      exact cellk_else k32 (by decide)
    | 1, hj =>
      simp at hj
      subst hj
      exact cellk_same k33
theorem HouseW.handAt {w : World} {B L c : Nat} {h : Hst} (hW : HouseW w B L c h) : w.cell? ⟨B, 33, none⟩ = some (.int .i64 h.hand) ∧ w.frozen? ⟨B, 33, none⟩ = false := by
  obtain ⟨h1, h2, h3, h4, h5, h6, h7, h8, h9, h10⟩ := hW
  have l1 : (sheetsC h.frames).length = 32 := by rw [sheetsC_len, h6]
  have r2 := range_right h1 l1
  have t := (h2 33 (by omega)).2
  exact ⟨r2 1 _ rfl, t⟩

set_option maxRecDepth 100000 in
set_option maxHeartbeats 4000000 in
theorem implRoom (B L c : Nat) (h : Hst) (w : World) (hW : HouseW w B L c h) (k : OkH h) :
    Calls Try.prog 103 #[.pointer (some ⟨B, 0, none⟩)] w fun e w' => e = .returned (.int .i64 (roomF h)) ∧ HouseW w' B L c (roomH h) ∧ Upd2 B L w w' := by
  have hff := implFirstFree B L c h w hW (okH_wf k) (fun i hi => (k.six i hi).1)
  have h0 := k.h0
  have h7 := k.h7
  obtain ⟨F, hF⟩ := Int.eq_ofNat_of_zero_le h0
  have hrm : (0 ≤ firstH h → (roomF h : Int) = firstH h ∧ roomH h = h) ∧ (¬ 0 ≤ firstH h → roomF h = F ∧ roomH h = setHand (outAll h (ten h.guests F)) (((F : Int) + 1) % 8)) := by
    refine ⟨fun e => ?_, fun e => ?_⟩
    · have hd : decide (firstH h < 0) = false := by simp; omega
      rw [roomF, roomH, hd, cond_false, cond_false]
      exact ⟨by omega, rfl⟩
    · have hd : decide (firstH h < 0) = true := by simp; omega
      obtain ⟨n0, n7⟩ := nextHand_ok k
      rw [roomF, roomH, hd, cond_true, cond_true]
      refine ⟨by omega, ?_⟩
      have := clrH_ten (okH_hand k n0 n7) h.hand
      rw [show (setHand h (nextHand h.hand)).guests = h.guests from rfl] at this
      rw [this, outAll_setHand, hF]
      rfl
  have hF8 : F < 8 := by omega
  have Hrm := hidE hrm
  have HW := hidE hW
  cases hd : decide (0 ≤ firstH h)
  · have hneg : ¬ 0 ≤ firstH h := by simpa using hd
    obtain ⟨e1, e2⟩ := hrm.2 hneg
    rw [e1, e2]
    rw [hd] at hff
    have hemp := fun W (k2 : HouseW W B L c h) => implEmpty B L c F h W k2 k hF8
    clear hrm e1 e2
    go_enter Try.func103, Try.ntmps103
    go_wp2_with (fail)
    refine hff.mono ?_
    rintro e w1 ⟨x, rfl, _, B1⟩
    have k1 := hW.belowK B1
    obtain ⟨q, _⟩ := k1.handAt
    rw [hF] at q
    have lB1 := k1.2.2.2.2.2.2.2.2.1
    have hem1 := hemp w1 k1
    have HB1 := hidE (Upd2.ofBelow (a := B) (b := L) B1)
    have hFi : (F : Int) < 8 := by omega
    have h0F : (0 : Int) ≤ (F : Int) := Int.natCast_nonneg _
    clear hff B1 hemp k1
    go_wp2_with (fail)
    refine hem1.mono ?_
    rintro e w2 ⟨rfl, k2, U2⟩
    obtain ⟨q2, f2⟩ := k2.handAt
    have lB2 := k2.2.2.2.2.2.2.2.2.1
    have k3 := hidE (k2.hand (((F : Int) + 1) % 8))
    have HU := hidE ((HB1.out.trans (Upd2.right U2)).trans (Upd2.left ((Upd.refl B w2).put 33 (.int .i64 (((F : Int) + 1) % 8)))))
    clear hem1 k2 U2
    go_wp2
    go_ret
    exact ⟨rfl, k3.out, HU.out⟩
  · have hpos : 0 ≤ firstH h := by simpa using hd
    obtain ⟨e1, e2⟩ := hrm.1 hpos
    rw [e2]
    rw [hd] at hff
    have HE := hidE e1
    clear hrm e1 e2
    go_enter Try.func103, Try.ntmps103
    go_wp2_with (fail)
    refine hff.mono ?_
    rintro e w1 ⟨x, rfl, hx, B1⟩
    have hxr := hidE (show x = (roomF h : Int) by rw [HE.out]; exact hx hpos)
    have HB1 := hidE B1
    clear hff hx B1
    go_wp2
    go_ret
    exact ⟨by rw [hxr.out]; rfl, HW.out.belowK HB1.out, Upd2.ofBelow HB1.out⟩
end Go.Proofs.Ytdamdjhnhkmncaa

/-
  What the program's own bringIn does.
-/
set_option linter.unusedSimpArgs false
namespace Go.Proofs.Ytdamdjhnhkmncaa
open Go.RowKit
attribute [local go_sem ↓] Go.wp_at_zero Go.wp_at_succ exec_app exec_lod exec_house exec_mapsA exec_allocL exec_storeL exec_buildL exec_idxM exec_look exec_upd exec_allocH exec_buildH exec_storeH exec_bsL exec_storeQ exec_loadQ exec_idxQ
attribute [local go_sem] bigNext_ok bigSkip_ok

set_option maxRecDepth 100000 in
set_option maxHeartbeats 8000000 in
theorem implBringIn (B L c g p : Nat) (h : Hst) (w : World) (hW : HouseW w B L c h) (k : OkH h) (hg : g < h.guests.length) (hp : p < 6) :
    Calls Try.prog 64 #[.pointer (some ⟨B, 0, none⟩), .agg #[.int .i64 g, .int .i64 p]] w fun e w' => e = .returned (.tuple #[]) ∧ HouseW w' B L c (inP h g p) ∧ Upd2 B L w w' := by
  obtain ⟨W2, hW2⟩ : ∃ W2, W2 = w.alloc (.cells #[.int .i64 g, .int .i64 p] 99) := ⟨_, rfl⟩
  have B2 : Below w.heap.size w W2 := by rw [hW2]; exact (Below.refl _ _).alloc (Nat.le_refl _) _
  have s2 : W2.heap.size ≤ w.heap.size + 1 ∧ w.heap.size + 1 ≤ W2.heap.size := by rw [hW2]; simp
  have a2 : W2.cell? ⟨w.heap.size, 0, none⟩ = some (.int .i64 g) ∧ W2.cell? ⟨w.heap.size, 1, none⟩ = some (.int .i64 p) := by rw [hW2]; simp
  have kW := hW.belowK B2
  have lB0 : B < w.heap.size := hW.2.2.2.2.2.2.2.2.1
  have lL0 : L < w.heap.size := hW.2.2.2.2.2.2.2.2.2
  have lB : B < W2.heap.size := by omega
  have lL : L < W2.heap.size := by omega
  have l0 : w.heap.size < W2.heap.size := by omega
  have hlods := kW.lods.1
  have hgi : (g : Int) < (h.guests.length : Int) := by omega
  have hpi : (p : Int) < 6 := by omega
  have h0g : (0 : Int) ≤ (g : Int) := Int.natCast_nonneg _
  have h0p : (0 : Int) ≤ (p : Int) := Int.natCast_nonneg _
  obtain ⟨a20, a21⟩ := a2
  obtain ⟨hsz, hr, hth⟩ := kW.lodAt hg
  obtain ⟨e0, _, _⟩ := lod_maps hr p (by rw [hsz.1]; exact hp)
  rw [show ((false, 0, false) : E3) = noM from rfl, show h.guests.getD g noG = gOf h g from rfl] at e0
  have hrm := fun W (k2 : HouseW W B L c h) => implRoom B L c h W k2 k
  obtain ⟨i1, i2, i3, i4, i5, i6, _⟩ := room_ok k
  have hin := fun (e : ((gOf h g).maps.getD p noM).1 = true) => (show inP h g p = h by rw [inP, e]; rfl)
  have hout := fun (e : ((gOf h g).maps.getD p noM).1 = false) => (show inP h g p = bringH (roomH h) g p (roomF h) by rw [inP, e]; rfl)
  have hgr : g < (roomH h).guests.length := by rw [i2]; exact hg
  have hlr : (roomH h).guests.length = h.guests.length := i2
  have HW := hidE hW
  have Hi4 := hidE i4
  generalize hlg : h.guests.length = lg at *
  generalize inP h g p = hfin at *
  generalize roomH h = h3 at *
  generalize roomF h = F at *
  generalize ((gOf h g).maps.getD p noM).1 = mi at *
  clear hW i1 i2 i3 i5 i6 hr hth hsz
  go_enter Try.func64, Try.ntmps64
  go_wp2_with (fail)
  rw [← hW2]
  clear hW2
  go_quiet (fail)
  go_wp2_with (fail)
  have B3 : Below W2.heap.size W2 (W2.drewN nq) := below_drewN (Below.refl _ _) _
  generalize W2.drewN nq = W3 at B3 ⊢
  have a30 := (B3.cell (p := ⟨w.heap.size, 0, none⟩) l0).trans a20
  have a31 := (B3.cell (p := ⟨w.heap.size, 1, none⟩) l0).trans a21
  have e30 := (B3.cell (p := ⟨L, g * 66 + p * 3, none⟩) lL).trans e0
  have k3 := hidE (kW.belowK B3)
  have B23 := hidE (B2.trans (B3.mono (by omega)))
  have s3 := B3.size
  clear a20 a21 e0 kW B2 B3 hlods
  go_quiet (fail)
  go_wp2_with (fail)
  · rename_i hm
    refine bodyPost_ret (v := .tuple #[]) (by simp [results, Try.results64, go_sem]) rfl ?_
    have BD : Below W3.heap.size W3 (W3.drewN nq) := below_drewN (Below.refl _ _) _
    rw [hin hm]
    exact ⟨rfl, k3.out.belowK BD, Upd2.ofBelow (B23.out.trans (BD.mono (by omega)))⟩
  have hm : mi = false := by first | assumption | exact Bool.eq_false_iff.mpr (by assumption)
  have hout := hout hm
  have B4 : Below W3.heap.size W3 (W3.drewN nq) := below_drewN (Below.refl _ _) _
  generalize W3.drewN nq = W4 at B4 ⊢
  have s4 := B4.size
  have k4 := k3.out.belowK B4
  have U4 := Upd2.ofBelow (a := B) (b := L) (B23.out.trans (B4.mono (by omega)))
  have a40 := (B4.cell (p := ⟨w.heap.size, 0, none⟩) (show w.heap.size < W3.heap.size by omega)).trans a30
  have a41 := (B4.cell (p := ⟨w.heap.size, 1, none⟩) (show w.heap.size < W3.heap.size by omega)).trans a31
  have hrm4 := hrm W4 k4
  clear hrm k3 B23 a30 a31 e30 B4 hin k4
  refine hrm4.mono ?_
  rintro e w5 ⟨rfl, k5, U5⟩
  have s5 := U5.size
  have l5 : w.heap.size < w5.heap.size := by omega
  have a50 := (World.cell?_of_block (a := ⟨w.heap.size, 0, none⟩) (U5.block w.heap.size (by omega) (by omega) (by omega))).trans a40
  have a51 := (World.cell?_of_block (a := ⟨w.heap.size, 1, none⟩) (U5.block w.heap.size (by omega) (by omega) (by omega))).trans a41
  have HU5 := hidE (U4.trans U5)
  have hF8 := Hi4.out
  have hFi : (F : Int) < 8 := by omega
  have h0f : (0 : Int) ≤ (F : Int) := Int.natCast_nonneg _
  obtain ⟨hsz5, hr5, hth5⟩ := k5.lodAt hgr
  have r1 := range_right hr5 (show (flat (h3.guests.getD g noG).maps).length = 18 by rw [flat_len, hsz5.1])
  obtain ⟨z0, z1, z2, z3⟩ := range_sheets (range_left r1) p (by rw [hsz5.2.1]; exact hp)
  have hz4 := hsz5.2.2.1 p hp
  have htB := k5.2.1
  have t0 := htB (F * 4) (by omega)
  have t1 := htB (F * 4 + 1) (by omega)
  have t2 := htB (F * 4 + 2) (by omega)
  have t3 := htB (F * 4 + 3) (by omega)
  rw [Nat.zero_add] at t0 t1 t2 t3
  obtain ⟨u0, hu0⟩ := Option.isSome_iff_exists.1 t0.1
  obtain ⟨u1, hu1⟩ := Option.isSome_iff_exists.1 t1.1
  obtain ⟨u2, hu2⟩ := Option.isSome_iff_exists.1 t2.1
  obtain ⟨u3, hu3⟩ := Option.isSome_iff_exists.1 t3.1
  have f0 := t0.2
  have f1 := t1.2
  have f2 := t2.2
  have f3 := t3.2
  have kF := k5.frame hF8 ((h3.guests.getD g noG).disk.getD p []) hz4
  have hlB5 := k5.2.2.2.2.2.2.2.2.1
  have hlL5 := k5.2.2.2.2.2.2.2.2.2
  have hneBL := k5.2.2.2.2.1
  obtain ⟨pg, hpg⟩ : ∃ pg, pg = (h3.guests.getD g noG).disk.getD p [] := ⟨_, rfl⟩
  rw [← hpg] at z0 z1 z2 z3 hz4 kF
  generalize hy0 : pg.getD 0 0 = y0 at *
  generalize hy1 : pg.getD 1 0 = y1 at *
  generalize hy2 : pg.getD 2 0 = y2 at *
  generalize hy3 : pg.getD 3 0 = y3 at *
  obtain ⟨W6, hW6⟩ : ∃ W6, W6 = (((w5.setCell ⟨B, F * 4, none⟩ (.int .i64 y0)).setCell ⟨B, F * 4 + 1, none⟩ (.int .i64 y1)).setCell ⟨B, F * 4 + 2, none⟩ (.int .i64 y2)).setCell ⟨B, F * 4 + 3, none⟩ (.int .i64 y3) := ⟨_, rfl⟩
  have hWs : w5.setCells B (F * 4) (sheetC pg) = W6 := by
    rw [hW6, sheetC, hy0, hy1, hy2, hy3]
    rfl
  rw [hWs] at kF
  have U6 : Upd B w5 W6 := by rw [hW6]; exact ((((Upd.refl B w5).put _ _).put _ _).put _ _).put _ _
  have kF := hidE kF
  have HU6 := hidE (HU5.out.trans (Upd2.left U6))
  have s6 := U6.size
  have HU6b := hidE U6
  have Hpg := hidE hpg
  clear t0 t1 t2 t3 htB k5 hr5 hth5 r1 hWs U6 hsz5 hrm4 U4 U5 hy0 hy1 hy2 hy3 a40 a41 hpg
  go_wp2_with (fail)
  go_cut [4, 5] (fun s s5 wx => s = .pointer (some ⟨L, g * 66, none⟩) ∧ s5 = .int .i64 F ∧ wx = W6.drew)
  case first =>
    go_region_with (fail)
    all_goals go_wp2_with fail
    all_goals go_meet
    all_goals exact ⟨rfl, rfl, by rw [hW6]⟩
  case rest =>
    obtain ⟨rfl, rfl, hwc⟩ := hcut
    have hB7 : Below W6.heap.size W6 wc := by rw [hwc]; exact (Below.refl _ _).drew
    have s7 := hB7.size
    have k7 := kF.out.belowK hB7
    have HU7 := hidE (HU6.out.trans (Upd2.ofBelow hB7))
    have hlg7 : (setF h3 F pg).guests.length = lg := hlr
    obtain ⟨hsz7, hr7, hth7⟩ := k7.lodAt (G := g) (by rw [hlg7]; exact hg)
    have t0 := hth7 (18 + p * 4) (by omega)
    have t1 := hth7 (18 + p * 4 + 1) (by omega)
    have t2 := hth7 (18 + p * 4 + 2) (by omega)
    have t3 := hth7 (18 + p * 4 + 3) (by omega)
    obtain ⟨x0, hx0⟩ := Option.isSome_iff_exists.1 t0.1
    obtain ⟨x1, hx1⟩ := Option.isSome_iff_exists.1 t1.1
    obtain ⟨x2, hx2⟩ := Option.isSome_iff_exists.1 t2.1
    obtain ⟨x3, hx3⟩ := Option.isSome_iff_exists.1 t3.1
    have g0 := t0.2
    have g1 := t1.2
    have g2 := t2.2
    have g3 := t3.2
    rw [show g * 66 + (18 + p * 4) = g * 66 + 18 + p * 4 by omega] at hx0 g0
    rw [show g * 66 + (18 + p * 4 + 1) = g * 66 + 18 + p * 4 + 1 by omega] at hx1 g1
    rw [show g * 66 + (18 + p * 4 + 2) = g * 66 + 18 + p * 4 + 2 by omega] at hx2 g2
    rw [show g * 66 + (18 + p * 4 + 3) = g * 66 + 18 + p * 4 + 3 by omega] at hx3 g3
    have kd := k7.disk (G := g) (by rw [hlg7]; exact hg) hp [0, 0, 0, 0] rfl
    rw [show g * 66 + (18 + p * 4) = g * 66 + 18 + p * 4 by omega] at kd
    obtain ⟨W8, hW8⟩ : ∃ W8, W8 = (((wc.setCell ⟨L, g * 66 + 18 + p * 4, none⟩ (.int .i64 0)).setCell ⟨L, g * 66 + 18 + p * 4 + 1, none⟩ (.int .i64 0)).setCell ⟨L, g * 66 + 18 + p * 4 + 2, none⟩ (.int .i64 0)).setCell ⟨L, g * 66 + 18 + p * 4 + 3, none⟩ (.int .i64 0) := ⟨_, rfl⟩
    rw [show wc.setCells L (g * 66 + 18 + p * 4) (sheetC [0, 0, 0, 0]) = W8 by rw [hW8]; rfl] at kd
    have U8 : Upd L wc W8 := by rw [hW8]; exact ((((Upd.refl L wc).put _ _).put _ _).put _ _).put _ _
    have a70 := (World.cell?_of_block (a := ⟨w.heap.size, 0, none⟩) ((hB7.block w.heap.size (by omega)).trans (HU6b.out.block w.heap.size (by omega) (by omega)))).trans a50
    have a71 := (World.cell?_of_block (a := ⟨w.heap.size, 1, none⟩) ((hB7.block w.heap.size (by omega)).trans (HU6b.out.block w.heap.size (by omega) (by omega)))).trans a51
    have l7 : w.heap.size < wc.heap.size := by omega
    have lL7 : L < wc.heap.size := by omega
    have kd := hidE kd
    have HU8 := hidE (HU7.out.trans (Upd2.right U8))
    have HU8b := hidE U8
    have s8 := U8.size
    clear t0 t1 t2 t3 hth7 k7 hr7 hsz7 U8 hwc hB7 HU7 hu0 hu1 hu2 hu3 f0 f1 f2 f3 z0 z1 z2 z3 a50 a51 hW6 kF HU6 HU6b
    generalize wc = Wm at *
    go_wp2_with (fail)
    go_cut [4, 5] (fun s s5 wx => s = .pointer (some ⟨L, g * 66, none⟩) ∧ s5 = .int .i64 F ∧ wx = W8.drew)
    case first =>
      go_region_with (fail)
      all_goals go_wp2_with fail
      all_goals go_meet
      all_goals exact ⟨rfl, rfl, by rw [hW8]⟩
    case rest =>
      obtain ⟨rfl, rfl, hwc⟩ := hcut
      have hB9 : Below W8.heap.size W8 wc := by rw [hwc]; exact (Below.refl _ _).drew
      have s9 := hB9.size
      have k9 := kd.out.belowK hB9
      have hlg9 : (setG (setF h3 F pg) g { (setF h3 F pg).guests.getD g noG with disk := ((setF h3 F pg).guests.getD g noG).disk.set p [0, 0, 0, 0] }).guests.length = lg := by rw [setG_len]; exact hlg7
      obtain ⟨hsz9, hr9, hth9⟩ := k9.lodAt (G := g) (by rw [hlg9]; exact hg)
      have t0 := hth9 (p * 3) (by omega)
      have t1 := hth9 (p * 3 + 1) (by omega)
      have t2 := hth9 (p * 3 + 2) (by omega)
      obtain ⟨v0, hv0⟩ := Option.isSome_iff_exists.1 t0.1
      obtain ⟨v1, hv1⟩ := Option.isSome_iff_exists.1 t1.1
      obtain ⟨v2, hv2⟩ := Option.isSome_iff_exists.1 t2.1
      have f0 := t0.2
      have f1 := t1.2
      have f2 := t2.2
      rw [← Nat.add_assoc] at hv1 hv2 f1 f2
      have km := k9.map (G := g) (by rw [hlg9]; exact hg) hp (inM F)
      obtain ⟨W10, hW10⟩ : ∃ W10, W10 = ((wc.setCell ⟨L, g * 66 + p * 3, none⟩ (.bool true)).setCell ⟨L, g * 66 + p * 3 + 1, none⟩ (.int .i64 F)).setCell ⟨L, g * 66 + p * 3 + 2, none⟩ (.bool true) := ⟨_, rfl⟩
      rw [show wc.setCells L (g * 66 + p * 3) (mapC (inM F)) = W10 by rw [hW10]; rfl] at km
      have U10 : Upd L wc W10 := by rw [hW10]; exact (((Upd.refl L wc).put _ _).put _ _).put _ _
      have a90 := (World.cell?_of_block (a := ⟨w.heap.size, 0, none⟩) ((hB9.block w.heap.size (by omega)).trans (HU8b.out.block w.heap.size (by omega) (by omega)))).trans a70
      have a91 := (World.cell?_of_block (a := ⟨w.heap.size, 1, none⟩) ((hB9.block w.heap.size (by omega)).trans (HU8b.out.block w.heap.size (by omega) (by omega)))).trans a71
      have l9 : w.heap.size < wc.heap.size := by omega
      have lL9 : L < wc.heap.size := by omega
      have HU10 := hidE ((HU8.out.trans (Upd2.ofBelow hB9)).trans (Upd2.right U10))
      have hfin2 : setG (setG (setF h3 F pg) g { (setF h3 F pg).guests.getD g noG with disk := ((setF h3 F pg).guests.getD g noG).disk.set p [0, 0, 0, 0] }) g { (setG (setF h3 F pg) g { (setF h3 F pg).guests.getD g noG with disk := ((setF h3 F pg).guests.getD g noG).disk.set p [0, 0, 0, 0] }).guests.getD g noG with maps := ((setG (setF h3 F pg) g { (setF h3 F pg).guests.getD g noG with disk := ((setF h3 F pg).guests.getD g noG).disk.set p [0, 0, 0, 0] }).guests.getD g noG).maps.set p (inM F) } = hfin := by
        rw [hout, Hpg.out]
        rfl
      rw [hfin2] at km
      have km := hidE km
      clear t0 t1 t2 hth9 k9 hr9 hsz9 U10 hwc hB9 HU8 HU8b hx0 hx1 hx2 hx3 g0 g1 g2 g3 a70 a71 hW8 kd hfin2 hlg9
      generalize wc = Wm at *
      go_wp2_with (fail)
      go_region_with (fail)
      all_goals go_wp2_with fail
      all_goals
        refine bodyPost_end (v := .tuple #[]) (by simp [results, Try.results64, go_sem]) rfl ?_
        rw [← hW10]
        exact ⟨rfl, km.out.belowK (Below.refl _ _).drew, HU10.out.trans (Upd2.ofBelow (Below.refl _ _).drew)⟩
end Go.Proofs.Ytdamdjhnhkmncaa
