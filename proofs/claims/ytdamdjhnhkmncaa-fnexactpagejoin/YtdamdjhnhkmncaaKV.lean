/-
  What the program's own ring of pages that wait does: put, take.
-/
import Derived.Test.YtdamdjhnhkmncaaKU
import Derived.Test.YtdamdjhnhkmncaaKImplOut1
import Derived.Test.YtdamdjhnhkmncaaKT
import Derived.Test.YtdamdjhnhkmncaaKImplOut2
set_option linter.unusedSimpArgs false
namespace Go.Proofs.Ytdamdjhnhkmncaa
open Go.RowKit

/-- All old blocks but one are as they were. -/
structure Upd (b : Nat) (w w' : World) : Prop where
  os : w'.os = w.os
  tape : w'.tape = w.tape
  output : w'.output = w.output
  size : w.heap.size ≤ w'.heap.size
  block : ∀ k, k < w.heap.size → k ≠ b → w'.heap[k]? = w.heap[k]?
theorem Upd.refl (b : Nat) (w : World) : Upd b w w := ⟨rfl, rfl, rfl, Nat.le_refl _, fun _ _ _ => rfl⟩
theorem Upd.alloc {b : Nat} {w w' : World} (h : Upd b w w') (o : Obj) : Upd b w (w'.alloc o) := by
  have B : Below w'.heap.size w' (w'.alloc o) := (Below.refl _ _).alloc (Nat.le_refl _) _
  exact ⟨B.os.trans h.os, B.tape.trans h.tape, B.output.trans h.output, Nat.le_trans h.size B.size, fun k hk hn => (B.block k (Nat.lt_of_lt_of_le hk h.size)).trans (h.block k hk hn)⟩
theorem Upd.drew {b : Nat} {w w' : World} (h : Upd b w w') : Upd b w w'.drew := ⟨h.os, h.tape, h.output, h.size, h.block⟩
theorem Upd.put {b : Nat} {w w' : World} (h : Upd b w w') (j : Nat) (u : Value) : Upd b w (w'.setCell ⟨b, j, none⟩ u) :=
  ⟨h.os, h.tape, h.output, by simpa [World.setCell] using h.size, fun k hk hn => (Below.heap_setCell _ _ _ _ (by simpa using hn)).trans (h.block k hk hn)⟩
theorem Upd.new {b : Nat} {w w' : World} (h : Upd b w w') {p : Addr} (hp : w.heap.size ≤ p.block) (u : Value) : Upd b w (w'.setCell p u) :=
  ⟨h.os, h.tape, h.output, by simpa [World.setCell] using h.size, fun k hk hn => (Below.heap_setCell _ _ _ _ (by omega)).trans (h.block k hk hn)⟩
theorem Upd.below {b B : Nat} {w w' : World} (h : Upd b w w') (hB : B ≤ b) (hs : B ≤ w.heap.size) : Below B w w' := ⟨h.os, h.tape, h.output, h.size, fun k hk => h.block k (by omega) (by omega)⟩

/-- The ring in memory: pages from place 0 on, the first that goes, how many wait. -/
def RingAt (w : World) (R : Nat) (l : List (Nat × Nat)) (f c : Nat) : Prop :=
  w.there R 0 26 ∧ w.cell? ⟨R, 24, none⟩ = some (.int .i64 f) ∧ w.cell? ⟨R, 25, none⟩ = some (.int .i64 c) ∧
  ∀ i, i < l.length → w.cell? ⟨R, i * 2, none⟩ = some (.int .i64 ((l.getD i (0, 0)).1 : Nat)) ∧ w.cell? ⟨R, i * 2 + 1, none⟩ = some (.int .i64 ((l.getD i (0, 0)).2 : Nat))
theorem RingAt.same {w w' : World} {R f c : Nat} {l : List (Nat × Nat)} (h : RingAt w R l f c) (e : w'.heap[R]? = w.heap[R]?) : RingAt w' R l f c := by
  have hc : ∀ o, w'.cell? ⟨R, o, none⟩ = w.cell? ⟨R, o, none⟩ := fun o => World.cell?_of_block (a := ⟨R, o, none⟩) e
  have hf : ∀ o, w'.frozen? ⟨R, o, none⟩ = w.frozen? ⟨R, o, none⟩ := fun o => World.frozen?_of_block (a := ⟨R, o, none⟩) e
  obtain ⟨h1, h2, h3, h4⟩ := h
  exact ⟨fun j hj => by rw [hc, hf]; exact h1 j hj, by rw [hc]; exact h2, by rw [hc]; exact h3, fun i hi => by rw [hc, hc]; exact h4 i hi⟩
theorem RingAt.lt {w : World} {R f c : Nat} {l : List (Nat × Nat)} (h : RingAt w R l f c) : R < w.heap.size := World.block_lt_of_cell? _ _ h.2.1
theorem there_put {w : World} {b o n j : Nat} (h : w.there b o n) (u : Value) : (w.setCell ⟨b, j, none⟩ u).there b o n := fun i hi => by
  obtain ⟨h1, h2⟩ := h i hi
  obtain ⟨v, hv⟩ := Option.isSome_iff_exists.1 h1
  exact ⟨by rw [cell_put hv]; rfl, by rw [← h2]; go_simp⟩

end Go.Proofs.Ytdamdjhnhkmncaa

/-
  What the program's own emptying of a frame does.
-/
set_option linter.unusedSimpArgs false
namespace Go.Proofs.Ytdamdjhnhkmncaa
open Go.RowKit
attribute [local go_sem ↓] Go.wp_at_zero Go.wp_at_succ exec_app exec_lod exec_house exec_mapsA exec_allocL exec_storeL exec_buildL exec_idxM exec_look exec_upd exec_allocH exec_buildH exec_storeH exec_bsL exec_storeQ exec_loadQ exec_idxQ
attribute [local go_sem] bigNext_ok bigSkip_ok

theorem wf_small {z : Int} (h0 : 0 ≤ z) (h7 : z ≤ 7) : (Lit.int .i64 z).wf = true := by
  rcases (by omega : z = 0 ∨ z = 1 ∨ z = 2 ∨ z = 3 ∨ z = 4 ∨ z = 5 ∨ z = 6 ∨ z = 7) with e | e | e | e | e | e | e | e <;> subst e <;> decide
theorem okH_wf {h : Hst} (k : OkH h) : WfGs h.guests.length h.guests := fun i hi p hp => by
  cases hm : (mAt h i p).1
  · have := k.mo i p hi hp hm
    show (Lit.int .i64 (mAt h i p).2.1).wf = true
    rw [this]
    decide
  · obtain ⟨a, b, _⟩ := k.mi i p hi hp hm
    exact wf_small a b
theorem own_spots {w : World} {lo c : Nat} {a : Option Addr} {l : List (Nat × Nat)} (h : w.ownsRow lo 99 2 (.slice a l.length c) l.length (spC l)) :
    l.length = 0 ∨ ∃ T, a = some ⟨T, 0, none⟩ ∧ lo ≤ T ∧ T < w.heap.size ∧ ∀ i, i < l.length → w.cell? ⟨T, i * 2, none⟩ = some (.int .i64 ((l.getD i (0, 0)).1 : Nat)) ∧ w.cell? ⟨T, i * 2 + 1, none⟩ = some (.int .i64 ((l.getD i (0, 0)).2 : Nat)) := by
  have hc := h
  obtain ⟨hlen, hd⟩ := h
  rcases hd with ⟨e, h0⟩ | ⟨g, cap, cur, e, hg, hh, hcap, _⟩
  · exact Or.inl h0
  · cases e
    refine Or.inr ⟨g, rfl, hg, (hc.lt g rfl).2, fun i hi => ?_⟩
    have hr := own_range hc
    have key : ∀ (l : List (Nat × Nat)) (i : Nat), i < l.length → (spC l)[i * 2]? = some (.int .i64 ((l.getD i (0, 0)).1 : Nat)) ∧ (spC l)[i * 2 + 1]? = some (.int .i64 ((l.getD i (0, 0)).2 : Nat)) := by
      intro l
      induction l with
      | nil => intro i hi; simp at hi
      | cons x l ih =>
        intro i hi
        cases i with
        | zero => exact ⟨rfl, rfl⟩
        | succ i =>
          have := ih i (by simpa using hi)
          rw [show (i + 1) * 2 = i * 2 + 2 by omega, show i * 2 + 2 + 1 = (i * 2 + 1) + 2 by omega]
          exact this
    obtain ⟨k0, k1⟩ := key l i hi
    have q0 := hr _ _ k0
    have q1 := hr _ _ k1
    rw [Nat.zero_add] at q0 q1
    exact ⟨q0, q1⟩
theorem upd_of {L : Nat} {w w' : World} (hs : w.heap.size ≤ w'.heap.size) (hx : ∀ j, j < w.heap.size → j ≠ L → w'.heap[j]? = w.heap[j]?) (hb : Below L w w') : Upd L w w' := ⟨hb.os, hb.tape, hb.output, hs, hx⟩
theorem Upd.trans {b : Nat} {w w1 w2 : World} (h : Upd b w w1) (k : Upd b w1 w2) : Upd b w w2 := ⟨k.os.trans h.os, k.tape.trans h.tape, k.output.trans h.output, Nat.le_trans h.size k.size, fun j hj hn => (k.block j (Nat.lt_of_lt_of_le hj h.size) hn).trans (h.block j hj hn)⟩
theorem Upd.ofBelow {b : Nat} {w w' : World} (h : Below w.heap.size w w') : Upd b w w' := ⟨h.os, h.tape, h.output, h.size, fun j hj _ => h.block j hj⟩
/-- A block of the call's own has turned. -/
theorem Upd.own {b R : Nat} {w w1 w2 : World} (h : Upd b w w1) (k : Upd R w1 w2) (hR : w.heap.size ≤ R) : Upd b w w2 := ⟨k.os.trans h.os, k.tape.trans h.tape, k.output.trans h.output, Nat.le_trans h.size k.size, fun j hj hn => (k.block j (Nat.lt_of_lt_of_le hj h.size) (by omega)).trans (h.block j hj hn)⟩
theorem HouseW.upd {w w' : World} {B L c R : Nat} {h : Hst} (hW : HouseW w B L c h) (k : Upd R w w') (h1 : B ≠ R) (h2 : L ≠ R) : HouseW w' B L c h := by
  obtain ⟨a1, a2, a3, a4, a5, a6, a7, a8, a9, a10⟩ := hW
  have eB := k.block B a9 h1
  have eL := k.block L a10 h2
  have hs := k.size
  refine ⟨fun j v hj => (World.cell?_of_block (a := ⟨B, 0 + j, none⟩) eB).trans (a1 j v hj), fun j hj => by rw [World.cell?_of_block (a := ⟨B, 0 + j, none⟩) eB, World.frozen?_of_block (a := ⟨B, 0 + j, none⟩) eB]; exact a2 j hj, (lods_block a3 a4 eL (by omega)).1, (lods_block a3 a4 eL (by omega)).2, a5, a6, a7, a8, by omega, by omega⟩

end Go.Proofs.Ytdamdjhnhkmncaa

/-
  What the program's own making of room does.
-/
set_option linter.unusedSimpArgs false
namespace Go.Proofs.Ytdamdjhnhkmncaa
open Go.RowKit
attribute [local go_sem ↓] Go.wp_at_zero Go.wp_at_succ exec_app exec_lod exec_house exec_mapsA exec_allocL exec_storeL exec_buildL exec_idxM exec_look exec_upd exec_allocH exec_buildH exec_storeH exec_bsL exec_storeQ exec_loadQ exec_idxQ
attribute [local go_sem] bigNext_ok bigSkip_ok

/-- All old blocks but two are as they were. -/
structure Upd2 (a b : Nat) (w w' : World) : Prop where
  os : w'.os = w.os
  tape : w'.tape = w.tape
  output : w'.output = w.output
  size : w.heap.size ≤ w'.heap.size
  block : ∀ k, k < w.heap.size → k ≠ a → k ≠ b → w'.heap[k]? = w.heap[k]?
theorem Upd2.refl (a b : Nat) (w : World) : Upd2 a b w w := ⟨rfl, rfl, rfl, Nat.le_refl _, fun _ _ _ _ => rfl⟩
theorem Upd2.trans {a b : Nat} {w w1 w2 : World} (h : Upd2 a b w w1) (k : Upd2 a b w1 w2) : Upd2 a b w w2 := ⟨k.os.trans h.os, k.tape.trans h.tape, k.output.trans h.output, Nat.le_trans h.size k.size, fun j hj h1 h2 => (k.block j (Nat.lt_of_lt_of_le hj h.size) h1 h2).trans (h.block j hj h1 h2)⟩
theorem Upd2.ofBelow {a b : Nat} {w w' : World} (h : Below w.heap.size w w') : Upd2 a b w w' := ⟨h.os, h.tape, h.output, h.size, fun j hj _ _ => h.block j hj⟩
theorem Upd2.right {a b : Nat} {w w' : World} (h : Upd b w w') : Upd2 a b w w' := ⟨h.os, h.tape, h.output, h.size, fun j hj _ h2 => h.block j hj h2⟩
theorem Upd2.left {a b : Nat} {w w' : World} (h : Upd a w w') : Upd2 a b w w' := ⟨h.os, h.tape, h.output, h.size, fun j hj h1 _ => h.block j hj h1⟩
theorem Upd2.below {a b N : Nat} {w w' : World} (h : Upd2 a b w w') (ha : N ≤ a) (hb : N ≤ b) (hs : N ≤ w.heap.size) : Below N w w' := ⟨h.os, h.tape, h.output, h.size, fun k hk => h.block k (by omega) (by omega) (by omega)⟩

theorem HouseW.hand {w : World} {B L c : Nat} {h : Hst} (hW : HouseW w B L c h) (z : Int) : HouseW (w.setCell ⟨B, 33, none⟩ (.int .i64 z)) B L c (setHand h z) := by
  obtain ⟨h1, h2, h3, h4, h5, h6, h7, h8, h9, h10⟩ := hW
  have l1 : (sheetsC h.frames).length = 32 := by rw [sheetsC_len, h6]
  have r1 := range_left h1
  have r2 := range_right h1 l1
  have e0 : w.setCell ⟨B, 33, none⟩ (.int .i64 z) = w.setCells B 33 [.int .i64 z] := rfl
  have hne : B ≠ L := h5
  have blk : (w.setCell ⟨B, 33, none⟩ (.int .i64 z)).heap[L]? = w.heap[L]? := Below.heap_setCell _ _ _ _ (by simpa using Ne.symm hne)
  refine ⟨?_, there_put h2 _, (lods_block h3 h4 blk (by simpa using h10)).1, (lods_block h3 h4 blk (by simpa using h10)).2, h5, h6, h7, h8, by simpa using h9, by simpa using h10⟩
  show (w.setCell ⟨B, 33, none⟩ (.int .i64 z)).rangeAt B 0 (sheetsC h.frames ++ [.slice (some ⟨L, 0, none⟩) h.guests.length c, .int .i64 z])
  have k32 := r2 0 _ rfl
  have k33 := r2 1 _ rfl
  refine range_join l1 ?_ ?_
  · rw [e0]
    exact World.rangeAt_setCells_apart r1 _ _ _ (Or.inr (Or.inl (by omega)))
  · intro j v hj
    match j, hj with
    | 0, hj =>
      simp at hj
      subst hj
      exact cellk_else k32 (by decide)
    | 1, hj =>
      simp at hj
      subst hj
      exact cellk_same k33

end Go.Proofs.Ytdamdjhnhkmncaa

/-
  What the program's own bringIn does.
-/
set_option linter.unusedSimpArgs false
namespace Go.Proofs.Ytdamdjhnhkmncaa
open Go.RowKit
attribute [local go_sem ↓] Go.wp_at_zero Go.wp_at_succ exec_app exec_lod exec_house exec_mapsA exec_allocL exec_storeL exec_buildL exec_idxM exec_look exec_upd exec_allocH exec_buildH exec_storeH exec_bsL exec_storeQ exec_loadQ exec_idxQ
attribute [local go_sem] bigNext_ok bigSkip_ok

end Go.Proofs.Ytdamdjhnhkmncaa
