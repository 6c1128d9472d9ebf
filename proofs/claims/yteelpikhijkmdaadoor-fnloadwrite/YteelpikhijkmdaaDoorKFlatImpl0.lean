/-
  A guest alone: memory that stays, in lists of its own.
-/
import Derived.Test.YteelpikhijkmdaaDoorKFlatOk0
namespace Go.Proofs.YteelpikhijkmdaaDoor
open Go.RowKit

theorem setCells_amid (p : Nat) : ∀ (vs : List Value) (o : Nat) (w : World), Amid p (p + 1) w (w.setCells p o vs)
  | [], _, w => Amid.refl _ _ w
  | v :: r, o, w => ((Amid.refl _ _ w).put (Nat.le_refl _) (Nat.lt_succ_self _) o v).trans (setCells_amid p r (o + 1) _)

/-- What copying words into a row of new ones gives. -/
theorem copy_words (W : World) (p len cap : Nat) (a : Option Addr) (zs : List Int) (lo hi : Nat) (hR : Room W p len) (h : IsInts W lo hi a len zs) :
    ∃ V, (Builtin.copy_ #[56, 56] 3 #[.slice (some ⟨p, 0, none⟩) len len, .slice a len cap]).run Tryd.prog W = .ok (goInt len) V ∧ Ints V p 0 zs ∧ Room V p len ∧ Amid p (p + 1) W V := by
  obtain ⟨hl, hd⟩ := h
  rcases hd with h0 | ⟨b, o, rfl, _, _, hc⟩
  · subst h0
    exact ⟨W, run_copy_none W 56 56 3 3 _ _ 0 0 0 cap Tryd.underlying56 (by kernel_rfl) rfl, fun i hi => by omega, hR, Amid.refl _ _ W⟩
  · have hzl : (zv zs).length = len := by simpa [zv] using hl
    have hcp := run_copy_cells (P := Tryd.prog) W 56 56 3 3 p 0 len len ⟨b, o, none⟩ len cap (zv zs) Tryd.underlying56 (by kernel_rfl) (by rw [hzl]; exact (Nat.min_self len).symm) (ints_zv hc)
      (fun j hj => by obtain ⟨⟨v, hv⟩, _⟩ := hR j (by omega); simp [hv]) (fun j hj => by simpa using (hR j (by omega)).2) (zv_one zs)
    rw [hzl] at hcp
    refine ⟨_, hcp, fun i hi => ?_, fun j hj => ?_, setCells_amid p _ 0 W⟩
    · have := World.cell?_setCells_in p (zv zs) 0 W (fun j hj => by obtain ⟨⟨v, hv⟩, _⟩ := hR j (by omega); simp [hv]) i (by omega)
      rw [this]
      have hg := zv_get zs i hi
      rw [List.getElem?_eq_getElem (by omega)] at hg
      exact hg
    · refine ⟨?_, ?_⟩
      · have := World.cell?_setCells_in p (zv zs) 0 W (fun j hj => by obtain ⟨⟨v, hv⟩, _⟩ := hR j (by omega); simp [hv]) j (by omega)
        rw [Nat.zero_add] at this
        exact ⟨_, this⟩
      · rw [World.frozen?_setCells]
        exact (hR j hj).2

/-- One page more, filled behind its being put there. -/
theorem OwnUpto.stepc {w V : World} {T lo hi k p l c : Nat} {ms : List (List Int)} (h : OwnUpto w T lo hi k ms) (hs : ∀ b, lo ≤ b → b < hi → b ≠ T → V.heap[b]? = w.heap[b]?)
    (hT : ∀ i v, i < k → w.cell? ⟨T, i, none⟩ = some v → V.cell? ⟨T, i, none⟩ = some v) (hTf : ∀ i, V.frozen? ⟨T, i, none⟩ = w.frozen? ⟨T, i, none⟩) (hk : V.cell? ⟨T, k, none⟩ = some (.slice (some ⟨p, 0, none⟩) l c)) (hkf : w.frozen? ⟨T, k, none⟩ = false)
    (hp : hi ≤ p) {hi' : Nat} (hp' : p < hi') (hpT : T < p) (hlo : lo ≤ hi) (hl : (ms.getD k []).length = l) (hI : Ints V p 0 (ms.getD k [])) (hF : ∀ j, j < l → V.frozen? ⟨p, j, none⟩ = false) :
    OwnUpto V T lo hi' (k + 1) ms := by
  obtain ⟨bs, hm, h⟩ := h
  obtain ⟨bs', e1, e2⟩ : ∃ bs' : Nat → Nat, bs' k = p ∧ ∀ i, i ≠ k → bs' i = bs i := ⟨fun i => if i = k then p else bs i, by simp, fun i h => by simp [h]⟩
  refine ⟨bs', fun i j hij hj => ?_, fun i hik1 => ?_⟩
  · rw [e2 i (by omega)]
    by_cases hjk : j = k
    · rw [hjk, e1]
      have := (h i (by omega)).2.1
      omega
    · rw [e2 j hjk]
      exact hm i j hij (by omega)
  · by_cases hik : i = k
    · subst hik
      rw [e1, hl]
      exact ⟨by omega, hp', by omega, ⟨c, hk⟩, (hTf i).trans hkf, hI, hF⟩
    · obtain ⟨g1, g2, g3, ⟨c', g4⟩, g5, g6, g7⟩ := h i (by omega)
      rw [e2 i hik]
      have hb := hs (bs i) g1 g2 g3
      exact ⟨g1, by omega, g3, ⟨c', hT i _ (by omega) g4⟩, (hTf i).trans g5, fun j hj => (World.cell?_of_block (a := ⟨bs i, 0 + j, none⟩) hb).trans (g6 j hj), fun j hj => (World.frozen?_of_block (a := ⟨bs i, j, none⟩) hb).trans (g7 j hj)⟩

set_option maxHeartbeats 2000000 in
set_option maxRecDepth 100000 in
theorem stays_any (lo hi : Nat) (a : Option Addr) (len cap : Nat) (ms : List (List Int)) (w : World) (h : IsMem w lo hi a len ms) (hh : hi ≤ w.heap.size) (hn : len ≤ 1048576) (hL : ∀ i, i < len → (ms.getD i []).length ≤ 1048576) :
    Calls Tryd.prog 29 #[.slice a len cap] w fun e w' => e = .returned (.slice (some ⟨w.heap.size, 0, none⟩) len len) ∧ OwnMem w' w.heap.size w'.heap.size (some ⟨w.heap.size, 0, none⟩) len ms ∧ Below w.heap.size w w' := by
  obtain ⟨hl, hd⟩ := h
  have hmk := make_mems len hn
  go_enter Tryd.func29, Tryd.ntmps29
  go_wp2
  clear hmk
  go_loopw [4, 5, 11] (fun _ _ i wr => ∃ k : Nat, k ≤ len ∧ i = .int .i64 k ∧ Hid (OwnUpto wr w.heap.size w.heap.size wr.heap.size k ms) ∧ Hid (Room wr w.heap.size len) ∧ w.heap.size < wr.heap.size ∧ Below w.heap.size w wr) (fun _ _ i _ => len - (intOf i).toNat)
  case atStart => exact ⟨0, Nat.zero_le _, rfl, ⟨fun _ => 0, fun i j h1 h2 => by omega, fun i hi => by omega⟩, room_made _ _ _ _, by simp, (Below.refl _ _).alloc (Nat.le_refl _) _⟩
  case round =>
    obtain ⟨k, hk, rfl, hE, hR, hlt, hB⟩ := hrel
    by_cases hkl : k < len
    · rcases hd with h0 | ⟨b, o, rfl, hb1, hb2, hc⟩
      · omega
      obtain ⟨a', l, c, q, hI⟩ := hc k hkl
      have hbs : b < w.heap.size := by omega
      have c0 := (hB.cell (p := ⟨b, o + k, none⟩) hbs).trans q
      have hI' := hI.same (below_sameIn hB hh)
      have hL1 := hL k hkl
      have hll := hI.1
      have hki : (k : Int) < (len : Int) := by omega
      have hhr : hi ≤ wr.heap.size := by omega
      have hmk := make_ints l (by omega)
      obtain ⟨⟨u0, d0⟩, f0⟩ := hR.out k hkl
      obtain ⟨U, hU⟩ : ∃ U, U = wr.setCell ⟨w.heap.size, k, none⟩ (.slice (some ⟨wr.heap.size, 0, none⟩) l l) := ⟨_, rfl⟩
      have sU : U.heap.size = wr.heap.size := by rw [hU]; simp
      have hUT : ∀ i v, wr.cell? ⟨w.heap.size, i, none⟩ = some v → U.cell? ⟨w.heap.size, i, none⟩ = some (if i = k then .slice (some ⟨wr.heap.size, 0, none⟩) l l else v) := fun i v hv => by rw [hU]; exact cell_put hv
      have hUF : ∀ b i, U.frozen? ⟨b, i, none⟩ = wr.frozen? ⟨b, i, none⟩ := fun b i => by rw [hU]; exact frozen_put
      have hUB : ∀ b, b ≠ w.heap.size → U.heap[b]? = wr.heap[b]? := fun b hb => by rw [hU]; exact Below.heap_setCell _ _ _ _ (by simpa using hb)
      have hBU : Below w.heap.size w U := by
        rw [hU]
        exact hB.setCell (p := ⟨w.heap.size, k, none⟩) (Nat.le_refl _) _
      obtain ⟨W, hW⟩ : ∃ W, W = U.alloc (.cells (madeCells #[.int .i64 0] l) 3) := ⟨_, rfl⟩
      have sW : W.heap.size = wr.heap.size + 1 := by rw [hW, ← sU]; simp
      have B1 : Below wr.heap.size U W := by
        rw [hW, ← sU]
        exact (Below.refl _ _).alloc (Nat.le_refl _) _
      have hRp : Room W wr.heap.size l := by
        rw [hW, ← sU]
        exact room_made U #[.int .i64 0] l 3
      have hIW : IsInts W lo hi a' l (ms.getD k []) := hI'.same (fun b _ h2 => (B1.block b (by omega)).trans (hUB b (by omega)))
      obtain ⟨V, hcp, hV1, hV2, hV3⟩ := copy_words W wr.heap.size l c a' _ lo hi hRp hIW
      have hTV : ∀ i, V.cell? ⟨w.heap.size, i, none⟩ = U.cell? ⟨w.heap.size, i, none⟩ := fun i => (World.cell?_of_block (a := ⟨w.heap.size, i, none⟩) (hV3.block _ (Or.inl hlt))).trans (B1.cell (p := ⟨w.heap.size, i, none⟩) hlt)
      have hTF : ∀ i, V.frozen? ⟨w.heap.size, i, none⟩ = wr.frozen? ⟨w.heap.size, i, none⟩ := fun i => ((World.frozen?_of_block (a := ⟨w.heap.size, i, none⟩) (hV3.block _ (Or.inl hlt))).trans (B1.frozen (p := ⟨w.heap.size, i, none⟩) hlt)).trans (hUF _ _)
      have hOW : ∀ b, b < wr.heap.size → b ≠ w.heap.size → V.heap[b]? = wr.heap[b]? := fun b h1 h2 => ((hV3.block b (Or.inl h1)).trans (B1.block b h1)).trans (hUB b h2)
      have hWB : Below w.heap.size w W := hBU.trans (B1.mono hB.size)
      have HU : Hid (OwnUpto V w.heap.size w.heap.size V.heap.size (k + 1) ms) := OwnUpto.stepc (c := l) (p := wr.heap.size) (l := l) hE.out (fun b _ h2 h3 => hOW b h2 h3)
        (fun i v hi hv => by rw [hTV, hUT i v hv, if_neg (by omega)]) hTF (by rw [hTV, hUT k u0 d0, if_pos rfl]) f0 (Nat.le_refl _) (by rw [hV3.size, sW]; omega) hlt (by omega) hll hV1 (fun j hj => (hV2 j hj).2)
      have HR : Hid (Room V w.heap.size len) := fun j hj => by
        obtain ⟨⟨v, hv⟩, hf⟩ := hR.out j hj
        refine ⟨?_, (hTF j).trans hf⟩
        rw [hTV, hUT j v hv]
        exact ⟨_, rfl⟩
      have hsV : w.heap.size < V.heap.size := by rw [hV3.size, sW]; omega
      have hBV : Below w.heap.size w V := hWB.trans (hV3.below (by omega))
      rw [hW, hU] at hcp
      clear q hI hc hI' hE hR hRp hIW hV1 hV2 hV3 hTV hTF hOW hWB hW sW B1 hU sU hUT hUF hUB hBU
      go_wp2
      go_roundw
      case rel => exact ⟨k + 1, by omega, by go_num, HU, HR, hsV, hBV⟩
      case measure => simp [intOf]; omega
    · have hkk : k = len := by omega
      subst hkk
      clear hR
      go_wp2
      go_ret
      exact ⟨rfl, ⟨hl, Or.inr ⟨_, rfl, Nat.le_refl _, hlt, hE.out⟩⟩, hB⟩
end Go.Proofs.YteelpikhijkmdaaDoor
