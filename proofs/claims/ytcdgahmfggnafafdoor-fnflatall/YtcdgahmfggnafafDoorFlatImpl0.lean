/-
  A guest alone: memory that stays, in lists of its own.
-/
import Derived.Test.YtcdgahmfggnafafDoorFlatOk0
namespace Go.Proofs.YtcdgahmfggnafafDoor
open Go.RowKit

theorem setCells_amid (p : Nat) : ∀ (vs : List Value) (o : Nat) (w : World), Amid p (p + 1) w (w.setCells p o vs)
  | [], _, w => Amid.refl _ _ w
  | v :: r, o, w => ((Amid.refl _ _ w).put (Nat.le_refl _) (Nat.lt_succ_self _) o v).trans (setCells_amid p r (o + 1) _)

/-- What copying words into a row of new ones gives. -/
theorem copy_words (W : World) (p len cap : Nat) (a : Option Addr) (zs : List Int) (lo hi : Nat) (hR : Room W p len) (h : IsInts W lo hi a len zs) :
    ∃ V, (Builtin.copy_ #[36, 36] 3 #[.slice (some ⟨p, 0, none⟩) len len, .slice a len cap]).run Tryd.prog W = .ok (goInt len) V ∧ Ints V p 0 zs ∧ Room V p len ∧ Amid p (p + 1) W V := by
  obtain ⟨hl, hd⟩ := h
  rcases hd with h0 | ⟨b, o, rfl, _, _, hc⟩
  · subst h0
    exact ⟨W, run_copy_none W 36 36 3 3 _ _ 0 0 0 cap Tryd.underlying36 (by kernel_rfl) rfl, fun i hi => by omega, hR, Amid.refl _ _ W⟩
  · have hzl : (zv zs).length = len := by simpa [zv] using hl
    have hcp := run_copy_cells (P := Tryd.prog) W 36 36 3 3 p 0 len len ⟨b, o, none⟩ len cap (zv zs) Tryd.underlying36 (by kernel_rfl) (by rw [hzl]; exact (Nat.min_self len).symm) (ints_zv hc)
      (fun j hj => by obtain ⟨⟨v, hv⟩, _⟩ := hR j (by omega); simp [hv]) (fun j hj => by simpa using (hR j (by omega)).2) (zv_one zs)
    rw [hzl] at hcp
    refine ⟨_, hcp, fun i hi => ?_, fun j hj => ?_, setCells_amid p _ 0 W⟩
    · have := World.cell?_setCells_in p (zv zs) 0 W (fun j hj => by obtain ⟨⟨v, hv⟩, _⟩ := hR j (by omega); simp [hv]) i (by omega)
      rw [this]
      have hg := zv_get zs i hi
      rw [List.getElem?_eq_getElem (by omega)] at hg
      exact hg
    · refine ⟨?_, ?_⟩
      · have := World.cell?_setCells_in p (zv zs) 0 W (fun j hj => by obtain ⟨⟨v, hv⟩, _⟩ := hR j (by omega); simp [hv]) j (by omega)
        rw [Nat.zero_add] at this
        exact ⟨_, this⟩
      · rw [World.frozen?_setCells]
        exact (hR j hj).2

/-- One page more, filled behind its being put there. -/
theorem OwnUpto.stepc {w V : World} {T lo hi k p l c : Nat} {ms : List (List Int)} (h : OwnUpto w T lo hi k ms) (hs : ∀ b, lo ≤ b → b < hi → b ≠ T → V.heap[b]? = w.heap[b]?)
    (hT : ∀ i v, i < k → w.cell? ⟨T, i, none⟩ = some v → V.cell? ⟨T, i, none⟩ = some v) (hTf : ∀ i, V.frozen? ⟨T, i, none⟩ = w.frozen? ⟨T, i, none⟩) (hk : V.cell? ⟨T, k, none⟩ = some (.slice (some ⟨p, 0, none⟩) l c)) (hkf : w.frozen? ⟨T, k, none⟩ = false)
    (hp : hi ≤ p) {hi' : Nat} (hp' : p < hi') (hpT : T < p) (hlo : lo ≤ hi) (hl : (ms.getD k []).length = l) (hI : Ints V p 0 (ms.getD k [])) (hF : ∀ j, j < l → V.frozen? ⟨p, j, none⟩ = false) :
    OwnUpto V T lo hi' (k + 1) ms := by
  obtain ⟨bs, hm, h⟩ := h
  obtain ⟨bs', e1, e2⟩ : ∃ bs' : Nat → Nat, bs' k = p ∧ ∀ i, i ≠ k → bs' i = bs i := ⟨fun i => if i = k then p else bs i, by simp, fun i h => by simp [h]⟩
  refine ⟨bs', fun i j hij hj => ?_, fun i hik1 => ?_⟩
  · rw [e2 i (by omega)]
    by_cases hjk : j = k
    · rw [hjk, e1]
      have := (h i (by omega)).2.1
      omega
    · rw [e2 j hjk]
      exact hm i j hij (by omega)
  · by_cases hik : i = k
    · subst hik
      rw [e1, hl]
      exact ⟨by omega, hp', by omega, ⟨c, hk⟩, (hTf i).trans hkf, hI, hF⟩
    · obtain ⟨g1, g2, g3, ⟨c', g4⟩, g5, g6, g7⟩ := h i (by omega)
      rw [e2 i hik]
      have hb := hs (bs i) g1 g2 g3
      exact ⟨g1, by omega, g3, ⟨c', hT i _ (by omega) g4⟩, (hTf i).trans g5, fun j hj => (World.cell?_of_block (a := ⟨bs i, 0 + j, none⟩) hb).trans (g6 j hj), fun j hj => (World.frozen?_of_block (a := ⟨bs i, j, none⟩) hb).trans (g7 j hj)⟩

end Go.Proofs.YtcdgahmfggnafafDoor
