/-
  What the drawing of one entry, or one word, gives, whatever the bytes are.
-/
import Derived.Test.YtfiailnlkhonnaaReader
import Derived.Test.YtfiailnlkhonnaaEntry
namespace Go.Proofs.Ytfiailnlkhonnaa
open Go.RowKit

/-- What the walk is told of a slice of bytes that came in. -/
def IsRow (k : IntKind) (w : World) (a : Option Addr) (len cap : Nat) (zs : List Int) : Prop :=
  (a = none ∧ len = 0 ∧ cap = 0 ∧ zs = []) ∨
  ∃ x, a = some x ∧ len ≤ cap ∧ cap ≤ maxLen ∧ zs.length = cap ∧ (∀ i, i < zs.length → w.cell? (x.add i) = some (.int k (zs.getD i 0))) ∧ ∀ n ∈ zs, (Lit.int k n).wf = true

/-- A reader that was just laid, over bytes that came in. -/
theorem rd_new {w : World} {a : Option Addr} {len cap len' : Nat} {zs : List Int} (h : IsRow .u8 w a len cap zs) (hl : len' ≤ len) (k : Nat) (t : TypeId) :
    Rd (w.alloc (.cells #[.slice a len' cap, .int .i64 k] t)) w.heap.size k := by
  refine ⟨a, len', cap, by simp, by simp, by simp, fun h0 => ?_⟩
  rcases h with ⟨_, rfl, _, _⟩ | ⟨x, rfl, hle, hm, hz, hc, hw⟩
  · omega
  · obtain ⟨b, off, spot⟩ := x
    have hc0 := hc 0 (by omega)
    have hspot : spot = none := by simpa [Addr.add] using World.cell?_spot hc0
    subst hspot
    refine ⟨b, off, rfl, ?_, fun i hi => ?_⟩
    · exact World.block_lt_of_cell? _ _ hc0
    · have hci := hc i (by omega)
      have e : (⟨b, off, none⟩ : Addr).add i = ⟨b, off + i, none⟩ := by by_cases h : i = 0 <;> simp [Addr.add, h]
      have hci' : w.cell? ⟨b, off + i, none⟩ = some (.int .u8 (zs.getD i 0)) := by rw [← e]; exact hci
      have hwf := hw (zs.getD i 0) (by rw [List.getD_eq_getElem?_getD, List.getElem?_eq_getElem (by omega)]; simp)
      have hbd := bounds_u8 hwf
      refine ⟨zs.getD i 0, ?_, hbd.1, hbd.2⟩
      rw [World.cell?_alloc_lt _ _ _ (World.block_lt_of_cell? _ _ hci')]
      exact hci'

set_option maxHeartbeats 400000 in
theorem open_any (a : Option Addr) (len cap : Nat) (zs : List Int) (w : World) (h : IsRow .u8 w a len cap zs) :
    Calls Try.prog 18 #[.slice a len cap] w fun e w' => e = .returned (.pointer (some ⟨w.heap.size, 0, none⟩)) ∧ ∃ len', len' ≤ len ∧ w' = w.alloc (.cells #[.slice a len' cap, .int .i64 0] 53) := by
  by_cases h2 : (2000 : Int) < (len : Int)
  · rcases h with ⟨_, rfl, _, _⟩ | ⟨x, rfl, hle, hm, hz, hc, hw⟩
    · omega
    · unfold maxLen at hm
      go_enter Try.func18, Try.ntmps18
      go_wp2
      go_ret
      exact ⟨rfl, 2000, by omega, rfl⟩
  · go_enter Try.func18, Try.ntmps18
    go_wp2
    go_ret
    exact ⟨rfl, len, Nat.le_refl _, rfl⟩

set_option maxHeartbeats 400000 in
theorem drawEntryOf (a : Option Addr) (len cap : Nat) (zs : List Int) (w : World) (h : IsRow .u8 w a len cap zs) :
    Calls Try.prog 12 #[.slice a len cap] w fun e w' => ∃ n : Int, e = .returned (.int .i64 n) ∧ -4 < n ∧ n < 18 ∧ Below w.heap.size w w' := by
  have hr : ∀ (len' k m : Nat), len' ≤ len → Rd ((w.alloc (.cells #[.slice a len' cap, .int .i64 k] 53)).drewN m) w.heap.size k := fun len' k m hl => (rd_new h hl k _).below (below_drewN (Below.refl (w.heap.size + 1) _) m) (by simp)
  have HR : Hid _ := hr
  clear hr
  go_enter Try.func12, Try.ntmps12
  go_wp2_with (go_at_call 18; refine (open_any a len cap zs _ h).mono ?_; rintro e w' ⟨rfl, len', hl, rfl⟩)
  refine (pick_any w.heap.size 0 _ _ (rd_new h hl 0 _) (by omega) (by omega) (by omega)).mono ?_
  rintro e w' ⟨v1, m1, rfl, hv0, hv1, rfl⟩
  go_wp2_with (fail)
  refine (pick_any w.heap.size 1 _ _ (HR.out len' 1 m1 hl) (by omega) (by omega) (by omega)).mono ?_
  rintro e w' ⟨v2, m2, rfl, hv2, hv3, rfl⟩
  go_wp2
  go_ret
  refine ⟨_, rfl, by omega, by omega, ?_⟩
  (repeat' (first | exact Below.refl _ _ | apply Below.setCell | apply Below.alloc | apply below_drewN | apply Below.drew)) <;> (first | exact Nat.le_refl _ | (simp; done) | (simp; omega))

end Go.Proofs.Ytfiailnlkhonnaa
