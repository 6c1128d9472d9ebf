/-
  What the drawing of acts gives; tidy or not, of acts that may be none.
-/
import Derived.Test.YtdnaiifibpbobaaPlay0
import Derived.Test.YtdnaiifibpbobaaTidy1
set_option linter.unusedSimpArgs false
namespace Go.Proofs.Ytdnaiifibpbobaa
open Go.RowKit

set_option maxHeartbeats 1000000 in
theorem drawTidy (a : Option Addr) (len cap : Nat) (zs : List Int) (w : World) (h : IsRow .u8 w a len cap zs) :
    Calls Try.prog 6 #[.slice a len cap] w fun e w' => ∃ a c xs, e = .returned (.slice a xs.length c) ∧ xs.length ≤ c ∧ IsActs w' a xs.length xs ∧ (a = none ∧ c = 0 ∨ ∃ T, a = some ⟨T, 0, none⟩ ∧ w.heap.size ≤ T ∧ T < w'.heap.size ∧ Acts w' T 0 xs) ∧ xs.length ≤ 60 ∧ (∀ x, x ∈ xs → SmA 2 x) ∧ Below w.heap.size w w' := by
  go_enter Try.func6, Try.ntmps6
  go_wp2_with (fail)
  refine (open_any a len cap zs w h).mono ?_
  rintro e w1 ⟨rfl, len', hl, rfl⟩
  have hr := rd_new h hl 0 40
  have hB : Below w.heap.size w (w.alloc (.cells #[.slice a len' cap, .int .i64 0] 40)) := (Below.refl _ _).alloc (Nat.le_refl _) _
  have hsz : (w.alloc (.cells #[.slice a len' cap, .int .i64 0] 40)).heap.size = w.heap.size + 1 := by simp
  generalize w.alloc (.cells #[.slice a len' cap, .int .i64 0] 40) = w1 at *
  go_wp2_with (fail)
  refine (drawPlay w.heap.size 0 w1 hr (by omega)).mono ?_
  rintro e w2 ⟨n, v, xs, rfl, hn1, hn2, hO, hxl, hS, _, hA⟩
  obtain ⟨a', c, rfl, hac, hI, hT⟩ := hO.acts
  go_wp2
  go_ret
  refine ⟨a', c, xs, rfl, hac, hI, ?_, hxl, fun x hx => (hS x hx).wider hn2, hB.trans (hA.below (Nat.le_refl _) (by omega))⟩
  rcases hT with h0 | ⟨T, h1, h2, h3, h4⟩
  · exact Or.inl h0
  · exact Or.inr ⟨T, h1, by omega, h3, h4⟩

theorem wf_two {z : Int} (h0 : 0 ≤ z) (h7 : z < 2) : (Lit.int .i64 z).wf = true := by
  rcases (by omega : z = 0 ∨ z = 1) with e | e <;> subst e <;> decide
theorem smA_wf {x : A5} (h : SmA 2 x) : (Lit.int .i64 x.2.1).wf = true := wf_two h.2.1.1 h.2.1.2

set_option maxHeartbeats 1000000 in
theorem implTidyV (a : Option Addr) (len cap : Nat) (xs : List A5) (w : World) (h : IsActs w a len xs) (hm : len ≤ 2000000) (hS : ∀ x, x ∈ xs → SmA 2 x) :
    Calls Try.prog 7 #[.slice a len cap] w fun e w' => e = .returned (.bool (tidyA xs)) ∧ Below w.heap.size w w' := by
  obtain ⟨hl, h⟩ := h
  rcases h with rfl | ⟨b, o, rfl, hb, hc⟩
  · obtain rfl := List.eq_nil_of_length_eq_zero hl
    have hmm := @run_makeMap Try.prog
    go_enter Try.func7, Try.ntmps7
    go_wp2_with (fail)
    clear hmm
    go_loopw [9] (fun i wr => i = .int .i64 0 ∧ Below w.heap.size w wr) (fun _ _ => 0)
    case atStart => exact ⟨rfl, (Below.refl _ _).alloc (Nat.le_refl _) _⟩
    case round =>
      obtain ⟨rfl, hB⟩ := hrel
      go_wp2
      go_ret
      exact ⟨rfl, hB⟩
  · exact implActsTidy b o len cap xs w hl hm hb hc (fun x hx => smA_wf (hS x hx))
set_option maxHeartbeats 1000000 in
theorem specTidyV (a : Option Addr) (len cap : Nat) (xs : List A5) (w : World) (h : IsActs w a len xs) (hm : len ≤ 2000000) :
    Calls Try.prog 8 #[.slice a len cap] w fun e w' => e = .returned (.bool (tidyA xs)) ∧ Below w.heap.size w w' := by
  obtain ⟨hl, h⟩ := h
  rcases h with rfl | ⟨b, o, rfl, hb, hc⟩
  · obtain rfl := List.eq_nil_of_length_eq_zero hl
    go_enter Try.func8, Try.ntmps8
    go_wp2
    go_loopw [3] (fun i wr => i = .int .i64 0 ∧ wr = w) (fun _ _ => 0)
    case atStart => exact ⟨rfl, rfl⟩
    case round =>
      obtain ⟨rfl, rfl⟩ := hrel
      go_wp2
      go_ret
      exact ⟨rfl, Below.refl _ _⟩
  · exact specActsTidy b o len cap xs w hl hm hb hc
end Go.Proofs.Ytdnaiifibpbobaa
