/-
  What entries and tables come to in the laws over memory: drawn entries, their words, tables compared.
-/
import Derived.Test.YtofiajllhffjcadMemTab0
import Derived.Test.YtofiajllhffjcadMemDraw2
import Derived.Test.YtofiajllhffjcadImplTabAt
import Derived.Test.YtofiajllhffjcadLkMem0
namespace Go.Proofs.Ytofiajllhffjcad
open Go.RowKit

set_option maxHeartbeats 1000000 in
theorem drawEntryNum (a : Option Addr) (len cap : Nat) (zs : List Int) (w : World) (h : IsRow .u8 w a len cap zs) :
    Calls Try.prog 12 #[.slice a len cap] w fun e w' => ∃ (h : Bool) (p : Int) (b : Bool), e = .returned (.agg #[.bool h, .int .i64 p, .bool b]) ∧ -1 ≤ p ∧ p ≤ 6 ∧ Below w.heap.size w w' := by
  go_enter Try.func12, Try.ntmps12
  go_wp2_with (fail)
  refine (open_any a len cap zs _ (h.alloc _)).mono ?_
  rintro e w' ⟨rfl, len', hl, rfl⟩
  go_wp2_with (fail)
  refine (drawEntry (w.heap.size + 1) 0 _ ?hr (by omega)).mono ?_
  case hr => exact (by simpa using rd_new (h.alloc _) hl 0 _)
  rintro e w1 ⟨x, p, b, k', rfl, hp0, hp1, hr, hk, hadv⟩
  obtain ⟨⟨c0, c1, c2⟩, ⟨f0, f1, f2⟩, hlt⟩ := hadv.keep3 w.heap.size (by simp; omega) (by omega)
  have hB := hadv.below (B := w.heap.size) (by omega) (by simp; omega)
  go_wp2
  refine bodyPost_ret (v := .agg #[.bool x, .int .i64 p, .bool b]) ?res rfl ⟨_, _, _, rfl, by omega, by omega, ?_⟩
  case res => simp [results, Try.results12, go_sem, c0, c1, c2]
  (repeat' (with_reducible (first | exact Below.refl _ _ | apply Below.setCell | apply Below.alloc | apply below_drewN | apply Below.drew | refine Below.trans ?_ (Below.mono (by assumption) ?_)))) <;> (first | exact Nat.le_refl _ | (simp; done) | (simp; omega) | (simp at *; omega))


set_option maxHeartbeats 400000 in
theorem specEntryNum (h : Bool) (p : Int) (b : Bool) (w : World) (h1 : -1000 ≤ p) (h2 : p ≤ 1000) :
    Calls Try.prog 17 #[ent h p b] w fun e w' => e = .returned (.int .i64 (bif h then (bif b then 1 + 2 * p + 1 else 1 + 2 * p) else 0)) ∧ Below w.heap.size w w' := by
  unfold ent
  cases h <;> cases b
  all_goals
    go_enter Try.func17, Try.ntmps17
    go_wp2
    go_ret
    refine ⟨rfl, ?_⟩
    (repeat' (with_reducible (first | exact Below.refl _ _ | apply Below.setCell | apply Below.alloc | apply below_drewN | apply Below.drew))) <;> (first | exact Nat.le_refl _ | (simp; done) | (simp; omega))


theorem method_gapNum (w : World) : Sem.run Try.prog (method 197 77 (.agg #[]) "loop.example/casket/impl.num") w = .ok (66, .agg #[]) w := by kernel_rfl

theorem method_leadNum (p : Int) (b : Bool) (w : World) : Sem.run Try.prog (method 197 68 (.agg #[.int .i64 p, .bool b]) "loop.example/casket/impl.num") w = .ok (38, .agg #[.int .i64 p, .bool b]) w := by kernel_rfl


set_option maxHeartbeats 400000 in
theorem implEntryNum_f (p : Int) (b : Bool) (w : World) :
    Calls Try.prog 14 #[ent false p b] w fun e w' => e = .returned (.int .i64 0) ∧ Below w.heap.size w w' := by
  unfold ent
  have m1 := method_gapNum
  go_enter Try.func14, Try.ntmps14
  go_wp2
  go_ret
  refine ⟨rfl, ?_⟩
  (repeat' (with_reducible (first | exact Below.refl _ _ | apply Below.setCell | apply Below.alloc | apply below_drewN | apply Below.drew))) <;> (first | exact Nat.le_refl _ | (simp; done) | (simp; omega))


set_option maxHeartbeats 400000 in
theorem implEntryNum_t (p : Int) (b : Bool) (w : World) (h1 : -1000 ≤ p) (h2 : p ≤ 1000) :
    Calls Try.prog 14 #[ent true p b] w fun e w' => e = .returned (.int .i64 (bif b then 1 + 2 * p + 1 else 1 + 2 * p)) ∧ Below w.heap.size w w' := by
  unfold ent
  have m2 := method_leadNum
  cases b
  all_goals
    go_enter Try.func14, Try.ntmps14
    go_wp2
    go_ret
    refine ⟨rfl, ?_⟩
    (repeat' (with_reducible (first | exact Below.refl _ _ | apply Below.setCell | apply Below.alloc | apply below_drewN | apply Below.drew))) <;> (first | exact Nat.le_refl _ | (simp; done) | (simp; omega))


theorem implEntryNum (h : Bool) (p : Int) (b : Bool) (w : World) (h1 : -1000 ≤ p) (h2 : p ≤ 1000) :
    Calls Try.prog 14 #[ent h p b] w fun e w' => e = .returned (.int .i64 (bif h then (bif b then 1 + 2 * p + 1 else 1 + 2 * p) else 0)) ∧ Below w.heap.size w w' := by
  cases h
  · exact implEntryNum_f p b w
  · exact implEntryNum_t p b w h1 h2


set_option maxHeartbeats 400000 in
theorem lkTab_nil (a a' : Option Addr) (cap cap' : Nat) (w : World) :
    Calls Try.prog 15 #[.slice a 0 cap, .slice a' 0 cap'] w fun e w' => e = .returned (.bool true) ∧ w' = w := by
  go_enter Try.func15, Try.ntmps15
  go_wp2
  go_loop [5] (fun i => i = .int .i64 0) (fun _ => 0)
  case atStart => rfl
  case round =>
    subst hrel
    go_wp2
    go_ret
    exact ⟨rfl, rfl⟩


set_option maxHeartbeats 1000000 in
theorem lkTab_same (b o b' o' len cap cap' : Nat) (es : List E3) (w : World) (hl : es.length = len) (hm : len ≤ 1048576) (hc : Ents w b o es) (hc' : Ents w b' o' es) :
    Calls Try.prog 15 #[.slice (some ⟨b, o, none⟩) len cap, .slice (some ⟨b', o', none⟩) len cap'] w fun e w' => e = .returned (.bool true) ∧ ∃ m, w' = w.drewN m := by
  go_enter Try.func15, Try.ntmps15
  go_wp2
  go_loopw [5] (fun i wr => ∃ k m : Nat, k ≤ len ∧ i = .int .i64 k ∧ wr = w.drewN m) (fun i _ => len - (intOf i).toNat)
  case atStart => exact ⟨0, 0, Nat.zero_le _, rfl, rfl⟩
  case round =>
    obtain ⟨k, m, hk, rfl, rfl⟩ := hrel
    by_cases hlt : k < len
    · obtain ⟨c0, c1, c2⟩ := hc k (by omega)
      obtain ⟨d0, d1, d2⟩ := hc' k (by omega)
      generalize hE : es.getD k (false, 0, false) = ek at c0 c1 c2 d0 d1 d2
      obtain ⟨eh, ep, eb⟩ := ek
      have hlti : (k : Int) < (len : Int) := by omega
      clear hE
      go_wp2_with (fail)
      go_quiet (fail)
      go_wp2
      go_roundw
      case rel => exact ⟨k + 1, _, by omega, by go_num, by first | rfl | (rw [World.drewN_drewN])⟩
      case measure => simp [intOf]; omega
    · go_wp2
      go_ret
      exact ⟨rfl, m, rfl⟩



theorem lkEnts (lo hi lo' hi' : Nat) (a a' : Option Addr) (len cap cap' : Nat) (es : List E3) (w : World) (h : HasEnts w lo hi a len es) (h' : HasEnts w lo' hi' a' len es) (hn : len ≤ 1048576) :
    Calls Try.prog 15 #[.slice a len cap, .slice a' len cap'] w fun e w' => e = .returned (.bool true) ∧ Below w.heap.size w w' := by
  obtain ⟨hl, hd⟩ := h
  obtain ⟨_, hd'⟩ := h'
  rcases hd with h0 | ⟨T, rfl, _, h2, hE⟩
  · subst h0
    refine (lkTab_nil a a' cap cap' w).mono ?_
    rintro e w' ⟨rfl, rfl⟩
    exact ⟨rfl, Below.refl _ _⟩
  · rcases hd' with h0 | ⟨T', rfl, _, h2', hE'⟩
    · subst h0
      refine (lkTab_nil _ a' cap cap' w).mono ?_
      rintro e w' ⟨rfl, rfl⟩
      exact ⟨rfl, Below.refl _ _⟩
    · refine (lkTab_same T 0 T' 0 len cap cap' es w hl hn hE hE').mono ?_
      rintro e w' ⟨rfl, m, rfl⟩
      exact ⟨rfl, below_drewN (Below.refl _ _) m⟩

theorem okE_ent (n : Int) : okE (entE n) = true := by
  unfold entE okE
  cases h : inW n
  · simp [pgW, wrW, h]
  · have := inW_bd h
    simp [pgW, h]
    omega
theorem okE_tab (ms : List (List Int)) : (tabM ms).all okE = true := by
  rw [List.all_eq_true]
  intro x hx
  simp [tabM] at hx
  obtain ⟨k, _, rfl⟩ := hx
  exact okE_ent _
end Go.Proofs.Ytofiajllhffjcad
