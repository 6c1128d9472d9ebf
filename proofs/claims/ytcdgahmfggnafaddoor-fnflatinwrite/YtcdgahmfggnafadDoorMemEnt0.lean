/-
  What entries and tables come to in the laws over memory: drawn entries, their words, tables compared.
-/
import Derived.Test.YtcdgahmfggnafadDoorMemTab0
import Derived.Test.YtcdgahmfggnafadDoorMemDraw2
import Derived.Test.YtcdgahmfggnafadDoorImplTabAt
import Derived.Test.YtcdgahmfggnafadDoorLkMem0
namespace Go.Proofs.YtcdgahmfggnafadDoor
open Go.RowKit

theorem okE_ent (n : Int) : okE (entE n) = true := by
  unfold entE okE
  cases h : inW n
  · simp [pgW, wrW, h]
  · have := inW_bd h
    simp [pgW, h]
    omega
theorem okE_tab (ms : List (List Int)) : (tabM ms).all okE = true := by
  rw [List.all_eq_true]
  intro x hx
  simp [tabM] at hx
  obtain ⟨k, _, rfl⟩ := hx
  exact okE_ent _

theorem method_gapNum (w : World) : Sem.run Tryd.prog (method 254 124 (.agg #[]) "loop.example/casket/impl.num") w = .ok (105, .agg #[]) w := by kernel_rfl

theorem method_leadNum (p : Int) (b : Bool) (w : World) : Sem.run Tryd.prog (method 254 85 (.agg #[.int .i64 p, .bool b]) "loop.example/casket/impl.num") w = .ok (56, .agg #[.int .i64 p, .bool b]) w := by kernel_rfl


set_option maxHeartbeats 400000 in
theorem lkTab_nil (a a' : Option Addr) (cap cap' : Nat) (w : World) :
    Calls Tryd.prog 20 #[.slice a 0 cap, .slice a' 0 cap'] w fun e w' => e = .returned (.bool true) ∧ w' = w := by
  go_enter Tryd.func20, Tryd.ntmps20
  go_wp2
  go_loop [5] (fun i => i = .int .i64 0) (fun _ => 0)
  case atStart => rfl
  case round =>
    subst hrel
    go_wp2
    go_ret
    exact ⟨rfl, rfl⟩


set_option maxHeartbeats 1000000 in
theorem lkTab_same (b o b' o' len cap cap' : Nat) (es : List E3) (w : World) (hl : es.length = len) (hm : len ≤ 1048576) (hc : Ents w b o es) (hc' : Ents w b' o' es) :
    Calls Tryd.prog 20 #[.slice (some ⟨b, o, none⟩) len cap, .slice (some ⟨b', o', none⟩) len cap'] w fun e w' => e = .returned (.bool true) ∧ ∃ m, w' = w.drewN m := by
  go_enter Tryd.func20, Tryd.ntmps20
  go_wp2
  go_loopw [5] (fun i wr => ∃ k m : Nat, k ≤ len ∧ i = .int .i64 k ∧ wr = w.drewN m) (fun i _ => len - (intOf i).toNat)
  case atStart => exact ⟨0, 0, Nat.zero_le _, rfl, rfl⟩
  case round =>
    obtain ⟨k, m, hk, rfl, rfl⟩ := hrel
    by_cases hlt : k < len
    · obtain ⟨c0, c1, c2⟩ := hc k (by omega)
      obtain ⟨d0, d1, d2⟩ := hc' k (by omega)
      generalize hE : es.getD k (false, 0, false) = ek at c0 c1 c2 d0 d1 d2
      obtain ⟨eh, ep, eb⟩ := ek
      have hlti : (k : Int) < (len : Int) := by omega
      clear hE
      go_wp2_with (fail)
      go_quiet (fail)
      go_wp2
      go_roundw
      case rel => exact ⟨k + 1, _, by omega, by go_num, by first | rfl | (rw [World.drewN_drewN])⟩
      case measure => simp [intOf]; omega
    · go_wp2
      go_ret
      exact ⟨rfl, m, rfl⟩



theorem lkEnts (lo hi lo' hi' : Nat) (a a' : Option Addr) (len cap cap' : Nat) (es : List E3) (w : World) (h : HasEnts w lo hi a len es) (h' : HasEnts w lo' hi' a' len es) (hn : len ≤ 1048576) :
    Calls Tryd.prog 20 #[.slice a len cap, .slice a' len cap'] w fun e w' => e = .returned (.bool true) ∧ Below w.heap.size w w' := by
  obtain ⟨hl, hd⟩ := h
  obtain ⟨_, hd'⟩ := h'
  rcases hd with h0 | ⟨T, rfl, _, h2, hE⟩
  · subst h0
    refine (lkTab_nil a a' cap cap' w).mono ?_
    rintro e w' ⟨rfl, rfl⟩
    exact ⟨rfl, Below.refl _ _⟩
  · rcases hd' with h0 | ⟨T', rfl, _, h2', hE'⟩
    · subst h0
      refine (lkTab_nil _ a' cap cap' w).mono ?_
      rintro e w' ⟨rfl, rfl⟩
      exact ⟨rfl, Below.refl _ _⟩
    · refine (lkTab_same T 0 T' 0 len cap cap' es w hl hn hE hE').mono ?_
      rintro e w' ⟨rfl, m, rfl⟩
      exact ⟨rfl, below_drewN (Below.refl _ _) m⟩

end Go.Proofs.YtcdgahmfggnafadDoor
