/-
  What the program's own iterator over pieces hands on: the pieces between single blanks, in their order.
-/
import Derived.RangeFuncNested
import Derived.RangeFuncBound
import Derived.RangeFuncCalls
import Derived.RangeFuncLeaves
import Derived.RangeFuncBox
import Derived.Shelf.Abstract
import Derived.Shelf.RegionOpen
import Derived.WalkKit
import Derived.OwnWalkIn
import Derived.TacticsInMore
import Derived.LoopNIn
import Derived.LoopIn
import Derived.Maps.AppendAt
import Derived.Test.YtfiailnlkhonnaaDoorCut0
namespace Go.Proofs.YtfiailnlkhonnaaDoor
open Go.RowKit Go.Shelf
attribute [local go_sem] Oper.semAt_some

/-- A piece of a text that is not too long. -/
abbrev Pc := { x : ByteArray // x.size ≤ 1048576 }
def pcs (ys : List Pc) : List (List UInt8) := ys.map fun x => x.1.data.toList
theorem pcs_snoc (ys : List Pc) (x : Pc) : pcs (ys ++ [x]) = pcs ys ++ [x.1.data.toList] := by simp [pcs]
theorem pcs_len (ys : List Pc) : (pcs ys).length = ys.length := by simp [pcs]
def leftP (r m : Value) : Nat := match r, m with
  | .string s, .bool true => s.size + 1
  | _, _ => 0

theorem below_grownS {W w' : World} (h : Below W.heap.size W w') : W.grownBy w' none := ⟨h.os, h.tape, h.output, h.size, fun k hk _ => h.block k hk⟩

set_option maxRecDepth 100000 in
set_option maxHeartbeats 2000000 in
theorem pieces1_in (n : Nat) (hn : 1 ≤ n) (l Bn n₀ B₀ : Nat) (line : ByteArray) (hs : line.size ≤ 1048576) (J Jx : List Pc → World → Prop) (hJ : AbidesFrom B₀ J)
    (hY : ∀ (pre : List Pc) (x : Pc) W, J pre W → pre.length < (split32 line.data.toList).length → YieldAt Fence.wide (n - 1) Tryd.prog l #[.string x.1] W fun e W' =>
      (e = .returned (.bool true) ∧ J (pre ++ [x]) W' ∧ Below n₀ W W') ∨ (e = .returned (.bool false) ∧ Jx (pre ++ [x]) W'))
    (W : World) (hBn : W.cell? ⟨Bn, 0, none⟩ = some (.string line)) (h0 : J [] W) :
    CallsIn Fence.wide n Tryd.prog 32 #[.func (.yield l) #[] #[], .pointer (some ⟨Bn, 0, none⟩)] W fun e W' => (∃ v, e = .returned v) ∧
      ((∃ ys, pcs ys = split32 line.data.toList ∧ J ys W') ∨ (∃ pre, pcs pre <+: split32 line.data.toList ∧ Jx pre W')) := by
  refine callsIn_of_wp Tryd.func32 rfl trivial ?_ rfl
  simp only [Tryd.ntmps32, List.size_toArray, List.length_cons, List.length_nil, Nat.reduceAdd, Nat.reduceSub, Array.replicate_succ, Array.replicate_zero, List.push_toArray, List.append_toArray, List.nil_append, List.cons_append]
  gi_wp2
  gi_loopw [3, 4, 5] (fun r m _ wr => ∃ (pre : List Pc) (rest : ByteArray) (more : Bool), r = .string rest ∧ m = .bool more ∧ rest.size ≤ 1048576 ∧ Hid (split32 line.data.toList = pcs pre ++ bif more then split32 rest.data.toList else []) ∧ J pre wr)
    (fun r m _ _ => leftP r m)
  case atStart => exact ⟨[], line, true, rfl, rfl, hs, rfl, h0⟩
  case round =>
    obtain ⟨pre, rest, more, rfl, rfl, hr, hx, hJs⟩ := hrel
    cases more with
    | false =>
      gi_wp2
      go_end0
      exact ⟨⟨_, rfl⟩, .inl ⟨pre, by rw [hx.out]; simp, hJs⟩⟩
    | true =>
      gi_wp2_with (fail)
      try refine ⟨trivial, ?_⟩
      refine (callsIn_wide.2 (cutAny rest _ hr)).mono ?_
      rintro e w1 ⟨p, r, m, rfl, hsp, hp, hr', hmr, nn, rfl⟩
      have hJ1 : J pre (wr.drewN nn) := hJ pre wr (wr.drewN nn) none hJs (below_grownS (below_drewN (Below.refl _ _) nn)) (fun r e => by cases e)
      have hx1 : split32 line.data.toList = pcs pre ++ (p.data.toList :: bif m then split32 r.data.toList else []) := by
        have := hx.out
        rw [cond_true, hsp] at this
        exact this
      have HX : Hid (split32 line.data.toList = pcs (pre ++ [⟨p, Nat.le_trans hp hr⟩]) ++ bif m then split32 r.data.toList else []) := by
        have : split32 line.data.toList = pcs (pre ++ [⟨p, Nat.le_trans hp hr⟩]) ++ bif m then split32 r.data.toList else [] := by
          rw [hx1, pcs_snoc, List.append_assoc]; rfl
        exact this
      obtain ⟨fn, tmps, assign, body, hy, hR⟩ := hY pre ⟨p, Nat.le_trans hp hr⟩ (wr.drewN nn) hJ1 (by rw [hx1, List.length_append, pcs_len]; simp)
      dsimp only at hy
      clear hx hsp hx1
      gi_wp2
      refine hR.mono ?_
      rintro e W3 (⟨rfl, hJ3, hk3⟩ | ⟨rfl, hJx3⟩)
      · gi_wp2
        go_roundw
        case rel => exact ⟨_, r, m, rfl, rfl, Nat.le_trans hr' hr, HX, hJ3⟩
        case measure =>
          cases m
          · simp [leftP]
          · have := hmr rfl
            simp [leftP]; omega
      · gi_wp2
        refine bodyPost_ret (results_none rfl _ _ _) rfl ?_
        exact ⟨⟨_, rfl⟩, .inr ⟨_, ⟨_, HX.out.symm⟩, hJx3⟩⟩

/-- What the iterator's maker hands back. -/
theorem pieces_any (n : Nat) (line : ByteArray) (w : World) :
    CallsIn Fence.wide n Tryd.prog 20 #[.string line] w fun e w' => e = .returned (.func (.func 32) #[] #[.pointer (some ⟨w.heap.size, 0, none⟩)]) ∧ w' = w.alloc (.cells #[.string line] 9) := by
  refine callsIn_of_wp Tryd.func20 rfl trivial ?_ rfl
  simp only [Tryd.ntmps20, List.size_toArray, List.length_cons, List.length_nil, Nat.reduceAdd, Nat.reduceSub, Array.replicate_succ, Array.replicate_zero, List.push_toArray, List.append_toArray, List.nil_append, List.cons_append]
  gi_wp2
  go_ret
  exact ⟨rfl, rfl⟩

theorem pieces_stops (n : Nat) (hn : 1 ≤ n) (Bn n₀ : Nat) (line : ByteArray) (hs : line.size ≤ 1048576) (w : World) (hBn : Bn < w.heap.size) (hc : w.cell? ⟨Bn, 0, none⟩ = some (.string line)) :
    SeqStopsK Fence.wide n Tryd.prog 32 #[.pointer (some ⟨Bn, 0, none⟩)] (fun x : Pc => #[Value.string x.1]) (Below n₀) (fun ys => pcs ys = split32 line.data.toList) (fun pre => pcs pre <+: split32 line.data.toList) (split32 line.data.toList).length w := fun l J Jx W hW hJ _ hY h0 =>
  pieces1_in n hn l Bn n₀ _ line hs J Jx hJ hY W ((hW.cell (p := ⟨Bn, 0, none⟩) hBn).trans hc) h0
end Go.Proofs.YtfiailnlkhonnaaDoor
