/-
  No cell of these rows narrows 'for every input' (looked for: loops, veiled, ifaces, maps, wideKeys, modest, calm, conditions, laid).
  DERIVED. THE GIVEN ROWS OF THIS SEAT. 9 by the template 'for every input the law returns true; each argument reads behind the call as it read before'; 0 by the template 'total and deterministic' (their statements: YtdamdjhnhkmncaaTotals.lean).
  GIVEN WITH THE SEED: the statements are not yours to turn. If you find one false, say at which input.
  Laid BY PROGRAM, IN A SANDBOX (cutbox-rows.mjs): the forced cells as the released guide's own fill.sh prints them over the translation e332b1ec230ee35a… (all of the seat's roots in one cut). By AI agents, Wed Nov 11 2026. No macro, syntax, notation, axiom, sorry.
-/
import Derived.Test.YtdamdjhnhkmncaaChecked
import GoSem.Claim
import GoSem.ClaimJoined
import GoSem.ClaimMapViews
import Derived.JoinedTies
import Derived.KernelRfl
namespace Go.Proofs.Ytdamdjhnhkmncaa
/- THE CELL 'sum', in the pinned program and in every row, IS THE sha256 OF THE DUMP (.gsa) THAT YtdamdjhnhkmncaaProg.lean LOADS. Nothing in Lean hashes anything: it is a label: what it is worth is what the hold of that sum in a sandbox is worth. -/
noncomputable def Try.pinned : Pinned := { name := "ytdamdjhnhkmncaa", sum := "e332b1ec230ee35a5185bca0253df89380db17c88c93b5ba16485345431add7c", checked := Try.checked }
namespace Rows
def none {H : Type} : Left H := { results := [], args := [] }

/-- 'laws.FnHostLoad': WHATEVER THE INPUT: true; the input reads as it did. -/
def fnHostLoadSpec : ChangeSpec := { name := "fnHostLoad", fn := fun _ => fun
  | [d] => { results := [.lit (.bool true)], args := [d] }
  | _ => none }
def fnHostLoadRow : OpenClaim := { program := "ytdamdjhnhkmncaa", sum := "e332b1ec230ee35a5185bca0253df89380db17c88c93b5ba16485345431add7c", func := "loop.example/casket/laws.FnHostLoad", spec := "fnHostLoad", apart := false }
def FnHostLoadSaid : Prop := fnHostLoadRow.holds Try.pinned (OpenSpec.ofChange fnHostLoadSpec)

/-- ITS FALSE NEIGHBOUR: 'it returns false'. Refute it at one input. -/
def fnHostLoadWrong : ChangeSpec := { name := "fnHostLoad", fn := fun _ => fun
  | [d] => { results := [.lit (.bool false)], args := [d] }
  | _ => none }
def FnHostLoadWrongFalsely : Prop := fnHostLoadRow.holds Try.pinned (OpenSpec.ofChange fnHostLoadWrong)

/-- 'laws.FnLoadBad': WHATEVER THE INPUT: true; the input reads as it did. -/
def fnLoadBadSpec : ChangeSpec := { name := "fnLoadBad", fn := fun _ => fun
  | [d] => { results := [.lit (.bool true)], args := [d] }
  | _ => none }
def fnLoadBadRow : OpenClaim := { program := "ytdamdjhnhkmncaa", sum := "e332b1ec230ee35a5185bca0253df89380db17c88c93b5ba16485345431add7c", func := "loop.example/casket/laws.FnLoadBad", spec := "fnLoadBad", apart := false }
def FnLoadBadSaid : Prop := fnLoadBadRow.holds Try.pinned (OpenSpec.ofChange fnLoadBadSpec)

/-- ITS FALSE NEIGHBOUR: 'it returns false'. Refute it at one input. -/
def fnLoadBadWrong : ChangeSpec := { name := "fnLoadBad", fn := fun _ => fun
  | [d] => { results := [.lit (.bool false)], args := [d] }
  | _ => none }
def FnLoadBadWrongFalsely : Prop := fnLoadBadRow.holds Try.pinned (OpenSpec.ofChange fnLoadBadWrong)

/-- 'laws.FnExactPageIn': WHATEVER THE INPUT: true; the input reads as it did. -/
def fnExactPageInSpec : ChangeSpec := { name := "fnExactPageIn", fn := fun _ => fun
  | [d1, d2, d3] => { results := [.lit (.bool true)], args := [d1, d2, d3] }
  | _ => none }
def fnExactPageInRow : OpenClaim := { program := "ytdamdjhnhkmncaa", sum := "e332b1ec230ee35a5185bca0253df89380db17c88c93b5ba16485345431add7c", func := "loop.example/casket/laws.FnExactPageIn", spec := "fnExactPageIn", apart := false }
def FnExactPageInSaid : Prop := fnExactPageInRow.holds Try.pinned (OpenSpec.ofChange fnExactPageInSpec)

/-- ITS FALSE NEIGHBOUR: 'it returns false'. Refute it at one input. -/
def fnExactPageInWrong : ChangeSpec := { name := "fnExactPageIn", fn := fun _ => fun
  | [d1, d2, d3] => { results := [.lit (.bool false)], args := [d1, d2, d3] }
  | _ => none }
def FnExactPageInWrongFalsely : Prop := fnExactPageInRow.holds Try.pinned (OpenSpec.ofChange fnExactPageInWrong)

/-- 'laws.FnExactPageOwn': WHATEVER THE INPUT: true; the input reads as it did. -/
def fnExactPageOwnSpec : ChangeSpec := { name := "fnExactPageOwn", fn := fun _ => fun
  | [d1, d2, d3] => { results := [.lit (.bool true)], args := [d1, d2, d3] }
  | _ => none }
def fnExactPageOwnRow : OpenClaim := { program := "ytdamdjhnhkmncaa", sum := "e332b1ec230ee35a5185bca0253df89380db17c88c93b5ba16485345431add7c", func := "loop.example/casket/laws.FnExactPageOwn", spec := "fnExactPageOwn", apart := false }
def FnExactPageOwnSaid : Prop := fnExactPageOwnRow.holds Try.pinned (OpenSpec.ofChange fnExactPageOwnSpec)

/-- ITS FALSE NEIGHBOUR: 'it returns false'. Refute it at one input. -/
def fnExactPageOwnWrong : ChangeSpec := { name := "fnExactPageOwn", fn := fun _ => fun
  | [d1, d2, d3] => { results := [.lit (.bool false)], args := [d1, d2, d3] }
  | _ => none }
def FnExactPageOwnWrongFalsely : Prop := fnExactPageOwnRow.holds Try.pinned (OpenSpec.ofChange fnExactPageOwnWrong)

/-- 'laws.FnExactPageJoin': WHATEVER THE INPUT: true; the input reads as it did. -/
def fnExactPageJoinSpec : ChangeSpec := { name := "fnExactPageJoin", fn := fun _ => fun
  | [d] => { results := [.lit (.bool true)], args := [d] }
  | _ => none }
def fnExactPageJoinRow : OpenClaim := { program := "ytdamdjhnhkmncaa", sum := "e332b1ec230ee35a5185bca0253df89380db17c88c93b5ba16485345431add7c", func := "loop.example/casket/laws.FnExactPageJoin", spec := "fnExactPageJoin", apart := false }
def FnExactPageJoinSaid : Prop := fnExactPageJoinRow.holds Try.pinned (OpenSpec.ofChange fnExactPageJoinSpec)

/-- ITS FALSE NEIGHBOUR: 'it returns false'. Refute it at one input. -/
def fnExactPageJoinWrong : ChangeSpec := { name := "fnExactPageJoin", fn := fun _ => fun
  | [d] => { results := [.lit (.bool false)], args := [d] }
  | _ => none }
def FnExactPageJoinWrongFalsely : Prop := fnExactPageJoinRow.holds Try.pinned (OpenSpec.ofChange fnExactPageJoinWrong)

/-- 'laws.FnExactPageMove': WHATEVER THE INPUT: true; the input reads as it did. -/
def fnExactPageMoveSpec : ChangeSpec := { name := "fnExactPageMove", fn := fun _ => fun
  | [d1, d2] => { results := [.lit (.bool true)], args := [d1, d2] }
  | _ => none }
def fnExactPageMoveRow : OpenClaim := { program := "ytdamdjhnhkmncaa", sum := "e332b1ec230ee35a5185bca0253df89380db17c88c93b5ba16485345431add7c", func := "loop.example/casket/laws.FnExactPageMove", spec := "fnExactPageMove", apart := false }
def FnExactPageMoveSaid : Prop := fnExactPageMoveRow.holds Try.pinned (OpenSpec.ofChange fnExactPageMoveSpec)

/-- ITS FALSE NEIGHBOUR: 'it returns false'. Refute it at one input. -/
def fnExactPageMoveWrong : ChangeSpec := { name := "fnExactPageMove", fn := fun _ => fun
  | [d1, d2] => { results := [.lit (.bool false)], args := [d1, d2] }
  | _ => none }
def FnExactPageMoveWrongFalsely : Prop := fnExactPageMoveRow.holds Try.pinned (OpenSpec.ofChange fnExactPageMoveWrong)

/-- 'laws.FnExactHostRead': WHATEVER THE INPUT: true; the input reads as it did. -/
def fnExactHostReadSpec : ChangeSpec := { name := "fnExactHostRead", fn := fun _ => fun
  | [d1, d2, d3, d4] => { results := [.lit (.bool true)], args := [d1, d2, d3, d4] }
  | _ => none }
def fnExactHostReadRow : OpenClaim := { program := "ytdamdjhnhkmncaa", sum := "e332b1ec230ee35a5185bca0253df89380db17c88c93b5ba16485345431add7c", func := "loop.example/casket/laws.FnExactHostRead", spec := "fnExactHostRead", apart := false }
def FnExactHostReadSaid : Prop := fnExactHostReadRow.holds Try.pinned (OpenSpec.ofChange fnExactHostReadSpec)

/-- ITS FALSE NEIGHBOUR: 'it returns false'. Refute it at one input. -/
def fnExactHostReadWrong : ChangeSpec := { name := "fnExactHostRead", fn := fun _ => fun
  | [d1, d2, d3, d4] => { results := [.lit (.bool false)], args := [d1, d2, d3, d4] }
  | _ => none }
def FnExactHostReadWrongFalsely : Prop := fnExactHostReadRow.holds Try.pinned (OpenSpec.ofChange fnExactHostReadWrong)

/-- 'laws.FnExactHostWrite': WHATEVER THE INPUT: true; the input reads as it did. -/
def fnExactHostWriteSpec : ChangeSpec := { name := "fnExactHostWrite", fn := fun _ => fun
  | [d1, d2, d3, d4, d5] => { results := [.lit (.bool true)], args := [d1, d2, d3, d4, d5] }
  | _ => none }
def fnExactHostWriteRow : OpenClaim := { program := "ytdamdjhnhkmncaa", sum := "e332b1ec230ee35a5185bca0253df89380db17c88c93b5ba16485345431add7c", func := "loop.example/casket/laws.FnExactHostWrite", spec := "fnExactHostWrite", apart := false }
def FnExactHostWriteSaid : Prop := fnExactHostWriteRow.holds Try.pinned (OpenSpec.ofChange fnExactHostWriteSpec)

/-- ITS FALSE NEIGHBOUR: 'it returns false'. Refute it at one input. -/
def fnExactHostWriteWrong : ChangeSpec := { name := "fnExactHostWrite", fn := fun _ => fun
  | [d1, d2, d3, d4, d5] => { results := [.lit (.bool false)], args := [d1, d2, d3, d4, d5] }
  | _ => none }
def FnExactHostWriteWrongFalsely : Prop := fnExactHostWriteRow.holds Try.pinned (OpenSpec.ofChange fnExactHostWriteWrong)

/-- 'laws.FnExactHostCarry': WHATEVER THE INPUT: true; the input reads as it did. -/
def fnExactHostCarrySpec : ChangeSpec := { name := "fnExactHostCarry", fn := fun _ => fun
  | [d] => { results := [.lit (.bool true)], args := [d] }
  | _ => none }
def fnExactHostCarryRow : OpenClaim := { program := "ytdamdjhnhkmncaa", sum := "e332b1ec230ee35a5185bca0253df89380db17c88c93b5ba16485345431add7c", func := "loop.example/casket/laws.FnExactHostCarry", spec := "fnExactHostCarry", apart := false }
def FnExactHostCarrySaid : Prop := fnExactHostCarryRow.holds Try.pinned (OpenSpec.ofChange fnExactHostCarrySpec)

/-- ITS FALSE NEIGHBOUR: 'it returns false'. Refute it at one input. -/
def fnExactHostCarryWrong : ChangeSpec := { name := "fnExactHostCarry", fn := fun _ => fun
  | [d] => { results := [.lit (.bool false)], args := [d] }
  | _ => none }
def FnExactHostCarryWrongFalsely : Prop := fnExactHostCarryRow.holds Try.pinned (OpenSpec.ofChange fnExactHostCarryWrong)

/- THE SECOND FORM. 'bulk': how many values and letters a reading holds, each counted each time it is reached (what is shared counts as often as it is met; a slice's spare places count too). A statement '..UptoSaid' is the law's where the arguments, and the package variables that the reading takes, are together of bulk at most 1048576: NARROWER than '..Said'. Prove '..Said' where nothing that the law and all that it calls make is longer than what came in: it says more and counts as full. Else prove '..UptoSaid'. A law counts once. -/
mutual
def uptoBulk {H : Type} : DataW H → Nat
  | .lit (.string bytes) => bytes.length + 1
  | .lit _ => 1
  | .nil => 1
  | .ptr d => uptoBulk d + 1
  | .slice elems spare => uptoBulkAll elems + uptoBulkAll spare + 1
  | .agg parts => uptoBulkAll parts + 1
  | .iface _ d => uptoBulk d + 1
  | .map entries => uptoBulkEntries entries + 1
  | .held _ => 1
def uptoBulkAll {H : Type} : List (DataW H) → Nat
  | [] => 0
  | d :: r => uptoBulk d + uptoBulkAll r
def uptoBulkEntries {H : Type} : List (Lit × DataW H) → Nat
  | [] => 0
  | x :: r => uptoBulkEntry x + uptoBulkEntries r
def uptoBulkEntry {H : Type} : Lit × DataW H → Nat
  | (.string bytes, d) => bytes.length + uptoBulk d + 1
  | (_, d) => uptoBulk d + 1
 end
def uptoSmall : (H : Type) → List (DataW H) → Bool := fun _ ds => decide (uptoBulkAll ds ≤ 1048576)
def OpenSpec.upto (s : _root_.Go.ChangeSpec) : _root_.Go.OpenSpec := { _root_.Go.OpenSpec.ofChange s with cond := some uptoSmall }

/-- 'laws.FnHostLoad', WHERE WHAT IT READS IS OF BULK AT MOST 1048576: true; the input reads as it did. -/
def fnHostLoadUptoRow : OpenClaim := { program := "ytdamdjhnhkmncaa", sum := "e332b1ec230ee35a5185bca0253df89380db17c88c93b5ba16485345431add7c", func := "loop.example/casket/laws.FnHostLoad", spec := "fnHostLoad", apart := false, narrowed := true }
def FnHostLoadUptoSaid : Prop := fnHostLoadUptoRow.holds Try.pinned (OpenSpec.upto fnHostLoadSpec)

/-- 'laws.FnLoadBad', WHERE WHAT IT READS IS OF BULK AT MOST 1048576: true; the input reads as it did. -/
def fnLoadBadUptoRow : OpenClaim := { program := "ytdamdjhnhkmncaa", sum := "e332b1ec230ee35a5185bca0253df89380db17c88c93b5ba16485345431add7c", func := "loop.example/casket/laws.FnLoadBad", spec := "fnLoadBad", apart := false, narrowed := true }
def FnLoadBadUptoSaid : Prop := fnLoadBadUptoRow.holds Try.pinned (OpenSpec.upto fnLoadBadSpec)

/-- 'laws.FnExactPageIn', WHERE WHAT IT READS IS OF BULK AT MOST 1048576: true; the input reads as it did. -/
def fnExactPageInUptoRow : OpenClaim := { program := "ytdamdjhnhkmncaa", sum := "e332b1ec230ee35a5185bca0253df89380db17c88c93b5ba16485345431add7c", func := "loop.example/casket/laws.FnExactPageIn", spec := "fnExactPageIn", apart := false, narrowed := true }
def FnExactPageInUptoSaid : Prop := fnExactPageInUptoRow.holds Try.pinned (OpenSpec.upto fnExactPageInSpec)

/-- 'laws.FnExactPageOwn', WHERE WHAT IT READS IS OF BULK AT MOST 1048576: true; the input reads as it did. -/
def fnExactPageOwnUptoRow : OpenClaim := { program := "ytdamdjhnhkmncaa", sum := "e332b1ec230ee35a5185bca0253df89380db17c88c93b5ba16485345431add7c", func := "loop.example/casket/laws.FnExactPageOwn", spec := "fnExactPageOwn", apart := false, narrowed := true }
def FnExactPageOwnUptoSaid : Prop := fnExactPageOwnUptoRow.holds Try.pinned (OpenSpec.upto fnExactPageOwnSpec)

/-- 'laws.FnExactPageJoin', WHERE WHAT IT READS IS OF BULK AT MOST 1048576: true; the input reads as it did. -/
def fnExactPageJoinUptoRow : OpenClaim := { program := "ytdamdjhnhkmncaa", sum := "e332b1ec230ee35a5185bca0253df89380db17c88c93b5ba16485345431add7c", func := "loop.example/casket/laws.FnExactPageJoin", spec := "fnExactPageJoin", apart := false, narrowed := true }
def FnExactPageJoinUptoSaid : Prop := fnExactPageJoinUptoRow.holds Try.pinned (OpenSpec.upto fnExactPageJoinSpec)

/-- 'laws.FnExactPageMove', WHERE WHAT IT READS IS OF BULK AT MOST 1048576: true; the input reads as it did. -/
def fnExactPageMoveUptoRow : OpenClaim := { program := "ytdamdjhnhkmncaa", sum := "e332b1ec230ee35a5185bca0253df89380db17c88c93b5ba16485345431add7c", func := "loop.example/casket/laws.FnExactPageMove", spec := "fnExactPageMove", apart := false, narrowed := true }
def FnExactPageMoveUptoSaid : Prop := fnExactPageMoveUptoRow.holds Try.pinned (OpenSpec.upto fnExactPageMoveSpec)

/-- 'laws.FnExactHostRead', WHERE WHAT IT READS IS OF BULK AT MOST 1048576: true; the input reads as it did. -/
def fnExactHostReadUptoRow : OpenClaim := { program := "ytdamdjhnhkmncaa", sum := "e332b1ec230ee35a5185bca0253df89380db17c88c93b5ba16485345431add7c", func := "loop.example/casket/laws.FnExactHostRead", spec := "fnExactHostRead", apart := false, narrowed := true }
def FnExactHostReadUptoSaid : Prop := fnExactHostReadUptoRow.holds Try.pinned (OpenSpec.upto fnExactHostReadSpec)

/-- 'laws.FnExactHostWrite', WHERE WHAT IT READS IS OF BULK AT MOST 1048576: true; the input reads as it did. -/
def fnExactHostWriteUptoRow : OpenClaim := { program := "ytdamdjhnhkmncaa", sum := "e332b1ec230ee35a5185bca0253df89380db17c88c93b5ba16485345431add7c", func := "loop.example/casket/laws.FnExactHostWrite", spec := "fnExactHostWrite", apart := false, narrowed := true }
def FnExactHostWriteUptoSaid : Prop := fnExactHostWriteUptoRow.holds Try.pinned (OpenSpec.upto fnExactHostWriteSpec)

/-- 'laws.FnExactHostCarry', WHERE WHAT IT READS IS OF BULK AT MOST 1048576: true; the input reads as it did. -/
def fnExactHostCarryUptoRow : OpenClaim := { program := "ytdamdjhnhkmncaa", sum := "e332b1ec230ee35a5185bca0253df89380db17c88c93b5ba16485345431add7c", func := "loop.example/casket/laws.FnExactHostCarry", spec := "fnExactHostCarry", apart := false, narrowed := true }
def FnExactHostCarryUptoSaid : Prop := fnExactHostCarryUptoRow.holds Try.pinned (OpenSpec.upto fnExactHostCarrySpec)

end Rows
end Go.Proofs.Ytdamdjhnhkmncaa
