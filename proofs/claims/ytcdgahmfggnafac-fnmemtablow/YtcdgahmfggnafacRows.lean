/-
  No cell of these rows narrows 'for every input' (looked for: loops, veiled, ifaces, maps, wideKeys, modest, calm, conditions, laid).
  DERIVED. THE GIVEN ROWS OF THIS SEAT. 6 by the template 'for every input the law returns true; each argument reads behind the call as it read before'; 0 by the template 'total and deterministic' (their statements: YtcdgahmfggnafacTotals.lean).
  GIVEN WITH THE SEED: the statements are not yours to turn. If you find one false, say at which input.
  Laid BY PROGRAM, IN A SANDBOX (cutbox-rows.mjs): the forced cells as the released guide's own fill.sh prints them over the translation a96d902d71f699a6… (all of the seat's roots in one cut). By AI agents, Wed Nov 11 2026. No macro, syntax, notation, axiom, sorry.
-/
import Derived.Test.YtcdgahmfggnafacChecked
import GoSem.Claim
import GoSem.ClaimJoined
import GoSem.ClaimMapViews
import Derived.JoinedTies
import Derived.KernelRfl
namespace Go.Proofs.Ytcdgahmfggnafac
/- THE CELL 'sum', in the pinned program and in every row, IS THE sha256 OF THE DUMP (.gsa) THAT YtcdgahmfggnafacProg.lean LOADS. Nothing in Lean hashes anything: it is a label: what it is worth is what the hold of that sum in a sandbox is worth. -/
noncomputable def Try.pinned : Pinned := { name := "ytcdgahmfggnafac", sum := "a96d902d71f699a6b0fc300f1f0ca4587c150fc10526a864bb7e612d01d8cc10", checked := Try.checked }
namespace Rows
def none {H : Type} : Left H := { results := [], args := [] }

/-- 'laws.FnTabOne': WHATEVER THE INPUT: true; the input reads as it did. -/
def fnTabOneSpec : ChangeSpec := { name := "fnTabOne", fn := fun _ => fun
  | [d1, d2] => { results := [.lit (.bool true)], args := [d1, d2] }
  | _ => none }
def fnTabOneRow : OpenClaim := { program := "ytcdgahmfggnafac", sum := "a96d902d71f699a6b0fc300f1f0ca4587c150fc10526a864bb7e612d01d8cc10", func := "loop.example/casket/laws.FnTabOne", spec := "fnTabOne", inPlace := ["internal/abi.NoEscape", "internal/bytealg.MakeNoZero"], unfollowed := true, recurses := true, apart := false }
def FnTabOneSaid : Prop := fnTabOneRow.holds Try.pinned (OpenSpec.ofChange fnTabOneSpec)

/-- ITS FALSE NEIGHBOUR: 'it returns false'. Refute it at one input. -/
def fnTabOneWrong : ChangeSpec := { name := "fnTabOne", fn := fun _ => fun
  | [d1, d2] => { results := [.lit (.bool false)], args := [d1, d2] }
  | _ => none }
def FnTabOneWrongFalsely : Prop := fnTabOneRow.holds Try.pinned (OpenSpec.ofChange fnTabOneWrong)

/-- 'laws.FnMemNew': WHATEVER THE INPUT: true; the input reads as it did. -/
def fnMemNewSpec : ChangeSpec := { name := "fnMemNew", fn := fun _ => fun
  | [d] => { results := [.lit (.bool true)], args := [d] }
  | _ => none }
def fnMemNewRow : OpenClaim := { program := "ytcdgahmfggnafac", sum := "a96d902d71f699a6b0fc300f1f0ca4587c150fc10526a864bb7e612d01d8cc10", func := "loop.example/casket/laws.FnMemNew", spec := "fnMemNew", apart := false }
def FnMemNewSaid : Prop := fnMemNewRow.holds Try.pinned (OpenSpec.ofChange fnMemNewSpec)

/-- ITS FALSE NEIGHBOUR: 'it returns false'. Refute it at one input. -/
def fnMemNewWrong : ChangeSpec := { name := "fnMemNew", fn := fun _ => fun
  | [d] => { results := [.lit (.bool false)], args := [d] }
  | _ => none }
def FnMemNewWrongFalsely : Prop := fnMemNewRow.holds Try.pinned (OpenSpec.ofChange fnMemNewWrong)

/-- 'laws.FnMemWith': WHATEVER THE INPUT: true; the input reads as it did. -/
def fnMemWithSpec : ChangeSpec := { name := "fnMemWith", fn := fun _ => fun
  | [d] => { results := [.lit (.bool true)], args := [d] }
  | _ => none }
def fnMemWithRow : OpenClaim := { program := "ytcdgahmfggnafac", sum := "a96d902d71f699a6b0fc300f1f0ca4587c150fc10526a864bb7e612d01d8cc10", func := "loop.example/casket/laws.FnMemWith", spec := "fnMemWith", apart := false }
def FnMemWithSaid : Prop := fnMemWithRow.holds Try.pinned (OpenSpec.ofChange fnMemWithSpec)

/-- ITS FALSE NEIGHBOUR: 'it returns false'. Refute it at one input. -/
def fnMemWithWrong : ChangeSpec := { name := "fnMemWith", fn := fun _ => fun
  | [d] => { results := [.lit (.bool false)], args := [d] }
  | _ => none }
def FnMemWithWrongFalsely : Prop := fnMemWithRow.holds Try.pinned (OpenSpec.ofChange fnMemWithWrong)

/-- 'laws.FnMemTwice': WHATEVER THE INPUT: true; the input reads as it did. -/
def fnMemTwiceSpec : ChangeSpec := { name := "fnMemTwice", fn := fun _ => fun
  | [d1, d2] => { results := [.lit (.bool true)], args := [d1, d2] }
  | _ => none }
def fnMemTwiceRow : OpenClaim := { program := "ytcdgahmfggnafac", sum := "a96d902d71f699a6b0fc300f1f0ca4587c150fc10526a864bb7e612d01d8cc10", func := "loop.example/casket/laws.FnMemTwice", spec := "fnMemTwice", apart := false }
def FnMemTwiceSaid : Prop := fnMemTwiceRow.holds Try.pinned (OpenSpec.ofChange fnMemTwiceSpec)

/-- ITS FALSE NEIGHBOUR: 'it returns false'. Refute it at one input. -/
def fnMemTwiceWrong : ChangeSpec := { name := "fnMemTwice", fn := fun _ => fun
  | [d1, d2] => { results := [.lit (.bool false)], args := [d1, d2] }
  | _ => none }
def FnMemTwiceWrongFalsely : Prop := fnMemTwiceRow.holds Try.pinned (OpenSpec.ofChange fnMemTwiceWrong)

/-- 'laws.FnMemTab': WHATEVER THE INPUT: true; the input reads as it did. -/
def fnMemTabSpec : ChangeSpec := { name := "fnMemTab", fn := fun _ => fun
  | [d] => { results := [.lit (.bool true)], args := [d] }
  | _ => none }
def fnMemTabRow : OpenClaim := { program := "ytcdgahmfggnafac", sum := "a96d902d71f699a6b0fc300f1f0ca4587c150fc10526a864bb7e612d01d8cc10", func := "loop.example/casket/laws.FnMemTab", spec := "fnMemTab", apart := false }
def FnMemTabSaid : Prop := fnMemTabRow.holds Try.pinned (OpenSpec.ofChange fnMemTabSpec)

/-- ITS FALSE NEIGHBOUR: 'it returns false'. Refute it at one input. -/
def fnMemTabWrong : ChangeSpec := { name := "fnMemTab", fn := fun _ => fun
  | [d] => { results := [.lit (.bool false)], args := [d] }
  | _ => none }
def FnMemTabWrongFalsely : Prop := fnMemTabRow.holds Try.pinned (OpenSpec.ofChange fnMemTabWrong)

/-- 'laws.FnMemTabLow': WHATEVER THE INPUT: true; the input reads as it did. -/
def fnMemTabLowSpec : ChangeSpec := { name := "fnMemTabLow", fn := fun _ => fun
  | [d] => { results := [.lit (.bool true)], args := [d] }
  | _ => none }
def fnMemTabLowRow : OpenClaim := { program := "ytcdgahmfggnafac", sum := "a96d902d71f699a6b0fc300f1f0ca4587c150fc10526a864bb7e612d01d8cc10", func := "loop.example/casket/laws.FnMemTabLow", spec := "fnMemTabLow", apart := false }
def FnMemTabLowSaid : Prop := fnMemTabLowRow.holds Try.pinned (OpenSpec.ofChange fnMemTabLowSpec)

/-- ITS FALSE NEIGHBOUR: 'it returns false'. Refute it at one input. -/
def fnMemTabLowWrong : ChangeSpec := { name := "fnMemTabLow", fn := fun _ => fun
  | [d] => { results := [.lit (.bool false)], args := [d] }
  | _ => none }
def FnMemTabLowWrongFalsely : Prop := fnMemTabLowRow.holds Try.pinned (OpenSpec.ofChange fnMemTabLowWrong)

/- THE SECOND FORM. 'bulk': how many values and letters a reading holds, each counted each time it is reached (what is shared counts as often as it is met; a slice's spare places count too). A statement '..UptoSaid' is the law's where the arguments, and the package variables that the reading takes, are together of bulk at most 1048576: NARROWER than '..Said'. Prove '..Said' where nothing that the law and all that it calls make is longer than what came in: it says more and counts as full. Else prove '..UptoSaid'. A law counts once. -/
mutual
def uptoBulk {H : Type} : DataW H → Nat
  | .lit (.string bytes) => bytes.length + 1
  | .lit _ => 1
  | .nil => 1
  | .ptr d => uptoBulk d + 1
  | .slice elems spare => uptoBulkAll elems + uptoBulkAll spare + 1
  | .agg parts => uptoBulkAll parts + 1
  | .iface _ d => uptoBulk d + 1
  | .map entries => uptoBulkEntries entries + 1
  | .held _ => 1
def uptoBulkAll {H : Type} : List (DataW H) → Nat
  | [] => 0
  | d :: r => uptoBulk d + uptoBulkAll r
def uptoBulkEntries {H : Type} : List (Lit × DataW H) → Nat
  | [] => 0
  | x :: r => uptoBulkEntry x + uptoBulkEntries r
def uptoBulkEntry {H : Type} : Lit × DataW H → Nat
  | (.string bytes, d) => bytes.length + uptoBulk d + 1
  | (_, d) => uptoBulk d + 1
 end
def uptoSmall : (H : Type) → List (DataW H) → Bool := fun _ ds => decide (uptoBulkAll ds ≤ 1048576)
def OpenSpec.upto (s : _root_.Go.ChangeSpec) : _root_.Go.OpenSpec := { _root_.Go.OpenSpec.ofChange s with cond := some uptoSmall }

/-- 'laws.FnTabOne', WHERE WHAT IT READS IS OF BULK AT MOST 1048576: true; the input reads as it did. -/
def fnTabOneUptoRow : OpenClaim := { program := "ytcdgahmfggnafac", sum := "a96d902d71f699a6b0fc300f1f0ca4587c150fc10526a864bb7e612d01d8cc10", func := "loop.example/casket/laws.FnTabOne", spec := "fnTabOne", inPlace := ["internal/abi.NoEscape", "internal/bytealg.MakeNoZero"], unfollowed := true, recurses := true, apart := false, narrowed := true }
def FnTabOneUptoSaid : Prop := fnTabOneUptoRow.holds Try.pinned (OpenSpec.upto fnTabOneSpec)

/-- 'laws.FnMemNew', WHERE WHAT IT READS IS OF BULK AT MOST 1048576: true; the input reads as it did. -/
def fnMemNewUptoRow : OpenClaim := { program := "ytcdgahmfggnafac", sum := "a96d902d71f699a6b0fc300f1f0ca4587c150fc10526a864bb7e612d01d8cc10", func := "loop.example/casket/laws.FnMemNew", spec := "fnMemNew", apart := false, narrowed := true }
def FnMemNewUptoSaid : Prop := fnMemNewUptoRow.holds Try.pinned (OpenSpec.upto fnMemNewSpec)

/-- 'laws.FnMemWith', WHERE WHAT IT READS IS OF BULK AT MOST 1048576: true; the input reads as it did. -/
def fnMemWithUptoRow : OpenClaim := { program := "ytcdgahmfggnafac", sum := "a96d902d71f699a6b0fc300f1f0ca4587c150fc10526a864bb7e612d01d8cc10", func := "loop.example/casket/laws.FnMemWith", spec := "fnMemWith", apart := false, narrowed := true }
def FnMemWithUptoSaid : Prop := fnMemWithUptoRow.holds Try.pinned (OpenSpec.upto fnMemWithSpec)

/-- 'laws.FnMemTwice', WHERE WHAT IT READS IS OF BULK AT MOST 1048576: true; the input reads as it did. -/
def fnMemTwiceUptoRow : OpenClaim := { program := "ytcdgahmfggnafac", sum := "a96d902d71f699a6b0fc300f1f0ca4587c150fc10526a864bb7e612d01d8cc10", func := "loop.example/casket/laws.FnMemTwice", spec := "fnMemTwice", apart := false, narrowed := true }
def FnMemTwiceUptoSaid : Prop := fnMemTwiceUptoRow.holds Try.pinned (OpenSpec.upto fnMemTwiceSpec)

/-- 'laws.FnMemTab', WHERE WHAT IT READS IS OF BULK AT MOST 1048576: true; the input reads as it did. -/
def fnMemTabUptoRow : OpenClaim := { program := "ytcdgahmfggnafac", sum := "a96d902d71f699a6b0fc300f1f0ca4587c150fc10526a864bb7e612d01d8cc10", func := "loop.example/casket/laws.FnMemTab", spec := "fnMemTab", apart := false, narrowed := true }
def FnMemTabUptoSaid : Prop := fnMemTabUptoRow.holds Try.pinned (OpenSpec.upto fnMemTabSpec)

/-- 'laws.FnMemTabLow', WHERE WHAT IT READS IS OF BULK AT MOST 1048576: true; the input reads as it did. -/
def fnMemTabLowUptoRow : OpenClaim := { program := "ytcdgahmfggnafac", sum := "a96d902d71f699a6b0fc300f1f0ca4587c150fc10526a864bb7e612d01d8cc10", func := "loop.example/casket/laws.FnMemTabLow", spec := "fnMemTabLow", apart := false, narrowed := true }
def FnMemTabLowUptoSaid : Prop := fnMemTabLowUptoRow.holds Try.pinned (OpenSpec.upto fnMemTabLowSpec)

end Rows
end Go.Proofs.Ytcdgahmfggnafac
