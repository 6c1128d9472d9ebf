/-
  No cell of these rows narrows 'for every input' (looked for: loops, veiled, ifaces, maps, wideKeys, modest, calm, conditions, laid).
  DERIVED. THE GIVEN ROWS OF THIS SEAT. 5 by the template 'for every input the law returns true; each argument reads behind the call as it read before'; 0 by the template 'total and deterministic' (their statements: YtfiailnlkhonnawTotals.lean).
  GIVEN WITH THE SEED: the statements are not yours to turn. If you find one false, say at which input.
  Laid BY PROGRAM, IN A SANDBOX (cutbox-rows.mjs): the forced cells as the released guide's own fill.sh prints them over the translation de8873fbc759361f… (all of the seat's roots in one cut). By AI agents, Wed Nov 11 2026. No macro, syntax, notation, axiom, sorry.
-/
import Derived.Test.YtfiailnlkhonnawChecked
import GoSem.Claim
import GoSem.ClaimJoined
import GoSem.ClaimMapViews
import Derived.JoinedTies
import Derived.KernelRfl
namespace Go.Proofs.Ytfiailnlkhonnaw
/- THE CELL 'sum', in the pinned program and in every row, IS THE sha256 OF THE DUMP (.gsa) THAT YtfiailnlkhonnawProg.lean LOADS. Nothing in Lean hashes anything: it is a label: what it is worth is what the hold of that sum in a sandbox is worth. -/
noncomputable def Try.pinned : Pinned := { name := "ytfiailnlkhonnaw", sum := "de8873fbc759361fe83ea9a964c227e9a5a60f4b61694adb0f5b56dcb3b67014", checked := Try.checked }
namespace Rows
def none {H : Type} : Left H := { results := [], args := [] }

/-- 'laws.FnExactEntryOf': WHATEVER THE INPUT: true; the input reads as it did. -/
def fnExactEntryOfSpec : ChangeSpec := { name := "fnExactEntryOf", fn := fun _ => fun
  | [d] => { results := [.lit (.bool true)], args := [d] }
  | _ => none }
def fnExactEntryOfRow : OpenClaim := { program := "ytfiailnlkhonnaw", sum := "de8873fbc759361fe83ea9a964c227e9a5a60f4b61694adb0f5b56dcb3b67014", func := "loop.example/casket/laws.FnExactEntryOf", spec := "fnExactEntryOf", apart := false }
def FnExactEntryOfSaid : Prop := fnExactEntryOfRow.holds Try.pinned (OpenSpec.ofChange fnExactEntryOfSpec)

/-- ITS FALSE NEIGHBOUR: 'it returns false'. Refute it at one input. -/
def fnExactEntryOfWrong : ChangeSpec := { name := "fnExactEntryOf", fn := fun _ => fun
  | [d] => { results := [.lit (.bool false)], args := [d] }
  | _ => none }
def FnExactEntryOfWrongFalsely : Prop := fnExactEntryOfRow.holds Try.pinned (OpenSpec.ofChange fnExactEntryOfWrong)

/-- 'laws.FnExactTabOk': WHATEVER THE INPUT: true; the input reads as it did. -/
def fnExactTabOkSpec : ChangeSpec := { name := "fnExactTabOk", fn := fun _ => fun
  | [d] => { results := [.lit (.bool true)], args := [d] }
  | _ => none }
def fnExactTabOkRow : OpenClaim := { program := "ytfiailnlkhonnaw", sum := "de8873fbc759361fe83ea9a964c227e9a5a60f4b61694adb0f5b56dcb3b67014", func := "loop.example/casket/laws.FnExactTabOk", spec := "fnExactTabOk", apart := false }
def FnExactTabOkSaid : Prop := fnExactTabOkRow.holds Try.pinned (OpenSpec.ofChange fnExactTabOkSpec)

/-- ITS FALSE NEIGHBOUR: 'it returns false'. Refute it at one input. -/
def fnExactTabOkWrong : ChangeSpec := { name := "fnExactTabOk", fn := fun _ => fun
  | [d] => { results := [.lit (.bool false)], args := [d] }
  | _ => none }
def FnExactTabOkWrongFalsely : Prop := fnExactTabOkRow.holds Try.pinned (OpenSpec.ofChange fnExactTabOkWrong)

/-- 'laws.FnExactTabAt': WHATEVER THE INPUT: true; the input reads as it did. -/
def fnExactTabAtSpec : ChangeSpec := { name := "fnExactTabAt", fn := fun _ => fun
  | [d1, d2] => { results := [.lit (.bool true)], args := [d1, d2] }
  | _ => none }
def fnExactTabAtRow : OpenClaim := { program := "ytfiailnlkhonnaw", sum := "de8873fbc759361fe83ea9a964c227e9a5a60f4b61694adb0f5b56dcb3b67014", func := "loop.example/casket/laws.FnExactTabAt", spec := "fnExactTabAt", apart := false }
def FnExactTabAtSaid : Prop := fnExactTabAtRow.holds Try.pinned (OpenSpec.ofChange fnExactTabAtSpec)

/-- ITS FALSE NEIGHBOUR: 'it returns false'. Refute it at one input. -/
def fnExactTabAtWrong : ChangeSpec := { name := "fnExactTabAt", fn := fun _ => fun
  | [d1, d2] => { results := [.lit (.bool false)], args := [d1, d2] }
  | _ => none }
def FnExactTabAtWrongFalsely : Prop := fnExactTabAtRow.holds Try.pinned (OpenSpec.ofChange fnExactTabAtWrong)

/-- 'laws.FnExactTabOver': WHATEVER THE INPUT: true; the input reads as it did. -/
def fnExactTabOverSpec : ChangeSpec := { name := "fnExactTabOver", fn := fun _ => fun
  | [d1, d2] => { results := [.lit (.bool true)], args := [d1, d2] }
  | _ => none }
def fnExactTabOverRow : OpenClaim := { program := "ytfiailnlkhonnaw", sum := "de8873fbc759361fe83ea9a964c227e9a5a60f4b61694adb0f5b56dcb3b67014", func := "loop.example/casket/laws.FnExactTabOver", spec := "fnExactTabOver", unfollowed := true, recurses := true, apart := false }
def FnExactTabOverSaid : Prop := fnExactTabOverRow.holds Try.pinned (OpenSpec.ofChange fnExactTabOverSpec)

/-- ITS FALSE NEIGHBOUR: 'it returns false'. Refute it at one input. -/
def fnExactTabOverWrong : ChangeSpec := { name := "fnExactTabOver", fn := fun _ => fun
  | [d1, d2] => { results := [.lit (.bool false)], args := [d1, d2] }
  | _ => none }
def FnExactTabOverWrongFalsely : Prop := fnExactTabOverRow.holds Try.pinned (OpenSpec.ofChange fnExactTabOverWrong)

/-- 'laws.FnExactTabText': WHATEVER THE INPUT: true; the input reads as it did. -/
def fnExactTabTextSpec : ChangeSpec := { name := "fnExactTabText", fn := fun _ => fun
  | [d] => { results := [.lit (.bool true)], args := [d] }
  | _ => none }
def fnExactTabTextRow : OpenClaim := { program := "ytfiailnlkhonnaw", sum := "de8873fbc759361fe83ea9a964c227e9a5a60f4b61694adb0f5b56dcb3b67014", func := "loop.example/casket/laws.FnExactTabText", spec := "fnExactTabText", inPlace := ["internal/abi.NoEscape", "internal/bytealg.MakeNoZero"], unfollowed := true, recurses := true, apart := false }
def FnExactTabTextSaid : Prop := fnExactTabTextRow.holds Try.pinned (OpenSpec.ofChange fnExactTabTextSpec)

/-- ITS FALSE NEIGHBOUR: 'it returns false'. Refute it at one input. -/
def fnExactTabTextWrong : ChangeSpec := { name := "fnExactTabText", fn := fun _ => fun
  | [d] => { results := [.lit (.bool false)], args := [d] }
  | _ => none }
def FnExactTabTextWrongFalsely : Prop := fnExactTabTextRow.holds Try.pinned (OpenSpec.ofChange fnExactTabTextWrong)

/- THE SECOND FORM. 'bulk': how many values and letters a reading holds, each counted each time it is reached (what is shared counts as often as it is met; a slice's spare places count too). A statement '..UptoSaid' is the law's where the arguments, and the package variables that the reading takes, are together of bulk at most 1048576: NARROWER than '..Said'. Prove '..Said' where nothing that the law and all that it calls make is longer than what came in: it says more and counts as full. Else prove '..UptoSaid'. A law counts once. -/
mutual
def uptoBulk {H : Type} : DataW H → Nat
  | .lit (.string bytes) => bytes.length + 1
  | .lit _ => 1
  | .nil => 1
  | .ptr d => uptoBulk d + 1
  | .slice elems spare => uptoBulkAll elems + uptoBulkAll spare + 1
  | .agg parts => uptoBulkAll parts + 1
  | .iface _ d => uptoBulk d + 1
  | .map entries => uptoBulkEntries entries + 1
  | .held _ => 1
def uptoBulkAll {H : Type} : List (DataW H) → Nat
  | [] => 0
  | d :: r => uptoBulk d + uptoBulkAll r
def uptoBulkEntries {H : Type} : List (Lit × DataW H) → Nat
  | [] => 0
  | x :: r => uptoBulkEntry x + uptoBulkEntries r
def uptoBulkEntry {H : Type} : Lit × DataW H → Nat
  | (.string bytes, d) => bytes.length + uptoBulk d + 1
  | (_, d) => uptoBulk d + 1
 end
def uptoSmall : (H : Type) → List (DataW H) → Bool := fun _ ds => decide (uptoBulkAll ds ≤ 1048576)
def OpenSpec.upto (s : _root_.Go.ChangeSpec) : _root_.Go.OpenSpec := { _root_.Go.OpenSpec.ofChange s with cond := some uptoSmall }

/-- 'laws.FnExactEntryOf', WHERE WHAT IT READS IS OF BULK AT MOST 1048576: true; the input reads as it did. -/
def fnExactEntryOfUptoRow : OpenClaim := { program := "ytfiailnlkhonnaw", sum := "de8873fbc759361fe83ea9a964c227e9a5a60f4b61694adb0f5b56dcb3b67014", func := "loop.example/casket/laws.FnExactEntryOf", spec := "fnExactEntryOf", apart := false, narrowed := true }
def FnExactEntryOfUptoSaid : Prop := fnExactEntryOfUptoRow.holds Try.pinned (OpenSpec.upto fnExactEntryOfSpec)

/-- 'laws.FnExactTabOk', WHERE WHAT IT READS IS OF BULK AT MOST 1048576: true; the input reads as it did. -/
def fnExactTabOkUptoRow : OpenClaim := { program := "ytfiailnlkhonnaw", sum := "de8873fbc759361fe83ea9a964c227e9a5a60f4b61694adb0f5b56dcb3b67014", func := "loop.example/casket/laws.FnExactTabOk", spec := "fnExactTabOk", apart := false, narrowed := true }
def FnExactTabOkUptoSaid : Prop := fnExactTabOkUptoRow.holds Try.pinned (OpenSpec.upto fnExactTabOkSpec)

/-- 'laws.FnExactTabAt', WHERE WHAT IT READS IS OF BULK AT MOST 1048576: true; the input reads as it did. -/
def fnExactTabAtUptoRow : OpenClaim := { program := "ytfiailnlkhonnaw", sum := "de8873fbc759361fe83ea9a964c227e9a5a60f4b61694adb0f5b56dcb3b67014", func := "loop.example/casket/laws.FnExactTabAt", spec := "fnExactTabAt", apart := false, narrowed := true }
def FnExactTabAtUptoSaid : Prop := fnExactTabAtUptoRow.holds Try.pinned (OpenSpec.upto fnExactTabAtSpec)

/-- 'laws.FnExactTabOver', WHERE WHAT IT READS IS OF BULK AT MOST 1048576: true; the input reads as it did. -/
def fnExactTabOverUptoRow : OpenClaim := { program := "ytfiailnlkhonnaw", sum := "de8873fbc759361fe83ea9a964c227e9a5a60f4b61694adb0f5b56dcb3b67014", func := "loop.example/casket/laws.FnExactTabOver", spec := "fnExactTabOver", unfollowed := true, recurses := true, apart := false, narrowed := true }
def FnExactTabOverUptoSaid : Prop := fnExactTabOverUptoRow.holds Try.pinned (OpenSpec.upto fnExactTabOverSpec)

/-- 'laws.FnExactTabText', WHERE WHAT IT READS IS OF BULK AT MOST 1048576: true; the input reads as it did. -/
def fnExactTabTextUptoRow : OpenClaim := { program := "ytfiailnlkhonnaw", sum := "de8873fbc759361fe83ea9a964c227e9a5a60f4b61694adb0f5b56dcb3b67014", func := "loop.example/casket/laws.FnExactTabText", spec := "fnExactTabText", inPlace := ["internal/abi.NoEscape", "internal/bytealg.MakeNoZero"], unfollowed := true, recurses := true, apart := false, narrowed := true }
def FnExactTabTextUptoSaid : Prop := fnExactTabTextUptoRow.holds Try.pinned (OpenSpec.upto fnExactTabTextSpec)

end Rows
end Go.Proofs.Ytfiailnlkhonnaw
