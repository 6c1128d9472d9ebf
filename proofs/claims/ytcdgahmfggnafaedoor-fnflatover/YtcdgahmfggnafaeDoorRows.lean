/-
  NARROWER THAN 'FOR EVERY INPUT', by the rows' own cells (each row's printed sentence says how): FnFlatDenied: laid · FnFlatMirror: laid · FnFlatTab: laid · FnFlatBad: laid · FnFlatOver: laid · FnFlatInTwice: laid.
  DERIVED. THE GIVEN ROWS OF THIS SEAT. 6 by the template 'for every input the law returns true; each argument reads behind the call as it read before'; 0 by the template 'total and deterministic' (their statements: YtcdgahmfggnafaeDoorTotals.lean).
  GIVEN WITH THE SEED: the statements are not yours to turn. If you find one false, say at which input.
  Laid BY PROGRAM, IN A SANDBOX (cutbox-rows.mjs): the forced cells as the released guide's own fill.sh prints them over the translation c95d013938b3a4ee… (all of the seat's roots in one cut). By AI agents, Wed Nov 11 2026. No macro, syntax, notation, axiom, sorry.
-/
import Derived.Test.YtcdgahmfggnafaeDoorChecked
import GoSem.Claim
import GoSem.ClaimJoined
import GoSem.ClaimMapViews
import Derived.JoinedTies
import Derived.KernelRfl
namespace Go.Proofs.YtcdgahmfggnafaeDoor
/- THE CELL 'sum', in the pinned program and in every row, IS THE sha256 OF THE DUMP (.gsa) THAT YtcdgahmfggnafaeDoorProg.lean LOADS. Nothing in Lean hashes anything: it is a label: what it is worth is what the hold of that sum in a sandbox is worth. -/
noncomputable def Tryd.pinned : Pinned := { name := "ytcdgahmfggnafaedoor", sum := "c95d013938b3a4ee3fa52529dea72bcb4bc356fc5f1216389d25cb42b3ac24ce", checked := Tryd.checked }
namespace Rows
def none {H : Type} : Left H := { results := [], args := [] }

/- WHAT THE LISTED PACKAGE-LEVEL VARIABLES READ AS WHEN THE CALL BEGINS. Each datum BY PROGRAM (the guide's laid-datum.mjs) off the statement by which the dump's own 'gosem.cut.vars' lays the variable. In a bare row this is a premise. The card (YtcdgahmfggnafaeDoorCards.lean) ties it to the program's text. -/
def laid_errors_errorType {H : Type} : DataW H := .iface "internal/reflectlite.rtype" (.agg [.ptr (.lit (.string [101, 114, 114, 111, 114]))])

/-- 'laws.FnFlatDenied': WHATEVER THE INPUT: true; the input reads as it did. -/
def fnFlatDeniedSpec : ChangeSpec := { name := "fnFlatDenied", fn := fun _ => fun
  | [d] => { results := [.lit (.bool true)], args := [d] }
  | _ => none }
def fnFlatDeniedRow : OpenClaim := { program := "ytcdgahmfggnafaedoor", sum := "c95d013938b3a4ee3fa52529dea72bcb4bc356fc5f1216389d25cb42b3ac24ce", func := "loop.example/casket/laws.FnFlatDenied", spec := "fnFlatDenied", inPlace := ["internal/reflectlite.ValueOf", "(internal/reflectlite.Value).Type", "(internal/reflectlite.Value).IsNil", "internal/reflectlite.TypeOf", "(internal/reflectlite.Value).Elem", "(internal/reflectlite.Value).Set"], unfollowed := true, recurses := true, named := ["errors.errorType"], apart := false, laid := [("errors.errorType", laid_errors_errorType)] }
def FnFlatDeniedSaid : Prop := fnFlatDeniedRow.holds Tryd.pinned (OpenSpec.ofChange fnFlatDeniedSpec)

/-- ITS FALSE NEIGHBOUR: 'it returns false'. Refute it at one input. -/
def fnFlatDeniedWrong : ChangeSpec := { name := "fnFlatDenied", fn := fun _ => fun
  | [d] => { results := [.lit (.bool false)], args := [d] }
  | _ => none }
def FnFlatDeniedWrongFalsely : Prop := fnFlatDeniedRow.holds Tryd.pinned (OpenSpec.ofChange fnFlatDeniedWrong)

/-- 'laws.FnFlatMirror': WHATEVER THE INPUT: true; the input reads as it did. -/
def fnFlatMirrorSpec : ChangeSpec := { name := "fnFlatMirror", fn := fun _ => fun
  | [d1, d2] => { results := [.lit (.bool true)], args := [d1, d2] }
  | _ => none }
def fnFlatMirrorRow : OpenClaim := { program := "ytcdgahmfggnafaedoor", sum := "c95d013938b3a4ee3fa52529dea72bcb4bc356fc5f1216389d25cb42b3ac24ce", func := "loop.example/casket/laws.FnFlatMirror", spec := "fnFlatMirror", inPlace := ["internal/reflectlite.ValueOf", "(internal/reflectlite.Value).Type", "(internal/reflectlite.Value).IsNil", "internal/reflectlite.TypeOf", "(internal/reflectlite.Value).Elem", "(internal/reflectlite.Value).Set"], unfollowed := true, recurses := true, named := ["errors.errorType"], apart := false, laid := [("errors.errorType", laid_errors_errorType)] }
def FnFlatMirrorSaid : Prop := fnFlatMirrorRow.holds Tryd.pinned (OpenSpec.ofChange fnFlatMirrorSpec)

/-- ITS FALSE NEIGHBOUR: 'it returns false'. Refute it at one input. -/
def fnFlatMirrorWrong : ChangeSpec := { name := "fnFlatMirror", fn := fun _ => fun
  | [d1, d2] => { results := [.lit (.bool false)], args := [d1, d2] }
  | _ => none }
def FnFlatMirrorWrongFalsely : Prop := fnFlatMirrorRow.holds Tryd.pinned (OpenSpec.ofChange fnFlatMirrorWrong)

/-- 'laws.FnFlatTab': WHATEVER THE INPUT: true; the input reads as it did. -/
def fnFlatTabSpec : ChangeSpec := { name := "fnFlatTab", fn := fun _ => fun
  | [d1, d2] => { results := [.lit (.bool true)], args := [d1, d2] }
  | _ => none }
def fnFlatTabRow : OpenClaim := { program := "ytcdgahmfggnafaedoor", sum := "c95d013938b3a4ee3fa52529dea72bcb4bc356fc5f1216389d25cb42b3ac24ce", func := "loop.example/casket/laws.FnFlatTab", spec := "fnFlatTab", inPlace := ["internal/reflectlite.ValueOf", "(internal/reflectlite.Value).Type", "(internal/reflectlite.Value).IsNil", "internal/reflectlite.TypeOf", "(internal/reflectlite.Value).Elem", "(internal/reflectlite.Value).Set"], unfollowed := true, recurses := true, named := ["errors.errorType"], apart := false, laid := [("errors.errorType", laid_errors_errorType)] }
def FnFlatTabSaid : Prop := fnFlatTabRow.holds Tryd.pinned (OpenSpec.ofChange fnFlatTabSpec)

/-- ITS FALSE NEIGHBOUR: 'it returns false'. Refute it at one input. -/
def fnFlatTabWrong : ChangeSpec := { name := "fnFlatTab", fn := fun _ => fun
  | [d1, d2] => { results := [.lit (.bool false)], args := [d1, d2] }
  | _ => none }
def FnFlatTabWrongFalsely : Prop := fnFlatTabRow.holds Tryd.pinned (OpenSpec.ofChange fnFlatTabWrong)

/-- 'laws.FnFlatBad': WHATEVER THE INPUT: true; the input reads as it did. -/
def fnFlatBadSpec : ChangeSpec := { name := "fnFlatBad", fn := fun _ => fun
  | [d] => { results := [.lit (.bool true)], args := [d] }
  | _ => none }
def fnFlatBadRow : OpenClaim := { program := "ytcdgahmfggnafaedoor", sum := "c95d013938b3a4ee3fa52529dea72bcb4bc356fc5f1216389d25cb42b3ac24ce", func := "loop.example/casket/laws.FnFlatBad", spec := "fnFlatBad", inPlace := ["internal/reflectlite.ValueOf", "(internal/reflectlite.Value).Type", "(internal/reflectlite.Value).IsNil", "internal/reflectlite.TypeOf", "(internal/reflectlite.Value).Elem", "(internal/reflectlite.Value).Set"], unfollowed := true, recurses := true, named := ["errors.errorType"], apart := false, laid := [("errors.errorType", laid_errors_errorType)] }
def FnFlatBadSaid : Prop := fnFlatBadRow.holds Tryd.pinned (OpenSpec.ofChange fnFlatBadSpec)

/-- ITS FALSE NEIGHBOUR: 'it returns false'. Refute it at one input. -/
def fnFlatBadWrong : ChangeSpec := { name := "fnFlatBad", fn := fun _ => fun
  | [d] => { results := [.lit (.bool false)], args := [d] }
  | _ => none }
def FnFlatBadWrongFalsely : Prop := fnFlatBadRow.holds Tryd.pinned (OpenSpec.ofChange fnFlatBadWrong)

/-- 'laws.FnFlatOver': WHATEVER THE INPUT: true; the input reads as it did. -/
def fnFlatOverSpec : ChangeSpec := { name := "fnFlatOver", fn := fun _ => fun
  | [d] => { results := [.lit (.bool true)], args := [d] }
  | _ => none }
def fnFlatOverRow : OpenClaim := { program := "ytcdgahmfggnafaedoor", sum := "c95d013938b3a4ee3fa52529dea72bcb4bc356fc5f1216389d25cb42b3ac24ce", func := "loop.example/casket/laws.FnFlatOver", spec := "fnFlatOver", inPlace := ["internal/reflectlite.ValueOf", "(internal/reflectlite.Value).Type", "(internal/reflectlite.Value).IsNil", "internal/reflectlite.TypeOf", "(internal/reflectlite.Value).Elem", "(internal/reflectlite.Value).Set"], unfollowed := true, recurses := true, named := ["errors.errorType"], apart := false, laid := [("errors.errorType", laid_errors_errorType)] }
def FnFlatOverSaid : Prop := fnFlatOverRow.holds Tryd.pinned (OpenSpec.ofChange fnFlatOverSpec)

/-- ITS FALSE NEIGHBOUR: 'it returns false'. Refute it at one input. -/
def fnFlatOverWrong : ChangeSpec := { name := "fnFlatOver", fn := fun _ => fun
  | [d] => { results := [.lit (.bool false)], args := [d] }
  | _ => none }
def FnFlatOverWrongFalsely : Prop := fnFlatOverRow.holds Tryd.pinned (OpenSpec.ofChange fnFlatOverWrong)

/-- 'laws.FnFlatInTwice': WHATEVER THE INPUT: true; the input reads as it did. -/
def fnFlatInTwiceSpec : ChangeSpec := { name := "fnFlatInTwice", fn := fun _ => fun
  | [d1, d2] => { results := [.lit (.bool true)], args := [d1, d2] }
  | _ => none }
def fnFlatInTwiceRow : OpenClaim := { program := "ytcdgahmfggnafaedoor", sum := "c95d013938b3a4ee3fa52529dea72bcb4bc356fc5f1216389d25cb42b3ac24ce", func := "loop.example/casket/laws.FnFlatInTwice", spec := "fnFlatInTwice", inPlace := ["internal/reflectlite.ValueOf", "(internal/reflectlite.Value).Type", "(internal/reflectlite.Value).IsNil", "internal/reflectlite.TypeOf", "(internal/reflectlite.Value).Elem", "(internal/reflectlite.Value).Set"], unfollowed := true, recurses := true, named := ["errors.errorType"], apart := false, laid := [("errors.errorType", laid_errors_errorType)] }
def FnFlatInTwiceSaid : Prop := fnFlatInTwiceRow.holds Tryd.pinned (OpenSpec.ofChange fnFlatInTwiceSpec)

/-- ITS FALSE NEIGHBOUR: 'it returns false'. Refute it at one input. -/
def fnFlatInTwiceWrong : ChangeSpec := { name := "fnFlatInTwice", fn := fun _ => fun
  | [d1, d2] => { results := [.lit (.bool false)], args := [d1, d2] }
  | _ => none }
def FnFlatInTwiceWrongFalsely : Prop := fnFlatInTwiceRow.holds Tryd.pinned (OpenSpec.ofChange fnFlatInTwiceWrong)

/- THE SECOND FORM. 'bulk': how many values and letters a reading holds, each counted each time it is reached (what is shared counts as often as it is met; a slice's spare places count too). A statement '..UptoSaid' is the law's where the arguments, and the package variables that the reading takes, are together of bulk at most 1048576: NARROWER than '..Said'. Prove '..Said' where nothing that the law and all that it calls make is longer than what came in: it says more and counts as full. Else prove '..UptoSaid'. A law counts once. -/
mutual
def uptoBulk {H : Type} : DataW H → Nat
  | .lit (.string bytes) => bytes.length + 1
  | .lit _ => 1
  | .nil => 1
  | .ptr d => uptoBulk d + 1
  | .slice elems spare => uptoBulkAll elems + uptoBulkAll spare + 1
  | .agg parts => uptoBulkAll parts + 1
  | .iface _ d => uptoBulk d + 1
  | .map entries => uptoBulkEntries entries + 1
  | .held _ => 1
def uptoBulkAll {H : Type} : List (DataW H) → Nat
  | [] => 0
  | d :: r => uptoBulk d + uptoBulkAll r
def uptoBulkEntries {H : Type} : List (Lit × DataW H) → Nat
  | [] => 0
  | x :: r => uptoBulkEntry x + uptoBulkEntries r
def uptoBulkEntry {H : Type} : Lit × DataW H → Nat
  | (.string bytes, d) => bytes.length + uptoBulk d + 1
  | (_, d) => uptoBulk d + 1
 end
def uptoSmall : (H : Type) → List (DataW H) → Bool := fun _ ds => decide (uptoBulkAll ds ≤ 1048576)
def OpenSpec.upto (s : _root_.Go.ChangeSpec) : _root_.Go.OpenSpec := { _root_.Go.OpenSpec.ofChange s with cond := some uptoSmall }

/-- 'laws.FnFlatDenied', WHERE WHAT IT READS IS OF BULK AT MOST 1048576: true; the input reads as it did. -/
def fnFlatDeniedUptoRow : OpenClaim := { program := "ytcdgahmfggnafaedoor", sum := "c95d013938b3a4ee3fa52529dea72bcb4bc356fc5f1216389d25cb42b3ac24ce", func := "loop.example/casket/laws.FnFlatDenied", spec := "fnFlatDenied", inPlace := ["internal/reflectlite.ValueOf", "(internal/reflectlite.Value).Type", "(internal/reflectlite.Value).IsNil", "internal/reflectlite.TypeOf", "(internal/reflectlite.Value).Elem", "(internal/reflectlite.Value).Set"], unfollowed := true, recurses := true, named := ["errors.errorType"], apart := false, laid := [("errors.errorType", laid_errors_errorType)], narrowed := true }
def FnFlatDeniedUptoSaid : Prop := fnFlatDeniedUptoRow.holds Tryd.pinned (OpenSpec.upto fnFlatDeniedSpec)

/-- 'laws.FnFlatMirror', WHERE WHAT IT READS IS OF BULK AT MOST 1048576: true; the input reads as it did. -/
def fnFlatMirrorUptoRow : OpenClaim := { program := "ytcdgahmfggnafaedoor", sum := "c95d013938b3a4ee3fa52529dea72bcb4bc356fc5f1216389d25cb42b3ac24ce", func := "loop.example/casket/laws.FnFlatMirror", spec := "fnFlatMirror", inPlace := ["internal/reflectlite.ValueOf", "(internal/reflectlite.Value).Type", "(internal/reflectlite.Value).IsNil", "internal/reflectlite.TypeOf", "(internal/reflectlite.Value).Elem", "(internal/reflectlite.Value).Set"], unfollowed := true, recurses := true, named := ["errors.errorType"], apart := false, laid := [("errors.errorType", laid_errors_errorType)], narrowed := true }
def FnFlatMirrorUptoSaid : Prop := fnFlatMirrorUptoRow.holds Tryd.pinned (OpenSpec.upto fnFlatMirrorSpec)

/-- 'laws.FnFlatTab', WHERE WHAT IT READS IS OF BULK AT MOST 1048576: true; the input reads as it did. -/
def fnFlatTabUptoRow : OpenClaim := { program := "ytcdgahmfggnafaedoor", sum := "c95d013938b3a4ee3fa52529dea72bcb4bc356fc5f1216389d25cb42b3ac24ce", func := "loop.example/casket/laws.FnFlatTab", spec := "fnFlatTab", inPlace := ["internal/reflectlite.ValueOf", "(internal/reflectlite.Value).Type", "(internal/reflectlite.Value).IsNil", "internal/reflectlite.TypeOf", "(internal/reflectlite.Value).Elem", "(internal/reflectlite.Value).Set"], unfollowed := true, recurses := true, named := ["errors.errorType"], apart := false, laid := [("errors.errorType", laid_errors_errorType)], narrowed := true }
def FnFlatTabUptoSaid : Prop := fnFlatTabUptoRow.holds Tryd.pinned (OpenSpec.upto fnFlatTabSpec)

/-- 'laws.FnFlatBad', WHERE WHAT IT READS IS OF BULK AT MOST 1048576: true; the input reads as it did. -/
def fnFlatBadUptoRow : OpenClaim := { program := "ytcdgahmfggnafaedoor", sum := "c95d013938b3a4ee3fa52529dea72bcb4bc356fc5f1216389d25cb42b3ac24ce", func := "loop.example/casket/laws.FnFlatBad", spec := "fnFlatBad", inPlace := ["internal/reflectlite.ValueOf", "(internal/reflectlite.Value).Type", "(internal/reflectlite.Value).IsNil", "internal/reflectlite.TypeOf", "(internal/reflectlite.Value).Elem", "(internal/reflectlite.Value).Set"], unfollowed := true, recurses := true, named := ["errors.errorType"], apart := false, laid := [("errors.errorType", laid_errors_errorType)], narrowed := true }
def FnFlatBadUptoSaid : Prop := fnFlatBadUptoRow.holds Tryd.pinned (OpenSpec.upto fnFlatBadSpec)

/-- 'laws.FnFlatOver', WHERE WHAT IT READS IS OF BULK AT MOST 1048576: true; the input reads as it did. -/
def fnFlatOverUptoRow : OpenClaim := { program := "ytcdgahmfggnafaedoor", sum := "c95d013938b3a4ee3fa52529dea72bcb4bc356fc5f1216389d25cb42b3ac24ce", func := "loop.example/casket/laws.FnFlatOver", spec := "fnFlatOver", inPlace := ["internal/reflectlite.ValueOf", "(internal/reflectlite.Value).Type", "(internal/reflectlite.Value).IsNil", "internal/reflectlite.TypeOf", "(internal/reflectlite.Value).Elem", "(internal/reflectlite.Value).Set"], unfollowed := true, recurses := true, named := ["errors.errorType"], apart := false, laid := [("errors.errorType", laid_errors_errorType)], narrowed := true }
def FnFlatOverUptoSaid : Prop := fnFlatOverUptoRow.holds Tryd.pinned (OpenSpec.upto fnFlatOverSpec)

/-- 'laws.FnFlatInTwice', WHERE WHAT IT READS IS OF BULK AT MOST 1048576: true; the input reads as it did. -/
def fnFlatInTwiceUptoRow : OpenClaim := { program := "ytcdgahmfggnafaedoor", sum := "c95d013938b3a4ee3fa52529dea72bcb4bc356fc5f1216389d25cb42b3ac24ce", func := "loop.example/casket/laws.FnFlatInTwice", spec := "fnFlatInTwice", inPlace := ["internal/reflectlite.ValueOf", "(internal/reflectlite.Value).Type", "(internal/reflectlite.Value).IsNil", "internal/reflectlite.TypeOf", "(internal/reflectlite.Value).Elem", "(internal/reflectlite.Value).Set"], unfollowed := true, recurses := true, named := ["errors.errorType"], apart := false, laid := [("errors.errorType", laid_errors_errorType)], narrowed := true }
def FnFlatInTwiceUptoSaid : Prop := fnFlatInTwiceUptoRow.holds Tryd.pinned (OpenSpec.upto fnFlatInTwiceSpec)

end Rows
end Go.Proofs.YtcdgahmfggnafaeDoor
