/-
  No cell of these rows narrows 'for every input' (looked for: loops, veiled, ifaces, maps, wideKeys, modest, calm, conditions, laid).
  DERIVED. THE GIVEN ROWS OF THIS SEAT. 3 by the template 'for every input the law returns true; each argument reads behind the call as it read before'; 0 by the template 'total and deterministic' (their statements: YtdnaiifibpbobaaTotals.lean).
  GIVEN WITH THE SEED: the statements are not yours to turn. If you find one false, say at which input.
  Laid BY PROGRAM, IN A SANDBOX (cutbox-rows.mjs): the forced cells as the released guide's own fill.sh prints them over the translation 19c656113552b313… (all of the seat's roots in one cut). By AI agents, Wed Nov 11 2026. No macro, syntax, notation, axiom, sorry.
-/
import Derived.Test.YtdnaiifibpbobaaChecked
import GoSem.Claim
import GoSem.ClaimJoined
import GoSem.ClaimMapViews
import Derived.JoinedTies
import Derived.KernelRfl
namespace Go.Proofs.Ytdnaiifibpbobaa
/- THE CELL 'sum', in the pinned program and in every row, IS THE sha256 OF THE DUMP (.gsa) THAT YtdnaiifibpbobaaProg.lean LOADS. Nothing in Lean hashes anything: it is a label: what it is worth is what the hold of that sum in a sandbox is worth. -/
noncomputable def Try.pinned : Pinned := { name := "ytdnaiifibpbobaa", sum := "19c656113552b313c07fe26a9afbbed890d9170dcde276a078e91eafe6c1042b", checked := Try.checked }
namespace Rows
def none {H : Type} : Left H := { results := [], args := [] }

/-- 'laws.FnTidyPart': WHATEVER THE INPUT: true; the input reads as it did. -/
def fnTidyPartSpec : ChangeSpec := { name := "fnTidyPart", fn := fun _ => fun
  | [d] => { results := [.lit (.bool true)], args := [d] }
  | _ => none }
def fnTidyPartRow : OpenClaim := { program := "ytdnaiifibpbobaa", sum := "19c656113552b313c07fe26a9afbbed890d9170dcde276a078e91eafe6c1042b", func := "loop.example/casket/laws.FnTidyPart", spec := "fnTidyPart", apart := false }
def FnTidyPartSaid : Prop := fnTidyPartRow.holds Try.pinned (OpenSpec.ofChange fnTidyPartSpec)

/-- ITS FALSE NEIGHBOUR: 'it returns false'. Refute it at one input. -/
def fnTidyPartWrong : ChangeSpec := { name := "fnTidyPart", fn := fun _ => fun
  | [d] => { results := [.lit (.bool false)], args := [d] }
  | _ => none }
def FnTidyPartWrongFalsely : Prop := fnTidyPartRow.holds Try.pinned (OpenSpec.ofChange fnTidyPartWrong)

/-- 'laws.FnTidyCut': WHATEVER THE INPUT: true; the input reads as it did. -/
def fnTidyCutSpec : ChangeSpec := { name := "fnTidyCut", fn := fun _ => fun
  | [d1, d2] => { results := [.lit (.bool true)], args := [d1, d2] }
  | _ => none }
def fnTidyCutRow : OpenClaim := { program := "ytdnaiifibpbobaa", sum := "19c656113552b313c07fe26a9afbbed890d9170dcde276a078e91eafe6c1042b", func := "loop.example/casket/laws.FnTidyCut", spec := "fnTidyCut", apart := false }
def FnTidyCutSaid : Prop := fnTidyCutRow.holds Try.pinned (OpenSpec.ofChange fnTidyCutSpec)

/-- ITS FALSE NEIGHBOUR: 'it returns false'. Refute it at one input. -/
def fnTidyCutWrong : ChangeSpec := { name := "fnTidyCut", fn := fun _ => fun
  | [d1, d2] => { results := [.lit (.bool false)], args := [d1, d2] }
  | _ => none }
def FnTidyCutWrongFalsely : Prop := fnTidyCutRow.holds Try.pinned (OpenSpec.ofChange fnTidyCutWrong)

/-- 'laws.FnTidyNot': WHATEVER THE INPUT: true; the input reads as it did. -/
def fnTidyNotSpec : ChangeSpec := { name := "fnTidyNot", fn := fun _ => fun
  | [d1, d2] => { results := [.lit (.bool true)], args := [d1, d2] }
  | _ => none }
def fnTidyNotRow : OpenClaim := { program := "ytdnaiifibpbobaa", sum := "19c656113552b313c07fe26a9afbbed890d9170dcde276a078e91eafe6c1042b", func := "loop.example/casket/laws.FnTidyNot", spec := "fnTidyNot", apart := false }
def FnTidyNotSaid : Prop := fnTidyNotRow.holds Try.pinned (OpenSpec.ofChange fnTidyNotSpec)

/-- ITS FALSE NEIGHBOUR: 'it returns false'. Refute it at one input. -/
def fnTidyNotWrong : ChangeSpec := { name := "fnTidyNot", fn := fun _ => fun
  | [d1, d2] => { results := [.lit (.bool false)], args := [d1, d2] }
  | _ => none }
def FnTidyNotWrongFalsely : Prop := fnTidyNotRow.holds Try.pinned (OpenSpec.ofChange fnTidyNotWrong)

/- THE SECOND FORM. 'bulk': how many values and letters a reading holds, each counted each time it is reached (what is shared counts as often as it is met; a slice's spare places count too). A statement '..UptoSaid' is the law's where the arguments, and the package variables that the reading takes, are together of bulk at most 1048576: NARROWER than '..Said'. Prove '..Said' where nothing that the law and all that it calls make is longer than what came in: it says more and counts as full. Else prove '..UptoSaid'. A law counts once. -/
mutual
def uptoBulk {H : Type} : DataW H → Nat
  | .lit (.string bytes) => bytes.length + 1
  | .lit _ => 1
  | .nil => 1
  | .ptr d => uptoBulk d + 1
  | .slice elems spare => uptoBulkAll elems + uptoBulkAll spare + 1
  | .agg parts => uptoBulkAll parts + 1
  | .iface _ d => uptoBulk d + 1
  | .map entries => uptoBulkEntries entries + 1
  | .held _ => 1
def uptoBulkAll {H : Type} : List (DataW H) → Nat
  | [] => 0
  | d :: r => uptoBulk d + uptoBulkAll r
def uptoBulkEntries {H : Type} : List (Lit × DataW H) → Nat
  | [] => 0
  | x :: r => uptoBulkEntry x + uptoBulkEntries r
def uptoBulkEntry {H : Type} : Lit × DataW H → Nat
  | (.string bytes, d) => bytes.length + uptoBulk d + 1
  | (_, d) => uptoBulk d + 1
 end
def uptoSmall : (H : Type) → List (DataW H) → Bool := fun _ ds => decide (uptoBulkAll ds ≤ 1048576)
def OpenSpec.upto (s : _root_.Go.ChangeSpec) : _root_.Go.OpenSpec := { _root_.Go.OpenSpec.ofChange s with cond := some uptoSmall }

/-- 'laws.FnTidyPart', WHERE WHAT IT READS IS OF BULK AT MOST 1048576: true; the input reads as it did. -/
def fnTidyPartUptoRow : OpenClaim := { program := "ytdnaiifibpbobaa", sum := "19c656113552b313c07fe26a9afbbed890d9170dcde276a078e91eafe6c1042b", func := "loop.example/casket/laws.FnTidyPart", spec := "fnTidyPart", apart := false, narrowed := true }
def FnTidyPartUptoSaid : Prop := fnTidyPartUptoRow.holds Try.pinned (OpenSpec.upto fnTidyPartSpec)

/-- 'laws.FnTidyCut', WHERE WHAT IT READS IS OF BULK AT MOST 1048576: true; the input reads as it did. -/
def fnTidyCutUptoRow : OpenClaim := { program := "ytdnaiifibpbobaa", sum := "19c656113552b313c07fe26a9afbbed890d9170dcde276a078e91eafe6c1042b", func := "loop.example/casket/laws.FnTidyCut", spec := "fnTidyCut", apart := false, narrowed := true }
def FnTidyCutUptoSaid : Prop := fnTidyCutUptoRow.holds Try.pinned (OpenSpec.upto fnTidyCutSpec)

/-- 'laws.FnTidyNot', WHERE WHAT IT READS IS OF BULK AT MOST 1048576: true; the input reads as it did. -/
def fnTidyNotUptoRow : OpenClaim := { program := "ytdnaiifibpbobaa", sum := "19c656113552b313c07fe26a9afbbed890d9170dcde276a078e91eafe6c1042b", func := "loop.example/casket/laws.FnTidyNot", spec := "fnTidyNot", apart := false, narrowed := true }
def FnTidyNotUptoSaid : Prop := fnTidyNotUptoRow.holds Try.pinned (OpenSpec.upto fnTidyNotSpec)

end Rows
end Go.Proofs.Ytdnaiifibpbobaa
