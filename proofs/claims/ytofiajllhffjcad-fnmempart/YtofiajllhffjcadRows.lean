/-
  No cell of these rows narrows 'for every input' (looked for: loops, veiled, ifaces, maps, wideKeys, modest, calm, conditions, laid).
  DERIVED. THE GIVEN ROWS OF THIS SEAT. 3 by the template 'for every input the law returns true; each argument reads behind the call as it read before'; 0 by the template 'total and deterministic' (their statements: YtofiajllhffjcadTotals.lean).
  GIVEN WITH THE SEED: the statements are not yours to turn. If you find one false, say at which input.
  Laid BY PROGRAM, IN A SANDBOX (cutbox-rows.mjs): the forced cells as the released guide's own fill.sh prints them over the translation 67daff85d4a5a491… (all of the seat's roots in one cut). By AI agents, Wed Nov 11 2026. No macro, syntax, notation, axiom, sorry.
-/
import Derived.Test.YtofiajllhffjcadChecked
import GoSem.Claim
import GoSem.ClaimJoined
import GoSem.ClaimMapViews
import Derived.JoinedTies
import Derived.KernelRfl
namespace Go.Proofs.Ytofiajllhffjcad
/- THE CELL 'sum', in the pinned program and in every row, IS THE sha256 OF THE DUMP (.gsa) THAT YtofiajllhffjcadProg.lean LOADS. Nothing in Lean hashes anything: it is a label: what it is worth is what the hold of that sum in a sandbox is worth. -/
noncomputable def Try.pinned : Pinned := { name := "ytofiajllhffjcad", sum := "67daff85d4a5a491073630eadc80ba2e3a374cd9429d3df279c969f6934aece4", checked := Try.checked }
namespace Rows
def none {H : Type} : Left H := { results := [], args := [] }

/-- 'laws.FnMemSame': WHATEVER THE INPUT: true; the input reads as it did. -/
def fnMemSameSpec : ChangeSpec := { name := "fnMemSame", fn := fun _ => fun
  | [d] => { results := [.lit (.bool true)], args := [d] }
  | _ => none }
def fnMemSameRow : OpenClaim := { program := "ytofiajllhffjcad", sum := "67daff85d4a5a491073630eadc80ba2e3a374cd9429d3df279c969f6934aece4", func := "loop.example/casket/laws.FnMemSame", spec := "fnMemSame", apart := false }
def FnMemSameSaid : Prop := fnMemSameRow.holds Try.pinned (OpenSpec.ofChange fnMemSameSpec)

/-- ITS FALSE NEIGHBOUR: 'it returns false'. Refute it at one input. -/
def fnMemSameWrong : ChangeSpec := { name := "fnMemSame", fn := fun _ => fun
  | [d] => { results := [.lit (.bool false)], args := [d] }
  | _ => none }
def FnMemSameWrongFalsely : Prop := fnMemSameRow.holds Try.pinned (OpenSpec.ofChange fnMemSameWrong)

/-- 'laws.FnMemEntry': WHATEVER THE INPUT: true; the input reads as it did. -/
def fnMemEntrySpec : ChangeSpec := { name := "fnMemEntry", fn := fun _ => fun
  | [d1, d2] => { results := [.lit (.bool true)], args := [d1, d2] }
  | _ => none }
def fnMemEntryRow : OpenClaim := { program := "ytofiajllhffjcad", sum := "67daff85d4a5a491073630eadc80ba2e3a374cd9429d3df279c969f6934aece4", func := "loop.example/casket/laws.FnMemEntry", spec := "fnMemEntry", unfollowed := true, recurses := true, apart := false }
def FnMemEntrySaid : Prop := fnMemEntryRow.holds Try.pinned (OpenSpec.ofChange fnMemEntrySpec)

/-- ITS FALSE NEIGHBOUR: 'it returns false'. Refute it at one input. -/
def fnMemEntryWrong : ChangeSpec := { name := "fnMemEntry", fn := fun _ => fun
  | [d1, d2] => { results := [.lit (.bool false)], args := [d1, d2] }
  | _ => none }
def FnMemEntryWrongFalsely : Prop := fnMemEntryRow.holds Try.pinned (OpenSpec.ofChange fnMemEntryWrong)

/-- 'laws.FnMemPart': WHATEVER THE INPUT: true; the input reads as it did. -/
def fnMemPartSpec : ChangeSpec := { name := "fnMemPart", fn := fun _ => fun
  | [d1, d2] => { results := [.lit (.bool true)], args := [d1, d2] }
  | _ => none }
def fnMemPartRow : OpenClaim := { program := "ytofiajllhffjcad", sum := "67daff85d4a5a491073630eadc80ba2e3a374cd9429d3df279c969f6934aece4", func := "loop.example/casket/laws.FnMemPart", spec := "fnMemPart", apart := false }
def FnMemPartSaid : Prop := fnMemPartRow.holds Try.pinned (OpenSpec.ofChange fnMemPartSpec)

/-- ITS FALSE NEIGHBOUR: 'it returns false'. Refute it at one input. -/
def fnMemPartWrong : ChangeSpec := { name := "fnMemPart", fn := fun _ => fun
  | [d1, d2] => { results := [.lit (.bool false)], args := [d1, d2] }
  | _ => none }
def FnMemPartWrongFalsely : Prop := fnMemPartRow.holds Try.pinned (OpenSpec.ofChange fnMemPartWrong)

/- THE SECOND FORM. 'bulk': how many values and letters a reading holds, each counted each time it is reached (what is shared counts as often as it is met; a slice's spare places count too). A statement '..UptoSaid' is the law's where the arguments, and the package variables that the reading takes, are together of bulk at most 1048576: NARROWER than '..Said'. Prove '..Said' where nothing that the law and all that it calls make is longer than what came in: it says more and counts as full. Else prove '..UptoSaid'. A law counts once. -/
mutual
def uptoBulk {H : Type} : DataW H → Nat
  | .lit (.string bytes) => bytes.length + 1
  | .lit _ => 1
  | .nil => 1
  | .ptr d => uptoBulk d + 1
  | .slice elems spare => uptoBulkAll elems + uptoBulkAll spare + 1
  | .agg parts => uptoBulkAll parts + 1
  | .iface _ d => uptoBulk d + 1
  | .map entries => uptoBulkEntries entries + 1
  | .held _ => 1
def uptoBulkAll {H : Type} : List (DataW H) → Nat
  | [] => 0
  | d :: r => uptoBulk d + uptoBulkAll r
def uptoBulkEntries {H : Type} : List (Lit × DataW H) → Nat
  | [] => 0
  | x :: r => uptoBulkEntry x + uptoBulkEntries r
def uptoBulkEntry {H : Type} : Lit × DataW H → Nat
  | (.string bytes, d) => bytes.length + uptoBulk d + 1
  | (_, d) => uptoBulk d + 1
 end
def uptoSmall : (H : Type) → List (DataW H) → Bool := fun _ ds => decide (uptoBulkAll ds ≤ 1048576)
def OpenSpec.upto (s : _root_.Go.ChangeSpec) : _root_.Go.OpenSpec := { _root_.Go.OpenSpec.ofChange s with cond := some uptoSmall }

/-- 'laws.FnMemSame', WHERE WHAT IT READS IS OF BULK AT MOST 1048576: true; the input reads as it did. -/
def fnMemSameUptoRow : OpenClaim := { program := "ytofiajllhffjcad", sum := "67daff85d4a5a491073630eadc80ba2e3a374cd9429d3df279c969f6934aece4", func := "loop.example/casket/laws.FnMemSame", spec := "fnMemSame", apart := false, narrowed := true }
def FnMemSameUptoSaid : Prop := fnMemSameUptoRow.holds Try.pinned (OpenSpec.upto fnMemSameSpec)

/-- 'laws.FnMemEntry', WHERE WHAT IT READS IS OF BULK AT MOST 1048576: true; the input reads as it did. -/
def fnMemEntryUptoRow : OpenClaim := { program := "ytofiajllhffjcad", sum := "67daff85d4a5a491073630eadc80ba2e3a374cd9429d3df279c969f6934aece4", func := "loop.example/casket/laws.FnMemEntry", spec := "fnMemEntry", unfollowed := true, recurses := true, apart := false, narrowed := true }
def FnMemEntryUptoSaid : Prop := fnMemEntryUptoRow.holds Try.pinned (OpenSpec.upto fnMemEntrySpec)

/-- 'laws.FnMemPart', WHERE WHAT IT READS IS OF BULK AT MOST 1048576: true; the input reads as it did. -/
def fnMemPartUptoRow : OpenClaim := { program := "ytofiajllhffjcad", sum := "67daff85d4a5a491073630eadc80ba2e3a374cd9429d3df279c969f6934aece4", func := "loop.example/casket/laws.FnMemPart", spec := "fnMemPart", apart := false, narrowed := true }
def FnMemPartUptoSaid : Prop := fnMemPartUptoRow.holds Try.pinned (OpenSpec.upto fnMemPartSpec)

end Rows
end Go.Proofs.Ytofiajllhffjcad
