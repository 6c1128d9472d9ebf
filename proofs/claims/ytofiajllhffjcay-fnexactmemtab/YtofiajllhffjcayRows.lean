/-
  No cell of these rows narrows 'for every input' (looked for: loops, veiled, ifaces, maps, wideKeys, modest, calm, conditions, laid).
  DERIVED. THE GIVEN ROWS OF THIS SEAT. 5 by the template 'for every input the law returns true; each argument reads behind the call as it read before'; 0 by the template 'total and deterministic' (their statements: YtofiajllhffjcayTotals.lean).
  GIVEN WITH THE SEED: the statements are not yours to turn. If you find one false, say at which input.
  Laid BY PROGRAM, IN A SANDBOX (cutbox-rows.mjs): the forced cells as the released guide's own fill.sh prints them over the translation 98cd817485317310… (all of the seat's roots in one cut). By AI agents, Wed Nov 11 2026. No macro, syntax, notation, axiom, sorry.
-/
import Derived.Test.YtofiajllhffjcayChecked
import GoSem.Claim
import GoSem.ClaimJoined
import GoSem.ClaimMapViews
import Derived.JoinedTies
import Derived.KernelRfl
namespace Go.Proofs.Ytofiajllhffjcay
/- THE CELL 'sum', in the pinned program and in every row, IS THE sha256 OF THE DUMP (.gsa) THAT YtofiajllhffjcayProg.lean LOADS. Nothing in Lean hashes anything: it is a label: what it is worth is what the hold of that sum in a sandbox is worth. -/
noncomputable def Try.pinned : Pinned := { name := "ytofiajllhffjcay", sum := "98cd817485317310f4bf19aad46031a0e854dff30f230e31515f32b2346083cf", checked := Try.checked }
namespace Rows
def none {H : Type} : Left H := { results := [], args := [] }

/-- 'laws.FnExactMemNew': WHATEVER THE INPUT: true; the input reads as it did. -/
def fnExactMemNewSpec : ChangeSpec := { name := "fnExactMemNew", fn := fun _ => fun
  | [d] => { results := [.lit (.bool true)], args := [d] }
  | _ => none }
def fnExactMemNewRow : OpenClaim := { program := "ytofiajllhffjcay", sum := "98cd817485317310f4bf19aad46031a0e854dff30f230e31515f32b2346083cf", func := "loop.example/casket/laws.FnExactMemNew", spec := "fnExactMemNew", apart := false }
def FnExactMemNewSaid : Prop := fnExactMemNewRow.holds Try.pinned (OpenSpec.ofChange fnExactMemNewSpec)

/-- ITS FALSE NEIGHBOUR: 'it returns false'. Refute it at one input. -/
def fnExactMemNewWrong : ChangeSpec := { name := "fnExactMemNew", fn := fun _ => fun
  | [d] => { results := [.lit (.bool false)], args := [d] }
  | _ => none }
def FnExactMemNewWrongFalsely : Prop := fnExactMemNewRow.holds Try.pinned (OpenSpec.ofChange fnExactMemNewWrong)

/-- 'laws.FnExactMemOk': WHATEVER THE INPUT: true; the input reads as it did. -/
def fnExactMemOkSpec : ChangeSpec := { name := "fnExactMemOk", fn := fun _ => fun
  | [d] => { results := [.lit (.bool true)], args := [d] }
  | _ => none }
def fnExactMemOkRow : OpenClaim := { program := "ytofiajllhffjcay", sum := "98cd817485317310f4bf19aad46031a0e854dff30f230e31515f32b2346083cf", func := "loop.example/casket/laws.FnExactMemOk", spec := "fnExactMemOk", apart := false }
def FnExactMemOkSaid : Prop := fnExactMemOkRow.holds Try.pinned (OpenSpec.ofChange fnExactMemOkSpec)

/-- ITS FALSE NEIGHBOUR: 'it returns false'. Refute it at one input. -/
def fnExactMemOkWrong : ChangeSpec := { name := "fnExactMemOk", fn := fun _ => fun
  | [d] => { results := [.lit (.bool false)], args := [d] }
  | _ => none }
def FnExactMemOkWrongFalsely : Prop := fnExactMemOkRow.holds Try.pinned (OpenSpec.ofChange fnExactMemOkWrong)

/-- 'laws.FnExactMemAt': WHATEVER THE INPUT: true; the input reads as it did. -/
def fnExactMemAtSpec : ChangeSpec := { name := "fnExactMemAt", fn := fun _ => fun
  | [d1, d2, d3] => { results := [.lit (.bool true)], args := [d1, d2, d3] }
  | _ => none }
def fnExactMemAtRow : OpenClaim := { program := "ytofiajllhffjcay", sum := "98cd817485317310f4bf19aad46031a0e854dff30f230e31515f32b2346083cf", func := "loop.example/casket/laws.FnExactMemAt", spec := "fnExactMemAt", apart := false }
def FnExactMemAtSaid : Prop := fnExactMemAtRow.holds Try.pinned (OpenSpec.ofChange fnExactMemAtSpec)

/-- ITS FALSE NEIGHBOUR: 'it returns false'. Refute it at one input. -/
def fnExactMemAtWrong : ChangeSpec := { name := "fnExactMemAt", fn := fun _ => fun
  | [d1, d2, d3] => { results := [.lit (.bool false)], args := [d1, d2, d3] }
  | _ => none }
def FnExactMemAtWrongFalsely : Prop := fnExactMemAtRow.holds Try.pinned (OpenSpec.ofChange fnExactMemAtWrong)

/-- 'laws.FnExactMemWith': WHATEVER THE INPUT: true; the input reads as it did. -/
def fnExactMemWithSpec : ChangeSpec := { name := "fnExactMemWith", fn := fun _ => fun
  | [d1, d2, d3, d4] => { results := [.lit (.bool true)], args := [d1, d2, d3, d4] }
  | _ => none }
def fnExactMemWithRow : OpenClaim := { program := "ytofiajllhffjcay", sum := "98cd817485317310f4bf19aad46031a0e854dff30f230e31515f32b2346083cf", func := "loop.example/casket/laws.FnExactMemWith", spec := "fnExactMemWith", apart := false }
def FnExactMemWithSaid : Prop := fnExactMemWithRow.holds Try.pinned (OpenSpec.ofChange fnExactMemWithSpec)

/-- ITS FALSE NEIGHBOUR: 'it returns false'. Refute it at one input. -/
def fnExactMemWithWrong : ChangeSpec := { name := "fnExactMemWith", fn := fun _ => fun
  | [d1, d2, d3, d4] => { results := [.lit (.bool false)], args := [d1, d2, d3, d4] }
  | _ => none }
def FnExactMemWithWrongFalsely : Prop := fnExactMemWithRow.holds Try.pinned (OpenSpec.ofChange fnExactMemWithWrong)

/-- 'laws.FnExactMemTab': WHATEVER THE INPUT: true; the input reads as it did. -/
def fnExactMemTabSpec : ChangeSpec := { name := "fnExactMemTab", fn := fun _ => fun
  | [d] => { results := [.lit (.bool true)], args := [d] }
  | _ => none }
def fnExactMemTabRow : OpenClaim := { program := "ytofiajllhffjcay", sum := "98cd817485317310f4bf19aad46031a0e854dff30f230e31515f32b2346083cf", func := "loop.example/casket/laws.FnExactMemTab", spec := "fnExactMemTab", apart := false }
def FnExactMemTabSaid : Prop := fnExactMemTabRow.holds Try.pinned (OpenSpec.ofChange fnExactMemTabSpec)

/-- ITS FALSE NEIGHBOUR: 'it returns false'. Refute it at one input. -/
def fnExactMemTabWrong : ChangeSpec := { name := "fnExactMemTab", fn := fun _ => fun
  | [d] => { results := [.lit (.bool false)], args := [d] }
  | _ => none }
def FnExactMemTabWrongFalsely : Prop := fnExactMemTabRow.holds Try.pinned (OpenSpec.ofChange fnExactMemTabWrong)

/- THE SECOND FORM. 'bulk': how many values and letters a reading holds, each counted each time it is reached (what is shared counts as often as it is met; a slice's spare places count too). A statement '..UptoSaid' is the law's where the arguments, and the package variables that the reading takes, are together of bulk at most 1048576: NARROWER than '..Said'. Prove '..Said' where nothing that the law and all that it calls make is longer than what came in: it says more and counts as full. Else prove '..UptoSaid'. A law counts once. -/
mutual
def uptoBulk {H : Type} : DataW H → Nat
  | .lit (.string bytes) => bytes.length + 1
  | .lit _ => 1
  | .nil => 1
  | .ptr d => uptoBulk d + 1
  | .slice elems spare => uptoBulkAll elems + uptoBulkAll spare + 1
  | .agg parts => uptoBulkAll parts + 1
  | .iface _ d => uptoBulk d + 1
  | .map entries => uptoBulkEntries entries + 1
  | .held _ => 1
def uptoBulkAll {H : Type} : List (DataW H) → Nat
  | [] => 0
  | d :: r => uptoBulk d + uptoBulkAll r
def uptoBulkEntries {H : Type} : List (Lit × DataW H) → Nat
  | [] => 0
  | x :: r => uptoBulkEntry x + uptoBulkEntries r
def uptoBulkEntry {H : Type} : Lit × DataW H → Nat
  | (.string bytes, d) => bytes.length + uptoBulk d + 1
  | (_, d) => uptoBulk d + 1
 end
def uptoSmall : (H : Type) → List (DataW H) → Bool := fun _ ds => decide (uptoBulkAll ds ≤ 1048576)
def OpenSpec.upto (s : _root_.Go.ChangeSpec) : _root_.Go.OpenSpec := { _root_.Go.OpenSpec.ofChange s with cond := some uptoSmall }

/-- 'laws.FnExactMemNew', WHERE WHAT IT READS IS OF BULK AT MOST 1048576: true; the input reads as it did. -/
def fnExactMemNewUptoRow : OpenClaim := { program := "ytofiajllhffjcay", sum := "98cd817485317310f4bf19aad46031a0e854dff30f230e31515f32b2346083cf", func := "loop.example/casket/laws.FnExactMemNew", spec := "fnExactMemNew", apart := false, narrowed := true }
def FnExactMemNewUptoSaid : Prop := fnExactMemNewUptoRow.holds Try.pinned (OpenSpec.upto fnExactMemNewSpec)

/-- 'laws.FnExactMemOk', WHERE WHAT IT READS IS OF BULK AT MOST 1048576: true; the input reads as it did. -/
def fnExactMemOkUptoRow : OpenClaim := { program := "ytofiajllhffjcay", sum := "98cd817485317310f4bf19aad46031a0e854dff30f230e31515f32b2346083cf", func := "loop.example/casket/laws.FnExactMemOk", spec := "fnExactMemOk", apart := false, narrowed := true }
def FnExactMemOkUptoSaid : Prop := fnExactMemOkUptoRow.holds Try.pinned (OpenSpec.upto fnExactMemOkSpec)

/-- 'laws.FnExactMemAt', WHERE WHAT IT READS IS OF BULK AT MOST 1048576: true; the input reads as it did. -/
def fnExactMemAtUptoRow : OpenClaim := { program := "ytofiajllhffjcay", sum := "98cd817485317310f4bf19aad46031a0e854dff30f230e31515f32b2346083cf", func := "loop.example/casket/laws.FnExactMemAt", spec := "fnExactMemAt", apart := false, narrowed := true }
def FnExactMemAtUptoSaid : Prop := fnExactMemAtUptoRow.holds Try.pinned (OpenSpec.upto fnExactMemAtSpec)

/-- 'laws.FnExactMemWith', WHERE WHAT IT READS IS OF BULK AT MOST 1048576: true; the input reads as it did. -/
def fnExactMemWithUptoRow : OpenClaim := { program := "ytofiajllhffjcay", sum := "98cd817485317310f4bf19aad46031a0e854dff30f230e31515f32b2346083cf", func := "loop.example/casket/laws.FnExactMemWith", spec := "fnExactMemWith", apart := false, narrowed := true }
def FnExactMemWithUptoSaid : Prop := fnExactMemWithUptoRow.holds Try.pinned (OpenSpec.upto fnExactMemWithSpec)

/-- 'laws.FnExactMemTab', WHERE WHAT IT READS IS OF BULK AT MOST 1048576: true; the input reads as it did. -/
def fnExactMemTabUptoRow : OpenClaim := { program := "ytofiajllhffjcay", sum := "98cd817485317310f4bf19aad46031a0e854dff30f230e31515f32b2346083cf", func := "loop.example/casket/laws.FnExactMemTab", spec := "fnExactMemTab", apart := false, narrowed := true }
def FnExactMemTabUptoSaid : Prop := fnExactMemTabUptoRow.holds Try.pinned (OpenSpec.upto fnExactMemTabSpec)

end Rows
end Go.Proofs.Ytofiajllhffjcay
