/-
  No cell of these rows narrows 'for every input' (looked for: loops, veiled, ifaces, maps, wideKeys, modest, calm, conditions, laid).
  DERIVED. THE GIVEN ROWS OF THIS SEAT. 5 by the template 'for every input the law returns true; each argument reads behind the call as it read before'; 0 by the template 'total and deterministic' (their statements: YtpaeigmdhmmjmaaTotals.lean).
  GIVEN WITH THE SEED: the statements are not yours to turn. If you find one false, say at which input.
  Laid BY PROGRAM, IN A SANDBOX (cutbox-rows.mjs): the forced cells as the released guide's own fill.sh prints them over the translation e84cba0b7d858dcc… (all of the seat's roots in one cut). By AI agents, Wed Nov 11 2026. No macro, syntax, notation, axiom, sorry.
-/
import Derived.Test.YtpaeigmdhmmjmaaChecked
import GoSem.Claim
import GoSem.ClaimJoined
import GoSem.ClaimMapViews
import Derived.JoinedTies
import Derived.KernelRfl
namespace Go.Proofs.Ytpaeigmdhmmjmaa
/- THE CELL 'sum', in the pinned program and in every row, IS THE sha256 OF THE DUMP (.gsa) THAT YtpaeigmdhmmjmaaProg.lean LOADS. Nothing in Lean hashes anything: it is a label: what it is worth is what the hold of that sum in a sandbox is worth. -/
noncomputable def Try.pinned : Pinned := { name := "ytpaeigmdhmmjmaa", sum := "e84cba0b7d858dcc03794890332ec1ba0be1b457d3b3b003b3eae131c834fe04", checked := Try.checked }
namespace Rows
def none {H : Type} : Left H := { results := [], args := [] }

/-- 'laws.FnExactHostNew': WHATEVER THE INPUT: true; the input reads as it did. -/
def fnExactHostNewSpec : ChangeSpec := { name := "fnExactHostNew", fn := fun _ => fun
  | [d] => { results := [.lit (.bool true)], args := [d] }
  | _ => none }
def fnExactHostNewRow : OpenClaim := { program := "ytpaeigmdhmmjmaa", sum := "e84cba0b7d858dcc03794890332ec1ba0be1b457d3b3b003b3eae131c834fe04", func := "loop.example/casket/laws.FnExactHostNew", spec := "fnExactHostNew", apart := false }
def FnExactHostNewSaid : Prop := fnExactHostNewRow.holds Try.pinned (OpenSpec.ofChange fnExactHostNewSpec)

/-- ITS FALSE NEIGHBOUR: 'it returns false'. Refute it at one input. -/
def fnExactHostNewWrong : ChangeSpec := { name := "fnExactHostNew", fn := fun _ => fun
  | [d] => { results := [.lit (.bool false)], args := [d] }
  | _ => none }
def FnExactHostNewWrongFalsely : Prop := fnExactHostNewRow.holds Try.pinned (OpenSpec.ofChange fnExactHostNewWrong)

/-- 'laws.FnExactHostOk': WHATEVER THE INPUT: true; the input reads as it did. -/
def fnExactHostOkSpec : ChangeSpec := { name := "fnExactHostOk", fn := fun _ => fun
  | [d] => { results := [.lit (.bool true)], args := [d] }
  | _ => none }
def fnExactHostOkRow : OpenClaim := { program := "ytpaeigmdhmmjmaa", sum := "e84cba0b7d858dcc03794890332ec1ba0be1b457d3b3b003b3eae131c834fe04", func := "loop.example/casket/laws.FnExactHostOk", spec := "fnExactHostOk", apart := false }
def FnExactHostOkSaid : Prop := fnExactHostOkRow.holds Try.pinned (OpenSpec.ofChange fnExactHostOkSpec)

/-- ITS FALSE NEIGHBOUR: 'it returns false'. Refute it at one input. -/
def fnExactHostOkWrong : ChangeSpec := { name := "fnExactHostOk", fn := fun _ => fun
  | [d] => { results := [.lit (.bool false)], args := [d] }
  | _ => none }
def FnExactHostOkWrongFalsely : Prop := fnExactHostOkRow.holds Try.pinned (OpenSpec.ofChange fnExactHostOkWrong)

/-- 'laws.FnExactHostSee': WHATEVER THE INPUT: true; the input reads as it did. -/
def fnExactHostSeeSpec : ChangeSpec := { name := "fnExactHostSee", fn := fun _ => fun
  | [d1, d2] => { results := [.lit (.bool true)], args := [d1, d2] }
  | _ => none }
def fnExactHostSeeRow : OpenClaim := { program := "ytpaeigmdhmmjmaa", sum := "e84cba0b7d858dcc03794890332ec1ba0be1b457d3b3b003b3eae131c834fe04", func := "loop.example/casket/laws.FnExactHostSee", spec := "fnExactHostSee", apart := false }
def FnExactHostSeeSaid : Prop := fnExactHostSeeRow.holds Try.pinned (OpenSpec.ofChange fnExactHostSeeSpec)

/-- ITS FALSE NEIGHBOUR: 'it returns false'. Refute it at one input. -/
def fnExactHostSeeWrong : ChangeSpec := { name := "fnExactHostSee", fn := fun _ => fun
  | [d1, d2] => { results := [.lit (.bool false)], args := [d1, d2] }
  | _ => none }
def FnExactHostSeeWrongFalsely : Prop := fnExactHostSeeRow.holds Try.pinned (OpenSpec.ofChange fnExactHostSeeWrong)

/-- 'laws.FnExactHostLoad': WHATEVER THE INPUT: true; the input reads as it did. -/
def fnExactHostLoadSpec : ChangeSpec := { name := "fnExactHostLoad", fn := fun _ => fun
  | [d] => { results := [.lit (.bool true)], args := [d] }
  | _ => none }
def fnExactHostLoadRow : OpenClaim := { program := "ytpaeigmdhmmjmaa", sum := "e84cba0b7d858dcc03794890332ec1ba0be1b457d3b3b003b3eae131c834fe04", func := "loop.example/casket/laws.FnExactHostLoad", spec := "fnExactHostLoad", apart := false }
def FnExactHostLoadSaid : Prop := fnExactHostLoadRow.holds Try.pinned (OpenSpec.ofChange fnExactHostLoadSpec)

/-- ITS FALSE NEIGHBOUR: 'it returns false'. Refute it at one input. -/
def fnExactHostLoadWrong : ChangeSpec := { name := "fnExactHostLoad", fn := fun _ => fun
  | [d] => { results := [.lit (.bool false)], args := [d] }
  | _ => none }
def FnExactHostLoadWrongFalsely : Prop := fnExactHostLoadRow.holds Try.pinned (OpenSpec.ofChange fnExactHostLoadWrong)

/-- 'laws.FnExactHostFree': WHATEVER THE INPUT: true; the input reads as it did. -/
def fnExactHostFreeSpec : ChangeSpec := { name := "fnExactHostFree", fn := fun _ => fun
  | [d] => { results := [.lit (.bool true)], args := [d] }
  | _ => none }
def fnExactHostFreeRow : OpenClaim := { program := "ytpaeigmdhmmjmaa", sum := "e84cba0b7d858dcc03794890332ec1ba0be1b457d3b3b003b3eae131c834fe04", func := "loop.example/casket/laws.FnExactHostFree", spec := "fnExactHostFree", apart := false }
def FnExactHostFreeSaid : Prop := fnExactHostFreeRow.holds Try.pinned (OpenSpec.ofChange fnExactHostFreeSpec)

/-- ITS FALSE NEIGHBOUR: 'it returns false'. Refute it at one input. -/
def fnExactHostFreeWrong : ChangeSpec := { name := "fnExactHostFree", fn := fun _ => fun
  | [d] => { results := [.lit (.bool false)], args := [d] }
  | _ => none }
def FnExactHostFreeWrongFalsely : Prop := fnExactHostFreeRow.holds Try.pinned (OpenSpec.ofChange fnExactHostFreeWrong)

/- THE SECOND FORM. 'bulk': how many values and letters a reading holds, each counted each time it is reached (what is shared counts as often as it is met; a slice's spare places count too). A statement '..UptoSaid' is the law's where the arguments, and the package variables that the reading takes, are together of bulk at most 1048576: NARROWER than '..Said'. Prove '..Said' where nothing that the law and all that it calls make is longer than what came in: it says more and counts as full. Else prove '..UptoSaid'. A law counts once. -/
mutual
def uptoBulk {H : Type} : DataW H → Nat
  | .lit (.string bytes) => bytes.length + 1
  | .lit _ => 1
  | .nil => 1
  | .ptr d => uptoBulk d + 1
  | .slice elems spare => uptoBulkAll elems + uptoBulkAll spare + 1
  | .agg parts => uptoBulkAll parts + 1
  | .iface _ d => uptoBulk d + 1
  | .map entries => uptoBulkEntries entries + 1
  | .held _ => 1
def uptoBulkAll {H : Type} : List (DataW H) → Nat
  | [] => 0
  | d :: r => uptoBulk d + uptoBulkAll r
def uptoBulkEntries {H : Type} : List (Lit × DataW H) → Nat
  | [] => 0
  | x :: r => uptoBulkEntry x + uptoBulkEntries r
def uptoBulkEntry {H : Type} : Lit × DataW H → Nat
  | (.string bytes, d) => bytes.length + uptoBulk d + 1
  | (_, d) => uptoBulk d + 1
 end
def uptoSmall : (H : Type) → List (DataW H) → Bool := fun _ ds => decide (uptoBulkAll ds ≤ 1048576)
def OpenSpec.upto (s : _root_.Go.ChangeSpec) : _root_.Go.OpenSpec := { _root_.Go.OpenSpec.ofChange s with cond := some uptoSmall }

/-- 'laws.FnExactHostNew', WHERE WHAT IT READS IS OF BULK AT MOST 1048576: true; the input reads as it did. -/
def fnExactHostNewUptoRow : OpenClaim := { program := "ytpaeigmdhmmjmaa", sum := "e84cba0b7d858dcc03794890332ec1ba0be1b457d3b3b003b3eae131c834fe04", func := "loop.example/casket/laws.FnExactHostNew", spec := "fnExactHostNew", apart := false, narrowed := true }
def FnExactHostNewUptoSaid : Prop := fnExactHostNewUptoRow.holds Try.pinned (OpenSpec.upto fnExactHostNewSpec)

/-- 'laws.FnExactHostOk', WHERE WHAT IT READS IS OF BULK AT MOST 1048576: true; the input reads as it did. -/
def fnExactHostOkUptoRow : OpenClaim := { program := "ytpaeigmdhmmjmaa", sum := "e84cba0b7d858dcc03794890332ec1ba0be1b457d3b3b003b3eae131c834fe04", func := "loop.example/casket/laws.FnExactHostOk", spec := "fnExactHostOk", apart := false, narrowed := true }
def FnExactHostOkUptoSaid : Prop := fnExactHostOkUptoRow.holds Try.pinned (OpenSpec.upto fnExactHostOkSpec)

/-- 'laws.FnExactHostSee', WHERE WHAT IT READS IS OF BULK AT MOST 1048576: true; the input reads as it did. -/
def fnExactHostSeeUptoRow : OpenClaim := { program := "ytpaeigmdhmmjmaa", sum := "e84cba0b7d858dcc03794890332ec1ba0be1b457d3b3b003b3eae131c834fe04", func := "loop.example/casket/laws.FnExactHostSee", spec := "fnExactHostSee", apart := false, narrowed := true }
def FnExactHostSeeUptoSaid : Prop := fnExactHostSeeUptoRow.holds Try.pinned (OpenSpec.upto fnExactHostSeeSpec)

/-- 'laws.FnExactHostLoad', WHERE WHAT IT READS IS OF BULK AT MOST 1048576: true; the input reads as it did. -/
def fnExactHostLoadUptoRow : OpenClaim := { program := "ytpaeigmdhmmjmaa", sum := "e84cba0b7d858dcc03794890332ec1ba0be1b457d3b3b003b3eae131c834fe04", func := "loop.example/casket/laws.FnExactHostLoad", spec := "fnExactHostLoad", apart := false, narrowed := true }
def FnExactHostLoadUptoSaid : Prop := fnExactHostLoadUptoRow.holds Try.pinned (OpenSpec.upto fnExactHostLoadSpec)

/-- 'laws.FnExactHostFree', WHERE WHAT IT READS IS OF BULK AT MOST 1048576: true; the input reads as it did. -/
def fnExactHostFreeUptoRow : OpenClaim := { program := "ytpaeigmdhmmjmaa", sum := "e84cba0b7d858dcc03794890332ec1ba0be1b457d3b3b003b3eae131c834fe04", func := "loop.example/casket/laws.FnExactHostFree", spec := "fnExactHostFree", apart := false, narrowed := true }
def FnExactHostFreeUptoSaid : Prop := fnExactHostFreeUptoRow.holds Try.pinned (OpenSpec.upto fnExactHostFreeSpec)

end Rows
end Go.Proofs.Ytpaeigmdhmmjmaa
