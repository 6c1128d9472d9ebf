/-
  No cell of these rows narrows 'for every input' (looked for: loops, veiled, ifaces, maps, wideKeys, modest, calm, conditions, laid).
  DERIVED. THE GIVEN ROWS OF THIS SEAT. 14 by the template 'for every input the law returns true; each argument reads behind the call as it read before'; 0 by the template 'total and deterministic' (their statements: YtjegndgdpmlbaaaTotals.lean).
  GIVEN WITH THE SEED: the statements are not yours to turn. If you find one false, say at which input.
  Laid BY PROGRAM, IN A SANDBOX (cutbox-rows.mjs): the forced cells as the released guide's own fill.sh prints them over the translation ddd69a91d9a26e40… (all of the seat's roots in one cut). By AI agents, Wed Nov 11 2026. No macro, syntax, notation, axiom, sorry.
-/
import Derived.Test.YtjegndgdpmlbaaaChecked
import GoSem.Claim
import GoSem.ClaimJoined
import GoSem.ClaimMapViews
import Derived.JoinedTies
import Derived.KernelRfl
namespace Go.Proofs.Ytjegndgdpmlbaaa
/- THE CELL 'sum', in the pinned program and in every row, IS THE sha256 OF THE DUMP (.gsa) THAT YtjegndgdpmlbaaaProg.lean LOADS. Nothing in Lean hashes anything: it is a label: what it is worth is what the hold of that sum in a sandbox is worth. -/
noncomputable def Try.pinned : Pinned := { name := "ytjegndgdpmlbaaa", sum := "ddd69a91d9a26e406618b5e630066911d56d020d9346fe6b4ef57af743bc8524", checked := Try.checked }
namespace Rows
def none {H : Type} : Left H := { results := [], args := [] }

/-- 'laws.FnHostAlone': WHATEVER THE INPUT: true; the input reads as it did. -/
def fnHostAloneSpec : ChangeSpec := { name := "fnHostAlone", fn := fun _ => fun
  | [d] => { results := [.lit (.bool true)], args := [d] }
  | _ => none }
def fnHostAloneRow : OpenClaim := { program := "ytjegndgdpmlbaaa", sum := "ddd69a91d9a26e406618b5e630066911d56d020d9346fe6b4ef57af743bc8524", func := "loop.example/casket/laws.FnHostAlone", spec := "fnHostAlone", apart := false }
def FnHostAloneSaid : Prop := fnHostAloneRow.holds Try.pinned (OpenSpec.ofChange fnHostAloneSpec)

/-- ITS FALSE NEIGHBOUR: 'it returns false'. Refute it at one input. -/
def fnHostAloneWrong : ChangeSpec := { name := "fnHostAlone", fn := fun _ => fun
  | [d] => { results := [.lit (.bool false)], args := [d] }
  | _ => none }
def FnHostAloneWrongFalsely : Prop := fnHostAloneRow.holds Try.pinned (OpenSpec.ofChange fnHostAloneWrong)

/-- 'laws.FnHostSee': WHATEVER THE INPUT: true; the input reads as it did. -/
def fnHostSeeSpec : ChangeSpec := { name := "fnHostSee", fn := fun _ => fun
  | [d] => { results := [.lit (.bool true)], args := [d] }
  | _ => none }
def fnHostSeeRow : OpenClaim := { program := "ytjegndgdpmlbaaa", sum := "ddd69a91d9a26e406618b5e630066911d56d020d9346fe6b4ef57af743bc8524", func := "loop.example/casket/laws.FnHostSee", spec := "fnHostSee", apart := false }
def FnHostSeeSaid : Prop := fnHostSeeRow.holds Try.pinned (OpenSpec.ofChange fnHostSeeSpec)

/-- ITS FALSE NEIGHBOUR: 'it returns false'. Refute it at one input. -/
def fnHostSeeWrong : ChangeSpec := { name := "fnHostSee", fn := fun _ => fun
  | [d] => { results := [.lit (.bool false)], args := [d] }
  | _ => none }
def FnHostSeeWrongFalsely : Prop := fnHostSeeRow.holds Try.pinned (OpenSpec.ofChange fnHostSeeWrong)

/-- 'laws.FnHostFree': WHATEVER THE INPUT: true; the input reads as it did. -/
def fnHostFreeSpec : ChangeSpec := { name := "fnHostFree", fn := fun _ => fun
  | [d] => { results := [.lit (.bool true)], args := [d] }
  | _ => none }
def fnHostFreeRow : OpenClaim := { program := "ytjegndgdpmlbaaa", sum := "ddd69a91d9a26e406618b5e630066911d56d020d9346fe6b4ef57af743bc8524", func := "loop.example/casket/laws.FnHostFree", spec := "fnHostFree", apart := false }
def FnHostFreeSaid : Prop := fnHostFreeRow.holds Try.pinned (OpenSpec.ofChange fnHostFreeSpec)

/-- ITS FALSE NEIGHBOUR: 'it returns false'. Refute it at one input. -/
def fnHostFreeWrong : ChangeSpec := { name := "fnHostFree", fn := fun _ => fun
  | [d] => { results := [.lit (.bool false)], args := [d] }
  | _ => none }
def FnHostFreeWrongFalsely : Prop := fnHostFreeRow.holds Try.pinned (OpenSpec.ofChange fnHostFreeWrong)

/-- 'laws.FnHostUsed': WHATEVER THE INPUT: true; the input reads as it did. -/
def fnHostUsedSpec : ChangeSpec := { name := "fnHostUsed", fn := fun _ => fun
  | [d] => { results := [.lit (.bool true)], args := [d] }
  | _ => none }
def fnHostUsedRow : OpenClaim := { program := "ytjegndgdpmlbaaa", sum := "ddd69a91d9a26e406618b5e630066911d56d020d9346fe6b4ef57af743bc8524", func := "loop.example/casket/laws.FnHostUsed", spec := "fnHostUsed", apart := false }
def FnHostUsedSaid : Prop := fnHostUsedRow.holds Try.pinned (OpenSpec.ofChange fnHostUsedSpec)

/-- ITS FALSE NEIGHBOUR: 'it returns false'. Refute it at one input. -/
def fnHostUsedWrong : ChangeSpec := { name := "fnHostUsed", fn := fun _ => fun
  | [d] => { results := [.lit (.bool false)], args := [d] }
  | _ => none }
def FnHostUsedWrongFalsely : Prop := fnHostUsedRow.holds Try.pinned (OpenSpec.ofChange fnHostUsedWrong)

/-- 'laws.FnHostOut': WHATEVER THE INPUT: true; the input reads as it did. -/
def fnHostOutSpec : ChangeSpec := { name := "fnHostOut", fn := fun _ => fun
  | [d] => { results := [.lit (.bool true)], args := [d] }
  | _ => none }
def fnHostOutRow : OpenClaim := { program := "ytjegndgdpmlbaaa", sum := "ddd69a91d9a26e406618b5e630066911d56d020d9346fe6b4ef57af743bc8524", func := "loop.example/casket/laws.FnHostOut", spec := "fnHostOut", apart := false }
def FnHostOutSaid : Prop := fnHostOutRow.holds Try.pinned (OpenSpec.ofChange fnHostOutSpec)

/-- ITS FALSE NEIGHBOUR: 'it returns false'. Refute it at one input. -/
def fnHostOutWrong : ChangeSpec := { name := "fnHostOut", fn := fun _ => fun
  | [d] => { results := [.lit (.bool false)], args := [d] }
  | _ => none }
def FnHostOutWrongFalsely : Prop := fnHostOutRow.holds Try.pinned (OpenSpec.ofChange fnHostOutWrong)

/-- 'laws.FnPageIn': WHATEVER THE INPUT: true; the input reads as it did. -/
def fnPageInSpec : ChangeSpec := { name := "fnPageIn", fn := fun _ => fun
  | [d] => { results := [.lit (.bool true)], args := [d] }
  | _ => none }
def fnPageInRow : OpenClaim := { program := "ytjegndgdpmlbaaa", sum := "ddd69a91d9a26e406618b5e630066911d56d020d9346fe6b4ef57af743bc8524", func := "loop.example/casket/laws.FnPageIn", spec := "fnPageIn", apart := false }
def FnPageInSaid : Prop := fnPageInRow.holds Try.pinned (OpenSpec.ofChange fnPageInSpec)

/-- ITS FALSE NEIGHBOUR: 'it returns false'. Refute it at one input. -/
def fnPageInWrong : ChangeSpec := { name := "fnPageIn", fn := fun _ => fun
  | [d] => { results := [.lit (.bool false)], args := [d] }
  | _ => none }
def FnPageInWrongFalsely : Prop := fnPageInRow.holds Try.pinned (OpenSpec.ofChange fnPageInWrong)

/-- 'laws.FnPageOut': WHATEVER THE INPUT: true; the input reads as it did. -/
def fnPageOutSpec : ChangeSpec := { name := "fnPageOut", fn := fun _ => fun
  | [d] => { results := [.lit (.bool true)], args := [d] }
  | _ => none }
def fnPageOutRow : OpenClaim := { program := "ytjegndgdpmlbaaa", sum := "ddd69a91d9a26e406618b5e630066911d56d020d9346fe6b4ef57af743bc8524", func := "loop.example/casket/laws.FnPageOut", spec := "fnPageOut", apart := false }
def FnPageOutSaid : Prop := fnPageOutRow.holds Try.pinned (OpenSpec.ofChange fnPageOutSpec)

/-- ITS FALSE NEIGHBOUR: 'it returns false'. Refute it at one input. -/
def fnPageOutWrong : ChangeSpec := { name := "fnPageOut", fn := fun _ => fun
  | [d] => { results := [.lit (.bool false)], args := [d] }
  | _ => none }
def FnPageOutWrongFalsely : Prop := fnPageOutRow.holds Try.pinned (OpenSpec.ofChange fnPageOutWrong)

/-- 'laws.FnPageOwn': WHATEVER THE INPUT: true; the input reads as it did. -/
def fnPageOwnSpec : ChangeSpec := { name := "fnPageOwn", fn := fun _ => fun
  | [d] => { results := [.lit (.bool true)], args := [d] }
  | _ => none }
def fnPageOwnRow : OpenClaim := { program := "ytjegndgdpmlbaaa", sum := "ddd69a91d9a26e406618b5e630066911d56d020d9346fe6b4ef57af743bc8524", func := "loop.example/casket/laws.FnPageOwn", spec := "fnPageOwn", apart := false }
def FnPageOwnSaid : Prop := fnPageOwnRow.holds Try.pinned (OpenSpec.ofChange fnPageOwnSpec)

/-- ITS FALSE NEIGHBOUR: 'it returns false'. Refute it at one input. -/
def fnPageOwnWrong : ChangeSpec := { name := "fnPageOwn", fn := fun _ => fun
  | [d] => { results := [.lit (.bool false)], args := [d] }
  | _ => none }
def FnPageOwnWrongFalsely : Prop := fnPageOwnRow.holds Try.pinned (OpenSpec.ofChange fnPageOwnWrong)

/-- 'laws.FnForget': WHATEVER THE INPUT: true; the input reads as it did. -/
def fnForgetSpec : ChangeSpec := { name := "fnForget", fn := fun _ => fun
  | [d] => { results := [.lit (.bool true)], args := [d] }
  | _ => none }
def fnForgetRow : OpenClaim := { program := "ytjegndgdpmlbaaa", sum := "ddd69a91d9a26e406618b5e630066911d56d020d9346fe6b4ef57af743bc8524", func := "loop.example/casket/laws.FnForget", spec := "fnForget", apart := false }
def FnForgetSaid : Prop := fnForgetRow.holds Try.pinned (OpenSpec.ofChange fnForgetSpec)

/-- ITS FALSE NEIGHBOUR: 'it returns false'. Refute it at one input. -/
def fnForgetWrong : ChangeSpec := { name := "fnForget", fn := fun _ => fun
  | [d] => { results := [.lit (.bool false)], args := [d] }
  | _ => none }
def FnForgetWrongFalsely : Prop := fnForgetRow.holds Try.pinned (OpenSpec.ofChange fnForgetWrong)

/-- 'laws.FnForgetOne': WHATEVER THE INPUT: true; the input reads as it did. -/
def fnForgetOneSpec : ChangeSpec := { name := "fnForgetOne", fn := fun _ => fun
  | [d] => { results := [.lit (.bool true)], args := [d] }
  | _ => none }
def fnForgetOneRow : OpenClaim := { program := "ytjegndgdpmlbaaa", sum := "ddd69a91d9a26e406618b5e630066911d56d020d9346fe6b4ef57af743bc8524", func := "loop.example/casket/laws.FnForgetOne", spec := "fnForgetOne", apart := false }
def FnForgetOneSaid : Prop := fnForgetOneRow.holds Try.pinned (OpenSpec.ofChange fnForgetOneSpec)

/-- ITS FALSE NEIGHBOUR: 'it returns false'. Refute it at one input. -/
def fnForgetOneWrong : ChangeSpec := { name := "fnForgetOne", fn := fun _ => fun
  | [d] => { results := [.lit (.bool false)], args := [d] }
  | _ => none }
def FnForgetOneWrongFalsely : Prop := fnForgetOneRow.holds Try.pinned (OpenSpec.ofChange fnForgetOneWrong)

/-- 'laws.FnOutKept': WHATEVER THE INPUT: true; the input reads as it did. -/
def fnOutKeptSpec : ChangeSpec := { name := "fnOutKept", fn := fun _ => fun
  | [d] => { results := [.lit (.bool true)], args := [d] }
  | _ => none }
def fnOutKeptRow : OpenClaim := { program := "ytjegndgdpmlbaaa", sum := "ddd69a91d9a26e406618b5e630066911d56d020d9346fe6b4ef57af743bc8524", func := "loop.example/casket/laws.FnOutKept", spec := "fnOutKept", apart := false }
def FnOutKeptSaid : Prop := fnOutKeptRow.holds Try.pinned (OpenSpec.ofChange fnOutKeptSpec)

/-- ITS FALSE NEIGHBOUR: 'it returns false'. Refute it at one input. -/
def fnOutKeptWrong : ChangeSpec := { name := "fnOutKept", fn := fun _ => fun
  | [d] => { results := [.lit (.bool false)], args := [d] }
  | _ => none }
def FnOutKeptWrongFalsely : Prop := fnOutKeptRow.holds Try.pinned (OpenSpec.ofChange fnOutKeptWrong)

/-- 'laws.FnInOut': WHATEVER THE INPUT: true; the input reads as it did. -/
def fnInOutSpec : ChangeSpec := { name := "fnInOut", fn := fun _ => fun
  | [d] => { results := [.lit (.bool true)], args := [d] }
  | _ => none }
def fnInOutRow : OpenClaim := { program := "ytjegndgdpmlbaaa", sum := "ddd69a91d9a26e406618b5e630066911d56d020d9346fe6b4ef57af743bc8524", func := "loop.example/casket/laws.FnInOut", spec := "fnInOut", apart := false }
def FnInOutSaid : Prop := fnInOutRow.holds Try.pinned (OpenSpec.ofChange fnInOutSpec)

/-- ITS FALSE NEIGHBOUR: 'it returns false'. Refute it at one input. -/
def fnInOutWrong : ChangeSpec := { name := "fnInOut", fn := fun _ => fun
  | [d] => { results := [.lit (.bool false)], args := [d] }
  | _ => none }
def FnInOutWrongFalsely : Prop := fnInOutRow.holds Try.pinned (OpenSpec.ofChange fnInOutWrong)

/-- 'laws.FnInFirst': WHATEVER THE INPUT: true; the input reads as it did. -/
def fnInFirstSpec : ChangeSpec := { name := "fnInFirst", fn := fun _ => fun
  | [d] => { results := [.lit (.bool true)], args := [d] }
  | _ => none }
def fnInFirstRow : OpenClaim := { program := "ytjegndgdpmlbaaa", sum := "ddd69a91d9a26e406618b5e630066911d56d020d9346fe6b4ef57af743bc8524", func := "loop.example/casket/laws.FnInFirst", spec := "fnInFirst", apart := false }
def FnInFirstSaid : Prop := fnInFirstRow.holds Try.pinned (OpenSpec.ofChange fnInFirstSpec)

/-- ITS FALSE NEIGHBOUR: 'it returns false'. Refute it at one input. -/
def fnInFirstWrong : ChangeSpec := { name := "fnInFirst", fn := fun _ => fun
  | [d] => { results := [.lit (.bool false)], args := [d] }
  | _ => none }
def FnInFirstWrongFalsely : Prop := fnInFirstRow.holds Try.pinned (OpenSpec.ofChange fnInFirstWrong)

/-- 'laws.FnOutAll': WHATEVER THE INPUT: true; the input reads as it did. -/
def fnOutAllSpec : ChangeSpec := { name := "fnOutAll", fn := fun _ => fun
  | [d] => { results := [.lit (.bool true)], args := [d] }
  | _ => none }
def fnOutAllRow : OpenClaim := { program := "ytjegndgdpmlbaaa", sum := "ddd69a91d9a26e406618b5e630066911d56d020d9346fe6b4ef57af743bc8524", func := "loop.example/casket/laws.FnOutAll", spec := "fnOutAll", apart := false }
def FnOutAllSaid : Prop := fnOutAllRow.holds Try.pinned (OpenSpec.ofChange fnOutAllSpec)

/-- ITS FALSE NEIGHBOUR: 'it returns false'. Refute it at one input. -/
def fnOutAllWrong : ChangeSpec := { name := "fnOutAll", fn := fun _ => fun
  | [d] => { results := [.lit (.bool false)], args := [d] }
  | _ => none }
def FnOutAllWrongFalsely : Prop := fnOutAllRow.holds Try.pinned (OpenSpec.ofChange fnOutAllWrong)

/- THE SECOND FORM. 'bulk': how many values and letters a reading holds, each counted each time it is reached (what is shared counts as often as it is met; a slice's spare places count too). A statement '..UptoSaid' is the law's where the arguments, and the package variables that the reading takes, are together of bulk at most 1048576: NARROWER than '..Said'. Prove '..Said' where nothing that the law and all that it calls make is longer than what came in: it says more and counts as full. Else prove '..UptoSaid'. A law counts once. -/
mutual
def uptoBulk {H : Type} : DataW H → Nat
  | .lit (.string bytes) => bytes.length + 1
  | .lit _ => 1
  | .nil => 1
  | .ptr d => uptoBulk d + 1
  | .slice elems spare => uptoBulkAll elems + uptoBulkAll spare + 1
  | .agg parts => uptoBulkAll parts + 1
  | .iface _ d => uptoBulk d + 1
  | .map entries => uptoBulkEntries entries + 1
  | .held _ => 1
def uptoBulkAll {H : Type} : List (DataW H) → Nat
  | [] => 0
  | d :: r => uptoBulk d + uptoBulkAll r
def uptoBulkEntries {H : Type} : List (Lit × DataW H) → Nat
  | [] => 0
  | x :: r => uptoBulkEntry x + uptoBulkEntries r
def uptoBulkEntry {H : Type} : Lit × DataW H → Nat
  | (.string bytes, d) => bytes.length + uptoBulk d + 1
  | (_, d) => uptoBulk d + 1
 end
def uptoSmall : (H : Type) → List (DataW H) → Bool := fun _ ds => decide (uptoBulkAll ds ≤ 1048576)
def OpenSpec.upto (s : _root_.Go.ChangeSpec) : _root_.Go.OpenSpec := { _root_.Go.OpenSpec.ofChange s with cond := some uptoSmall }

/-- 'laws.FnHostAlone', WHERE WHAT IT READS IS OF BULK AT MOST 1048576: true; the input reads as it did. -/
def fnHostAloneUptoRow : OpenClaim := { program := "ytjegndgdpmlbaaa", sum := "ddd69a91d9a26e406618b5e630066911d56d020d9346fe6b4ef57af743bc8524", func := "loop.example/casket/laws.FnHostAlone", spec := "fnHostAlone", apart := false, narrowed := true }
def FnHostAloneUptoSaid : Prop := fnHostAloneUptoRow.holds Try.pinned (OpenSpec.upto fnHostAloneSpec)

/-- 'laws.FnHostSee', WHERE WHAT IT READS IS OF BULK AT MOST 1048576: true; the input reads as it did. -/
def fnHostSeeUptoRow : OpenClaim := { program := "ytjegndgdpmlbaaa", sum := "ddd69a91d9a26e406618b5e630066911d56d020d9346fe6b4ef57af743bc8524", func := "loop.example/casket/laws.FnHostSee", spec := "fnHostSee", apart := false, narrowed := true }
def FnHostSeeUptoSaid : Prop := fnHostSeeUptoRow.holds Try.pinned (OpenSpec.upto fnHostSeeSpec)

/-- 'laws.FnHostFree', WHERE WHAT IT READS IS OF BULK AT MOST 1048576: true; the input reads as it did. -/
def fnHostFreeUptoRow : OpenClaim := { program := "ytjegndgdpmlbaaa", sum := "ddd69a91d9a26e406618b5e630066911d56d020d9346fe6b4ef57af743bc8524", func := "loop.example/casket/laws.FnHostFree", spec := "fnHostFree", apart := false, narrowed := true }
def FnHostFreeUptoSaid : Prop := fnHostFreeUptoRow.holds Try.pinned (OpenSpec.upto fnHostFreeSpec)

/-- 'laws.FnHostUsed', WHERE WHAT IT READS IS OF BULK AT MOST 1048576: true; the input reads as it did. -/
def fnHostUsedUptoRow : OpenClaim := { program := "ytjegndgdpmlbaaa", sum := "ddd69a91d9a26e406618b5e630066911d56d020d9346fe6b4ef57af743bc8524", func := "loop.example/casket/laws.FnHostUsed", spec := "fnHostUsed", apart := false, narrowed := true }
def FnHostUsedUptoSaid : Prop := fnHostUsedUptoRow.holds Try.pinned (OpenSpec.upto fnHostUsedSpec)

/-- 'laws.FnHostOut', WHERE WHAT IT READS IS OF BULK AT MOST 1048576: true; the input reads as it did. -/
def fnHostOutUptoRow : OpenClaim := { program := "ytjegndgdpmlbaaa", sum := "ddd69a91d9a26e406618b5e630066911d56d020d9346fe6b4ef57af743bc8524", func := "loop.example/casket/laws.FnHostOut", spec := "fnHostOut", apart := false, narrowed := true }
def FnHostOutUptoSaid : Prop := fnHostOutUptoRow.holds Try.pinned (OpenSpec.upto fnHostOutSpec)

/-- 'laws.FnPageIn', WHERE WHAT IT READS IS OF BULK AT MOST 1048576: true; the input reads as it did. -/
def fnPageInUptoRow : OpenClaim := { program := "ytjegndgdpmlbaaa", sum := "ddd69a91d9a26e406618b5e630066911d56d020d9346fe6b4ef57af743bc8524", func := "loop.example/casket/laws.FnPageIn", spec := "fnPageIn", apart := false, narrowed := true }
def FnPageInUptoSaid : Prop := fnPageInUptoRow.holds Try.pinned (OpenSpec.upto fnPageInSpec)

/-- 'laws.FnPageOut', WHERE WHAT IT READS IS OF BULK AT MOST 1048576: true; the input reads as it did. -/
def fnPageOutUptoRow : OpenClaim := { program := "ytjegndgdpmlbaaa", sum := "ddd69a91d9a26e406618b5e630066911d56d020d9346fe6b4ef57af743bc8524", func := "loop.example/casket/laws.FnPageOut", spec := "fnPageOut", apart := false, narrowed := true }
def FnPageOutUptoSaid : Prop := fnPageOutUptoRow.holds Try.pinned (OpenSpec.upto fnPageOutSpec)

/-- 'laws.FnPageOwn', WHERE WHAT IT READS IS OF BULK AT MOST 1048576: true; the input reads as it did. -/
def fnPageOwnUptoRow : OpenClaim := { program := "ytjegndgdpmlbaaa", sum := "ddd69a91d9a26e406618b5e630066911d56d020d9346fe6b4ef57af743bc8524", func := "loop.example/casket/laws.FnPageOwn", spec := "fnPageOwn", apart := false, narrowed := true }
def FnPageOwnUptoSaid : Prop := fnPageOwnUptoRow.holds Try.pinned (OpenSpec.upto fnPageOwnSpec)

/-- 'laws.FnForget', WHERE WHAT IT READS IS OF BULK AT MOST 1048576: true; the input reads as it did. -/
def fnForgetUptoRow : OpenClaim := { program := "ytjegndgdpmlbaaa", sum := "ddd69a91d9a26e406618b5e630066911d56d020d9346fe6b4ef57af743bc8524", func := "loop.example/casket/laws.FnForget", spec := "fnForget", apart := false, narrowed := true }
def FnForgetUptoSaid : Prop := fnForgetUptoRow.holds Try.pinned (OpenSpec.upto fnForgetSpec)

/-- 'laws.FnForgetOne', WHERE WHAT IT READS IS OF BULK AT MOST 1048576: true; the input reads as it did. -/
def fnForgetOneUptoRow : OpenClaim := { program := "ytjegndgdpmlbaaa", sum := "ddd69a91d9a26e406618b5e630066911d56d020d9346fe6b4ef57af743bc8524", func := "loop.example/casket/laws.FnForgetOne", spec := "fnForgetOne", apart := false, narrowed := true }
def FnForgetOneUptoSaid : Prop := fnForgetOneUptoRow.holds Try.pinned (OpenSpec.upto fnForgetOneSpec)

/-- 'laws.FnOutKept', WHERE WHAT IT READS IS OF BULK AT MOST 1048576: true; the input reads as it did. -/
def fnOutKeptUptoRow : OpenClaim := { program := "ytjegndgdpmlbaaa", sum := "ddd69a91d9a26e406618b5e630066911d56d020d9346fe6b4ef57af743bc8524", func := "loop.example/casket/laws.FnOutKept", spec := "fnOutKept", apart := false, narrowed := true }
def FnOutKeptUptoSaid : Prop := fnOutKeptUptoRow.holds Try.pinned (OpenSpec.upto fnOutKeptSpec)

/-- 'laws.FnInOut', WHERE WHAT IT READS IS OF BULK AT MOST 1048576: true; the input reads as it did. -/
def fnInOutUptoRow : OpenClaim := { program := "ytjegndgdpmlbaaa", sum := "ddd69a91d9a26e406618b5e630066911d56d020d9346fe6b4ef57af743bc8524", func := "loop.example/casket/laws.FnInOut", spec := "fnInOut", apart := false, narrowed := true }
def FnInOutUptoSaid : Prop := fnInOutUptoRow.holds Try.pinned (OpenSpec.upto fnInOutSpec)

/-- 'laws.FnInFirst', WHERE WHAT IT READS IS OF BULK AT MOST 1048576: true; the input reads as it did. -/
def fnInFirstUptoRow : OpenClaim := { program := "ytjegndgdpmlbaaa", sum := "ddd69a91d9a26e406618b5e630066911d56d020d9346fe6b4ef57af743bc8524", func := "loop.example/casket/laws.FnInFirst", spec := "fnInFirst", apart := false, narrowed := true }
def FnInFirstUptoSaid : Prop := fnInFirstUptoRow.holds Try.pinned (OpenSpec.upto fnInFirstSpec)

/-- 'laws.FnOutAll', WHERE WHAT IT READS IS OF BULK AT MOST 1048576: true; the input reads as it did. -/
def fnOutAllUptoRow : OpenClaim := { program := "ytjegndgdpmlbaaa", sum := "ddd69a91d9a26e406618b5e630066911d56d020d9346fe6b4ef57af743bc8524", func := "loop.example/casket/laws.FnOutAll", spec := "fnOutAll", apart := false, narrowed := true }
def FnOutAllUptoSaid : Prop := fnOutAllUptoRow.holds Try.pinned (OpenSpec.upto fnOutAllSpec)

end Rows
end Go.Proofs.Ytjegndgdpmlbaaa
