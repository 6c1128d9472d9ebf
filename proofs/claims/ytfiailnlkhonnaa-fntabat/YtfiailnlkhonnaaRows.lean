/-
  No cell of these rows narrows 'for every input' (looked for: loops, veiled, ifaces, maps, wideKeys, modest, calm, conditions, laid).
  DERIVED. THE GIVEN ROWS OF THIS SEAT. 4 by the template 'for every input the law returns true; each argument reads behind the call as it read before'; 0 by the template 'total and deterministic' (their statements: YtfiailnlkhonnaaTotals.lean).
  GIVEN WITH THE SEED: the statements are not yours to turn. If you find one false, say at which input.
  Laid BY PROGRAM, IN A SANDBOX (cutbox-rows.mjs): the forced cells as the released guide's own fill.sh prints them over the translation ff939807583d040c… (all of the seat's roots in one cut). By AI agents, Wed Nov 11 2026. No macro, syntax, notation, axiom, sorry.
-/
import Derived.Test.YtfiailnlkhonnaaChecked
import GoSem.Claim
import GoSem.ClaimJoined
import GoSem.ClaimMapViews
import Derived.JoinedTies
import Derived.KernelRfl
namespace Go.Proofs.Ytfiailnlkhonnaa
/- THE CELL 'sum', in the pinned program and in every row, IS THE sha256 OF THE DUMP (.gsa) THAT YtfiailnlkhonnaaProg.lean LOADS. Nothing in Lean hashes anything: it is a label: what it is worth is what the hold of that sum in a sandbox is worth. -/
noncomputable def Try.pinned : Pinned := { name := "ytfiailnlkhonnaa", sum := "ff939807583d040c0ffab7763f0263698554ea049313f374968d770ce1ad7765", checked := Try.checked }
namespace Rows
def none {H : Type} : Left H := { results := [], args := [] }

/-- 'laws.FnEntryBack': WHATEVER THE INPUT: true; the input reads as it did. -/
def fnEntryBackSpec : ChangeSpec := { name := "fnEntryBack", fn := fun _ => fun
  | [d] => { results := [.lit (.bool true)], args := [d] }
  | _ => none }
def fnEntryBackRow : OpenClaim := { program := "ytfiailnlkhonnaa", sum := "ff939807583d040c0ffab7763f0263698554ea049313f374968d770ce1ad7765", func := "loop.example/casket/laws.FnEntryBack", spec := "fnEntryBack", unfollowed := true, recurses := true, apart := false }
def FnEntryBackSaid : Prop := fnEntryBackRow.holds Try.pinned (OpenSpec.ofChange fnEntryBackSpec)

/-- ITS FALSE NEIGHBOUR: 'it returns false'. Refute it at one input. -/
def fnEntryBackWrong : ChangeSpec := { name := "fnEntryBack", fn := fun _ => fun
  | [d] => { results := [.lit (.bool false)], args := [d] }
  | _ => none }
def FnEntryBackWrongFalsely : Prop := fnEntryBackRow.holds Try.pinned (OpenSpec.ofChange fnEntryBackWrong)

/-- 'laws.FnEntryOf': WHATEVER THE INPUT: true; the input reads as it did. -/
def fnEntryOfSpec : ChangeSpec := { name := "fnEntryOf", fn := fun _ => fun
  | [d] => { results := [.lit (.bool true)], args := [d] }
  | _ => none }
def fnEntryOfRow : OpenClaim := { program := "ytfiailnlkhonnaa", sum := "ff939807583d040c0ffab7763f0263698554ea049313f374968d770ce1ad7765", func := "loop.example/casket/laws.FnEntryOf", spec := "fnEntryOf", unfollowed := true, recurses := true, apart := false }
def FnEntryOfSaid : Prop := fnEntryOfRow.holds Try.pinned (OpenSpec.ofChange fnEntryOfSpec)

/-- ITS FALSE NEIGHBOUR: 'it returns false'. Refute it at one input. -/
def fnEntryOfWrong : ChangeSpec := { name := "fnEntryOf", fn := fun _ => fun
  | [d] => { results := [.lit (.bool false)], args := [d] }
  | _ => none }
def FnEntryOfWrongFalsely : Prop := fnEntryOfRow.holds Try.pinned (OpenSpec.ofChange fnEntryOfWrong)

/-- 'laws.FnEntryOne': WHATEVER THE INPUT: true; the input reads as it did. -/
def fnEntryOneSpec : ChangeSpec := { name := "fnEntryOne", fn := fun _ => fun
  | [d1, d2] => { results := [.lit (.bool true)], args := [d1, d2] }
  | _ => none }
def fnEntryOneRow : OpenClaim := { program := "ytfiailnlkhonnaa", sum := "ff939807583d040c0ffab7763f0263698554ea049313f374968d770ce1ad7765", func := "loop.example/casket/laws.FnEntryOne", spec := "fnEntryOne", unfollowed := true, recurses := true, apart := false }
def FnEntryOneSaid : Prop := fnEntryOneRow.holds Try.pinned (OpenSpec.ofChange fnEntryOneSpec)

/-- ITS FALSE NEIGHBOUR: 'it returns false'. Refute it at one input. -/
def fnEntryOneWrong : ChangeSpec := { name := "fnEntryOne", fn := fun _ => fun
  | [d1, d2] => { results := [.lit (.bool false)], args := [d1, d2] }
  | _ => none }
def FnEntryOneWrongFalsely : Prop := fnEntryOneRow.holds Try.pinned (OpenSpec.ofChange fnEntryOneWrong)

/-- 'laws.FnTabAt': WHATEVER THE INPUT: true; the input reads as it did. -/
def fnTabAtSpec : ChangeSpec := { name := "fnTabAt", fn := fun _ => fun
  | [d] => { results := [.lit (.bool true)], args := [d] }
  | _ => none }
def fnTabAtRow : OpenClaim := { program := "ytfiailnlkhonnaa", sum := "ff939807583d040c0ffab7763f0263698554ea049313f374968d770ce1ad7765", func := "loop.example/casket/laws.FnTabAt", spec := "fnTabAt", apart := false }
def FnTabAtSaid : Prop := fnTabAtRow.holds Try.pinned (OpenSpec.ofChange fnTabAtSpec)

/-- ITS FALSE NEIGHBOUR: 'it returns false'. Refute it at one input. -/
def fnTabAtWrong : ChangeSpec := { name := "fnTabAt", fn := fun _ => fun
  | [d] => { results := [.lit (.bool false)], args := [d] }
  | _ => none }
def FnTabAtWrongFalsely : Prop := fnTabAtRow.holds Try.pinned (OpenSpec.ofChange fnTabAtWrong)

/- THE SECOND FORM. 'bulk': how many values and letters a reading holds, each counted each time it is reached (what is shared counts as often as it is met; a slice's spare places count too). A statement '..UptoSaid' is the law's where the arguments, and the package variables that the reading takes, are together of bulk at most 1048576: NARROWER than '..Said'. Prove '..Said' where nothing that the law and all that it calls make is longer than what came in: it says more and counts as full. Else prove '..UptoSaid'. A law counts once. -/
mutual
def uptoBulk {H : Type} : DataW H → Nat
  | .lit (.string bytes) => bytes.length + 1
  | .lit _ => 1
  | .nil => 1
  | .ptr d => uptoBulk d + 1
  | .slice elems spare => uptoBulkAll elems + uptoBulkAll spare + 1
  | .agg parts => uptoBulkAll parts + 1
  | .iface _ d => uptoBulk d + 1
  | .map entries => uptoBulkEntries entries + 1
  | .held _ => 1
def uptoBulkAll {H : Type} : List (DataW H) → Nat
  | [] => 0
  | d :: r => uptoBulk d + uptoBulkAll r
def uptoBulkEntries {H : Type} : List (Lit × DataW H) → Nat
  | [] => 0
  | x :: r => uptoBulkEntry x + uptoBulkEntries r
def uptoBulkEntry {H : Type} : Lit × DataW H → Nat
  | (.string bytes, d) => bytes.length + uptoBulk d + 1
  | (_, d) => uptoBulk d + 1
 end
def uptoSmall : (H : Type) → List (DataW H) → Bool := fun _ ds => decide (uptoBulkAll ds ≤ 1048576)
def OpenSpec.upto (s : _root_.Go.ChangeSpec) : _root_.Go.OpenSpec := { _root_.Go.OpenSpec.ofChange s with cond := some uptoSmall }

/-- 'laws.FnEntryBack', WHERE WHAT IT READS IS OF BULK AT MOST 1048576: true; the input reads as it did. -/
def fnEntryBackUptoRow : OpenClaim := { program := "ytfiailnlkhonnaa", sum := "ff939807583d040c0ffab7763f0263698554ea049313f374968d770ce1ad7765", func := "loop.example/casket/laws.FnEntryBack", spec := "fnEntryBack", unfollowed := true, recurses := true, apart := false, narrowed := true }
def FnEntryBackUptoSaid : Prop := fnEntryBackUptoRow.holds Try.pinned (OpenSpec.upto fnEntryBackSpec)

/-- 'laws.FnEntryOf', WHERE WHAT IT READS IS OF BULK AT MOST 1048576: true; the input reads as it did. -/
def fnEntryOfUptoRow : OpenClaim := { program := "ytfiailnlkhonnaa", sum := "ff939807583d040c0ffab7763f0263698554ea049313f374968d770ce1ad7765", func := "loop.example/casket/laws.FnEntryOf", spec := "fnEntryOf", unfollowed := true, recurses := true, apart := false, narrowed := true }
def FnEntryOfUptoSaid : Prop := fnEntryOfUptoRow.holds Try.pinned (OpenSpec.upto fnEntryOfSpec)

/-- 'laws.FnEntryOne', WHERE WHAT IT READS IS OF BULK AT MOST 1048576: true; the input reads as it did. -/
def fnEntryOneUptoRow : OpenClaim := { program := "ytfiailnlkhonnaa", sum := "ff939807583d040c0ffab7763f0263698554ea049313f374968d770ce1ad7765", func := "loop.example/casket/laws.FnEntryOne", spec := "fnEntryOne", unfollowed := true, recurses := true, apart := false, narrowed := true }
def FnEntryOneUptoSaid : Prop := fnEntryOneUptoRow.holds Try.pinned (OpenSpec.upto fnEntryOneSpec)

/-- 'laws.FnTabAt', WHERE WHAT IT READS IS OF BULK AT MOST 1048576: true; the input reads as it did. -/
def fnTabAtUptoRow : OpenClaim := { program := "ytfiailnlkhonnaa", sum := "ff939807583d040c0ffab7763f0263698554ea049313f374968d770ce1ad7765", func := "loop.example/casket/laws.FnTabAt", spec := "fnTabAt", apart := false, narrowed := true }
def FnTabAtUptoSaid : Prop := fnTabAtUptoRow.holds Try.pinned (OpenSpec.upto fnTabAtSpec)

end Rows
end Go.Proofs.Ytfiailnlkhonnaa
