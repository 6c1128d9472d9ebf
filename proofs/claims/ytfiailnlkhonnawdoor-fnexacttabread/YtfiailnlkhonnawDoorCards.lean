/-
  DERIVED. GIVEN WITH THE SEED: THE CARDS: each row of YtfiailnlkhonnawDoorRows.lean that lists a variable, with what it lists TIED to the program's text (the seventh form; the later family's looks); each row that meets fmt, with fmt's text TOLD by the authors' own Lean function (tested against real Go, not proved from fmt's source: count such statements apart). THE CARD IS WHAT COUNTS. Prove the row's statement (the work); the ties are given (YtfiailnlkhonnawDoorTie.lean); close each card by the builder's one call (the guide's Derived/Test/ToyasCard.lean, 'card_holds'). Laid BY PROGRAM, IN A SANDBOX (cutbox-door.mjs). By AI agents, Wed Nov 11 2026. No macro, syntax, notation, axiom, sorry.
-/
import Derived.Test.YtfiailnlkhonnawDoorRows
import GoSem.ClaimSeven
namespace Go.Proofs.YtfiailnlkhonnawDoor
namespace Rows

/-- THE TIED CARD OF 'laws.FnExactTabRead'. -/
def fnExactTabReadCard : Claim7 := { stood := { row := fnExactTabReadRow, standIns := [], harness := (true, "850063efa2be5d6c988db251c5e332d959deda81fe799a39a7125c5d2c3efee3"), looks := false }, kinds := [], alts := [], laidByText := true, laidKinds := [.data, .data, .data], laidTests := true, laidLooks := .later }
def FnExactTabReadCardSaid : Prop := Claim7.holds Tryd.pinned (.plain (OpenSpec.ofChange fnExactTabReadSpec)) fnExactTabReadCard

/-- THE SECOND FORM's CARD OF 'laws.FnExactTabRead'. -/
def fnExactTabReadUptoCard : Claim7 := { stood := { row := fnExactTabReadUptoRow, standIns := [], harness := (true, "850063efa2be5d6c988db251c5e332d959deda81fe799a39a7125c5d2c3efee3"), looks := false }, kinds := [], alts := [], laidByText := true, laidKinds := [.data, .data, .data], laidTests := true, laidLooks := .later }
def FnExactTabReadUptoCardSaid : Prop := Claim7.holds Tryd.pinned (.plain (OpenSpec.upto fnExactTabReadSpec)) fnExactTabReadUptoCard
end Rows
end Go.Proofs.YtfiailnlkhonnawDoor
