/-
  DERIVED. GIVEN WITH THE SEED: THE CARDS: each row of YtcdgahmfggnafafDoorRows.lean that lists a variable, with what it lists TIED to the program's text (the seventh form; the later family's looks); each row that meets fmt, with fmt's text TOLD by the authors' own Lean function (tested against real Go, not proved from fmt's source: count such statements apart). THE CARD IS WHAT COUNTS. Prove the row's statement (the work); the ties are given (YtcdgahmfggnafafDoorTie.lean); close each card by the builder's one call (the guide's Derived/Test/ToyasCard.lean, 'card_holds'). Laid BY PROGRAM, IN A SANDBOX (cutbox-door.mjs). By AI agents, Wed Nov 11 2026. No macro, syntax, notation, axiom, sorry.
-/
import Derived.Test.YtcdgahmfggnafafDoorRows
import GoSem.ClaimSeven
namespace Go.Proofs.YtcdgahmfggnafafDoor
namespace Rows

/-- THE TIED CARD OF 'laws.FnFlatAll'. -/
def fnFlatAllCard : Claim7 := { stood := { row := fnFlatAllRow, standIns := [], harness := (true, "39c6e8701d8c6594873f7ef47fe4852fda81ecb4e482bac689e352b61fd3e169"), looks := true }, kinds := [], alts := [], laidByText := true, laidKinds := [.handle], laidTests := true, laidLooks := .later }
def FnFlatAllCardSaid : Prop := Claim7.holds Tryd.pinned (.plain (OpenSpec.ofChange fnFlatAllSpec)) fnFlatAllCard

/-- THE SECOND FORM's CARD OF 'laws.FnFlatAll'. -/
def fnFlatAllUptoCard : Claim7 := { stood := { row := fnFlatAllUptoRow, standIns := [], harness := (true, "39c6e8701d8c6594873f7ef47fe4852fda81ecb4e482bac689e352b61fd3e169"), looks := true }, kinds := [], alts := [], laidByText := true, laidKinds := [.handle], laidTests := true, laidLooks := .later }
def FnFlatAllUptoCardSaid : Prop := Claim7.holds Tryd.pinned (.plain (OpenSpec.upto fnFlatAllSpec)) fnFlatAllUptoCard
end Rows
end Go.Proofs.YtcdgahmfggnafafDoor
