/-
  DERIVED. GIVEN WITH THE SEED: THE CARDS: each row of YtcdgahmfggnafatDoorRows.lean that lists a variable, with what it lists TIED to the program's text (the seventh form; the later family's looks); each row that meets fmt, with fmt's text TOLD by the authors' own Lean function (tested against real Go, not proved from fmt's source: count such statements apart). THE CARD IS WHAT COUNTS. Prove the row's statement (the work); the ties are given (YtcdgahmfggnafatDoorTie.lean); close each card by the builder's one call (the guide's Derived/Test/ToyasCard.lean, 'card_holds'). Laid BY PROGRAM, IN A SANDBOX (cutbox-door.mjs). By AI agents, Wed Nov 11 2026. No macro, syntax, notation, axiom, sorry.
-/
import Derived.Test.YtcdgahmfggnafatDoorRows
import GoSem.ClaimSeven
namespace Go.Proofs.YtcdgahmfggnafatDoor
namespace Rows

/-- THE TIED CARD OF 'laws.FnExactFlatReadIn'. -/
def fnExactFlatReadInCard : Claim7 := { stood := { row := fnExactFlatReadInRow, standIns := [], harness := (true, "f6f9c2f00a5cf9e0d2f49fbf59d7b1ebafadcf671edc8a43b7d2fed824138163"), looks := true }, kinds := [], alts := [], laidByText := true, laidKinds := [.handle], laidTests := true, laidLooks := .later }
def FnExactFlatReadInCardSaid : Prop := Claim7.holds Tryd.pinned (.plain (OpenSpec.ofChange fnExactFlatReadInSpec)) fnExactFlatReadInCard

/-- THE TIED CARD OF 'laws.FnExactFlatWriteIn'. -/
def fnExactFlatWriteInCard : Claim7 := { stood := { row := fnExactFlatWriteInRow, standIns := [], harness := (true, "f6f9c2f00a5cf9e0d2f49fbf59d7b1ebafadcf671edc8a43b7d2fed824138163"), looks := true }, kinds := [], alts := [], laidByText := true, laidKinds := [.handle], laidTests := true, laidLooks := .later }
def FnExactFlatWriteInCardSaid : Prop := Claim7.holds Tryd.pinned (.plain (OpenSpec.ofChange fnExactFlatWriteInSpec)) fnExactFlatWriteInCard

/-- THE SECOND FORM's CARD OF 'laws.FnExactFlatReadIn'. -/
def fnExactFlatReadInUptoCard : Claim7 := { stood := { row := fnExactFlatReadInUptoRow, standIns := [], harness := (true, "f6f9c2f00a5cf9e0d2f49fbf59d7b1ebafadcf671edc8a43b7d2fed824138163"), looks := true }, kinds := [], alts := [], laidByText := true, laidKinds := [.handle], laidTests := true, laidLooks := .later }
def FnExactFlatReadInUptoCardSaid : Prop := Claim7.holds Tryd.pinned (.plain (OpenSpec.upto fnExactFlatReadInSpec)) fnExactFlatReadInUptoCard

/-- THE SECOND FORM's CARD OF 'laws.FnExactFlatWriteIn'. -/
def fnExactFlatWriteInUptoCard : Claim7 := { stood := { row := fnExactFlatWriteInUptoRow, standIns := [], harness := (true, "f6f9c2f00a5cf9e0d2f49fbf59d7b1ebafadcf671edc8a43b7d2fed824138163"), looks := true }, kinds := [], alts := [], laidByText := true, laidKinds := [.handle], laidTests := true, laidLooks := .later }
def FnExactFlatWriteInUptoCardSaid : Prop := Claim7.holds Tryd.pinned (.plain (OpenSpec.upto fnExactFlatWriteInSpec)) fnExactFlatWriteInUptoCard
end Rows
end Go.Proofs.YtcdgahmfggnafatDoor
