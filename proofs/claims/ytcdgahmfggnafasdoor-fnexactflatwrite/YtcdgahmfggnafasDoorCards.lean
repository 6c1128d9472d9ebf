/-
  DERIVED. GIVEN WITH THE SEED: THE CARDS: each row of YtcdgahmfggnafasDoorRows.lean that lists a variable, with what it lists TIED to the program's text (the seventh form; the later family's looks); each row that meets fmt, with fmt's text TOLD by the authors' own Lean function (tested against real Go, not proved from fmt's source: count such statements apart). THE CARD IS WHAT COUNTS. Prove the row's statement (the work); the ties are given (YtcdgahmfggnafasDoorTie.lean); close each card by the builder's one call (the guide's Derived/Test/ToyasCard.lean, 'card_holds'). Laid BY PROGRAM, IN A SANDBOX (cutbox-door.mjs). By AI agents, Wed Nov 11 2026. No macro, syntax, notation, axiom, sorry.
-/
import Derived.Test.YtcdgahmfggnafasDoorRows
import GoSem.ClaimSeven
namespace Go.Proofs.YtcdgahmfggnafasDoor
namespace Rows

/-- THE TIED CARD OF 'laws.FnExactFlatRead'. -/
def fnExactFlatReadCard : Claim7 := { stood := { row := fnExactFlatReadRow, standIns := [], harness := (true, "d8315155c318de910edbbf32264f118998bb771bdc7a989c1e4922599112a720"), looks := true }, kinds := [], alts := [], laidByText := true, laidKinds := [.handle], laidTests := true, laidLooks := .later }
def FnExactFlatReadCardSaid : Prop := Claim7.holds Tryd.pinned (.plain (OpenSpec.ofChange fnExactFlatReadSpec)) fnExactFlatReadCard

/-- THE TIED CARD OF 'laws.FnExactFlatWrite'. -/
def fnExactFlatWriteCard : Claim7 := { stood := { row := fnExactFlatWriteRow, standIns := [], harness := (true, "d8315155c318de910edbbf32264f118998bb771bdc7a989c1e4922599112a720"), looks := true }, kinds := [], alts := [], laidByText := true, laidKinds := [.handle], laidTests := true, laidLooks := .later }
def FnExactFlatWriteCardSaid : Prop := Claim7.holds Tryd.pinned (.plain (OpenSpec.ofChange fnExactFlatWriteSpec)) fnExactFlatWriteCard

/-- THE SECOND FORM's CARD OF 'laws.FnExactFlatRead'. -/
def fnExactFlatReadUptoCard : Claim7 := { stood := { row := fnExactFlatReadUptoRow, standIns := [], harness := (true, "d8315155c318de910edbbf32264f118998bb771bdc7a989c1e4922599112a720"), looks := true }, kinds := [], alts := [], laidByText := true, laidKinds := [.handle], laidTests := true, laidLooks := .later }
def FnExactFlatReadUptoCardSaid : Prop := Claim7.holds Tryd.pinned (.plain (OpenSpec.upto fnExactFlatReadSpec)) fnExactFlatReadUptoCard

/-- THE SECOND FORM's CARD OF 'laws.FnExactFlatWrite'. -/
def fnExactFlatWriteUptoCard : Claim7 := { stood := { row := fnExactFlatWriteUptoRow, standIns := [], harness := (true, "d8315155c318de910edbbf32264f118998bb771bdc7a989c1e4922599112a720"), looks := true }, kinds := [], alts := [], laidByText := true, laidKinds := [.handle], laidTests := true, laidLooks := .later }
def FnExactFlatWriteUptoCardSaid : Prop := Claim7.holds Tryd.pinned (.plain (OpenSpec.upto fnExactFlatWriteSpec)) fnExactFlatWriteUptoCard
end Rows
end Go.Proofs.YtcdgahmfggnafasDoor
