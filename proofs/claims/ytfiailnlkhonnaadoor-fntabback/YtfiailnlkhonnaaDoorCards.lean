/-
  DERIVED. GIVEN WITH THE SEED: THE CARDS: each row of YtfiailnlkhonnaaDoorRows.lean that lists a variable, with what it lists TIED to the program's text (the seventh form; the later family's looks); each row that meets fmt, with fmt's text TOLD by the authors' own Lean function (tested against real Go, not proved from fmt's source: count such statements apart). THE CARD IS WHAT COUNTS. Prove the row's statement (the work); the ties are given (YtfiailnlkhonnaaDoorTie.lean); close each card by the builder's one call (the guide's Derived/Test/ToyasCard.lean, 'card_holds'). Laid BY PROGRAM, IN A SANDBOX (cutbox-door.mjs). By AI agents, Wed Nov 11 2026. No macro, syntax, notation, axiom, sorry.
-/
import Derived.Test.YtfiailnlkhonnaaDoorRows
import GoSem.ClaimSeven
namespace Go.Proofs.YtfiailnlkhonnaaDoor
namespace Rows

/-- THE TIED CARD OF 'laws.FnTabBack'. -/
def fnTabBackCard : Claim7 := { stood := { row := fnTabBackRow, standIns := [], harness := (true, "b883d1d9cf0d2fc999f70c71018c4f744cbcdfe24e6b03d52353a1c49a19906c"), looks := true }, kinds := [], alts := [], laidByText := true, laidKinds := [.data, .data, .data], laidTests := true, laidLooks := .later }
def FnTabBackCardSaid : Prop := Claim7.holds Tryd.pinned (.plain (OpenSpec.ofChange fnTabBackSpec)) fnTabBackCard

/-- THE TIED CARD OF 'laws.FnTabStrict'. -/
def fnTabStrictCard : Claim7 := { stood := { row := fnTabStrictRow, standIns := [], harness := (true, "b883d1d9cf0d2fc999f70c71018c4f744cbcdfe24e6b03d52353a1c49a19906c"), looks := true }, kinds := [], alts := [], laidByText := true, laidKinds := [.data, .data, .data], laidTests := true, laidLooks := .later }
def FnTabStrictCardSaid : Prop := Claim7.holds Tryd.pinned (.plain (OpenSpec.ofChange fnTabStrictSpec)) fnTabStrictCard

/-- THE SECOND FORM's CARD OF 'laws.FnTabBack'. -/
def fnTabBackUptoCard : Claim7 := { stood := { row := fnTabBackUptoRow, standIns := [], harness := (true, "b883d1d9cf0d2fc999f70c71018c4f744cbcdfe24e6b03d52353a1c49a19906c"), looks := true }, kinds := [], alts := [], laidByText := true, laidKinds := [.data, .data, .data], laidTests := true, laidLooks := .later }
def FnTabBackUptoCardSaid : Prop := Claim7.holds Tryd.pinned (.plain (OpenSpec.upto fnTabBackSpec)) fnTabBackUptoCard

/-- THE SECOND FORM's CARD OF 'laws.FnTabStrict'. -/
def fnTabStrictUptoCard : Claim7 := { stood := { row := fnTabStrictUptoRow, standIns := [], harness := (true, "b883d1d9cf0d2fc999f70c71018c4f744cbcdfe24e6b03d52353a1c49a19906c"), looks := true }, kinds := [], alts := [], laidByText := true, laidKinds := [.data, .data, .data], laidTests := true, laidLooks := .later }
def FnTabStrictUptoCardSaid : Prop := Claim7.holds Tryd.pinned (.plain (OpenSpec.upto fnTabStrictSpec)) fnTabStrictUptoCard
end Rows
end Go.Proofs.YtfiailnlkhonnaaDoor
