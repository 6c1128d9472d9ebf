/-
  DERIVED. GIVEN WITH THE SEED: THE CARDS: each row of YtcdgahmfggnafadDoorRows.lean that lists a variable, with what it lists TIED to the program's text (the seventh form; the later family's looks); each row that meets fmt, with fmt's text TOLD by the authors' own Lean function (tested against real Go, not proved from fmt's source: count such statements apart). THE CARD IS WHAT COUNTS. Prove the row's statement (the work); the ties are given (YtcdgahmfggnafadDoorTie.lean); close each card by the builder's one call (the guide's Derived/Test/ToyasCard.lean, 'card_holds'). Laid BY PROGRAM, IN A SANDBOX (cutbox-door.mjs). By AI agents, Wed Nov 11 2026. No macro, syntax, notation, axiom, sorry.
-/
import Derived.Test.YtcdgahmfggnafadDoorRows
import GoSem.ClaimSeven
namespace Go.Proofs.YtcdgahmfggnafadDoor
namespace Rows

/-- THE TIED CARD OF 'laws.FnFlatBack'. -/
def fnFlatBackCard : Claim7 := { stood := { row := fnFlatBackRow, standIns := [], harness := (true, "438bbbbab08b0a9e9f706c4a12e9aa2a68f27589747098cc989471b6a2592bc7"), looks := true }, kinds := [], alts := [], laidByText := true, laidKinds := [.handle], laidTests := true, laidLooks := .later }
def FnFlatBackCardSaid : Prop := Claim7.holds Tryd.pinned (.plain (OpenSpec.ofChange fnFlatBackSpec)) fnFlatBackCard

/-- THE TIED CARD OF 'laws.FnFlatIn'. -/
def fnFlatInCard : Claim7 := { stood := { row := fnFlatInRow, standIns := [], harness := (true, "438bbbbab08b0a9e9f706c4a12e9aa2a68f27589747098cc989471b6a2592bc7"), looks := true }, kinds := [], alts := [], laidByText := true, laidKinds := [.handle], laidTests := true, laidLooks := .later }
def FnFlatInCardSaid : Prop := Claim7.holds Tryd.pinned (.plain (OpenSpec.ofChange fnFlatInSpec)) fnFlatInCard

/-- THE TIED CARD OF 'laws.FnFlatInWrite'. -/
def fnFlatInWriteCard : Claim7 := { stood := { row := fnFlatInWriteRow, standIns := [], harness := (true, "438bbbbab08b0a9e9f706c4a12e9aa2a68f27589747098cc989471b6a2592bc7"), looks := true }, kinds := [], alts := [], laidByText := true, laidKinds := [.handle], laidTests := true, laidLooks := .later }
def FnFlatInWriteCardSaid : Prop := Claim7.holds Tryd.pinned (.plain (OpenSpec.ofChange fnFlatInWriteSpec)) fnFlatInWriteCard

/-- THE SECOND FORM's CARD OF 'laws.FnFlatBack'. -/
def fnFlatBackUptoCard : Claim7 := { stood := { row := fnFlatBackUptoRow, standIns := [], harness := (true, "438bbbbab08b0a9e9f706c4a12e9aa2a68f27589747098cc989471b6a2592bc7"), looks := true }, kinds := [], alts := [], laidByText := true, laidKinds := [.handle], laidTests := true, laidLooks := .later }
def FnFlatBackUptoCardSaid : Prop := Claim7.holds Tryd.pinned (.plain (OpenSpec.upto fnFlatBackSpec)) fnFlatBackUptoCard

/-- THE SECOND FORM's CARD OF 'laws.FnFlatIn'. -/
def fnFlatInUptoCard : Claim7 := { stood := { row := fnFlatInUptoRow, standIns := [], harness := (true, "438bbbbab08b0a9e9f706c4a12e9aa2a68f27589747098cc989471b6a2592bc7"), looks := true }, kinds := [], alts := [], laidByText := true, laidKinds := [.handle], laidTests := true, laidLooks := .later }
def FnFlatInUptoCardSaid : Prop := Claim7.holds Tryd.pinned (.plain (OpenSpec.upto fnFlatInSpec)) fnFlatInUptoCard

/-- THE SECOND FORM's CARD OF 'laws.FnFlatInWrite'. -/
def fnFlatInWriteUptoCard : Claim7 := { stood := { row := fnFlatInWriteUptoRow, standIns := [], harness := (true, "438bbbbab08b0a9e9f706c4a12e9aa2a68f27589747098cc989471b6a2592bc7"), looks := true }, kinds := [], alts := [], laidByText := true, laidKinds := [.handle], laidTests := true, laidLooks := .later }
def FnFlatInWriteUptoCardSaid : Prop := Claim7.holds Tryd.pinned (.plain (OpenSpec.upto fnFlatInWriteSpec)) fnFlatInWriteUptoCard
end Rows
end Go.Proofs.YtcdgahmfggnafadDoor
