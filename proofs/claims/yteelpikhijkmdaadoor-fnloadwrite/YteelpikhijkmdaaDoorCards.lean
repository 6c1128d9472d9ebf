/-
  DERIVED. GIVEN WITH THE SEED: THE CARDS: each row of YteelpikhijkmdaaDoorRows.lean that lists a variable, with what it lists TIED to the program's text (the seventh form; the later family's looks); each row that meets fmt, with fmt's text TOLD by the authors' own Lean function (tested against real Go, not proved from fmt's source: count such statements apart). THE CARD IS WHAT COUNTS. Prove the row's statement (the work); the ties are given (YteelpikhijkmdaaDoorTie.lean); close each card by the builder's one call (the guide's Derived/Test/ToyasCard.lean, 'card_holds'). Laid BY PROGRAM, IN A SANDBOX (cutbox-door.mjs). By AI agents, Wed Nov 11 2026. No macro, syntax, notation, axiom, sorry.
-/
import Derived.Test.YteelpikhijkmdaaDoorRows
import GoSem.ClaimSeven
namespace Go.Proofs.YteelpikhijkmdaaDoor
namespace Rows

/-- THE TIED CARD OF 'laws.FnLoadWrite'. -/
def fnLoadWriteCard : Claim7 := { stood := { row := fnLoadWriteRow, standIns := [], harness := (true, "d1a74288fa5953965bbf1d88d2a46cf8045bedb9b30168c2155812984d1b8d0d"), looks := true }, kinds := [], alts := [], laidByText := true, laidKinds := [.handle], laidTests := true, laidLooks := .later }
def FnLoadWriteCardSaid : Prop := Claim7.holds Tryd.pinned (.plain (OpenSpec.ofChange fnLoadWriteSpec)) fnLoadWriteCard

/-- THE TIED CARD OF 'laws.FnFlatDo'. -/
def fnFlatDoCard : Claim7 := { stood := { row := fnFlatDoRow, standIns := [], harness := (true, "d1a74288fa5953965bbf1d88d2a46cf8045bedb9b30168c2155812984d1b8d0d"), looks := true }, kinds := [], alts := [], laidByText := true, laidKinds := [.handle], laidTests := true, laidLooks := .later }
def FnFlatDoCardSaid : Prop := Claim7.holds Tryd.pinned (.plain (OpenSpec.ofChange fnFlatDoSpec)) fnFlatDoCard

/-- THE TIED CARD OF 'laws.FnExactFlatDo'. -/
def fnExactFlatDoCard : Claim7 := { stood := { row := fnExactFlatDoRow, standIns := [], harness := (true, "d1a74288fa5953965bbf1d88d2a46cf8045bedb9b30168c2155812984d1b8d0d"), looks := true }, kinds := [], alts := [], laidByText := true, laidKinds := [.handle], laidTests := true, laidLooks := .later }
def FnExactFlatDoCardSaid : Prop := Claim7.holds Tryd.pinned (.plain (OpenSpec.ofChange fnExactFlatDoSpec)) fnExactFlatDoCard

/-- THE SECOND FORM's CARD OF 'laws.FnLoadWrite'. -/
def fnLoadWriteUptoCard : Claim7 := { stood := { row := fnLoadWriteUptoRow, standIns := [], harness := (true, "d1a74288fa5953965bbf1d88d2a46cf8045bedb9b30168c2155812984d1b8d0d"), looks := true }, kinds := [], alts := [], laidByText := true, laidKinds := [.handle], laidTests := true, laidLooks := .later }
def FnLoadWriteUptoCardSaid : Prop := Claim7.holds Tryd.pinned (.plain (OpenSpec.upto fnLoadWriteSpec)) fnLoadWriteUptoCard

/-- THE SECOND FORM's CARD OF 'laws.FnFlatDo'. -/
def fnFlatDoUptoCard : Claim7 := { stood := { row := fnFlatDoUptoRow, standIns := [], harness := (true, "d1a74288fa5953965bbf1d88d2a46cf8045bedb9b30168c2155812984d1b8d0d"), looks := true }, kinds := [], alts := [], laidByText := true, laidKinds := [.handle], laidTests := true, laidLooks := .later }
def FnFlatDoUptoCardSaid : Prop := Claim7.holds Tryd.pinned (.plain (OpenSpec.upto fnFlatDoSpec)) fnFlatDoUptoCard

/-- THE SECOND FORM's CARD OF 'laws.FnExactFlatDo'. -/
def fnExactFlatDoUptoCard : Claim7 := { stood := { row := fnExactFlatDoUptoRow, standIns := [], harness := (true, "d1a74288fa5953965bbf1d88d2a46cf8045bedb9b30168c2155812984d1b8d0d"), looks := true }, kinds := [], alts := [], laidByText := true, laidKinds := [.handle], laidTests := true, laidLooks := .later }
def FnExactFlatDoUptoCardSaid : Prop := Claim7.holds Tryd.pinned (.plain (OpenSpec.upto fnExactFlatDoSpec)) fnExactFlatDoUptoCard
end Rows
end Go.Proofs.YteelpikhijkmdaaDoor
