/-
  DERIVED. GIVEN WITH THE SEED: THE CARDS: each row of YtcdgahmfggnafaeDoorRows.lean that lists a variable, with what it lists TIED to the program's text (the seventh form; the later family's looks); each row that meets fmt, with fmt's text TOLD by the authors' own Lean function (tested against real Go, not proved from fmt's source: count such statements apart). THE CARD IS WHAT COUNTS. Prove the row's statement (the work); the ties are given (YtcdgahmfggnafaeDoorTie.lean); close each card by the builder's one call (the guide's Derived/Test/ToyasCard.lean, 'card_holds'). Laid BY PROGRAM, IN A SANDBOX (cutbox-door.mjs). By AI agents, Wed Nov 11 2026. No macro, syntax, notation, axiom, sorry.
-/
import Derived.Test.YtcdgahmfggnafaeDoorRows
import GoSem.ClaimSeven
namespace Go.Proofs.YtcdgahmfggnafaeDoor
namespace Rows

/-- THE TIED CARD OF 'laws.FnFlatDenied'. -/
def fnFlatDeniedCard : Claim7 := { stood := { row := fnFlatDeniedRow, standIns := [], harness := (true, "6bde1d761779d2de780aba1131890f85745512b6e7fc007dc1c1c5bce405ab01"), looks := true }, kinds := [], alts := [], laidByText := true, laidKinds := [.handle], laidTests := true, laidLooks := .later }
def FnFlatDeniedCardSaid : Prop := Claim7.holds Tryd.pinned (.plain (OpenSpec.ofChange fnFlatDeniedSpec)) fnFlatDeniedCard

/-- THE TIED CARD OF 'laws.FnFlatMirror'. -/
def fnFlatMirrorCard : Claim7 := { stood := { row := fnFlatMirrorRow, standIns := [], harness := (true, "6bde1d761779d2de780aba1131890f85745512b6e7fc007dc1c1c5bce405ab01"), looks := true }, kinds := [], alts := [], laidByText := true, laidKinds := [.handle], laidTests := true, laidLooks := .later }
def FnFlatMirrorCardSaid : Prop := Claim7.holds Tryd.pinned (.plain (OpenSpec.ofChange fnFlatMirrorSpec)) fnFlatMirrorCard

/-- THE TIED CARD OF 'laws.FnFlatTab'. -/
def fnFlatTabCard : Claim7 := { stood := { row := fnFlatTabRow, standIns := [], harness := (true, "6bde1d761779d2de780aba1131890f85745512b6e7fc007dc1c1c5bce405ab01"), looks := true }, kinds := [], alts := [], laidByText := true, laidKinds := [.handle], laidTests := true, laidLooks := .later }
def FnFlatTabCardSaid : Prop := Claim7.holds Tryd.pinned (.plain (OpenSpec.ofChange fnFlatTabSpec)) fnFlatTabCard

/-- THE TIED CARD OF 'laws.FnFlatBad'. -/
def fnFlatBadCard : Claim7 := { stood := { row := fnFlatBadRow, standIns := [], harness := (true, "6bde1d761779d2de780aba1131890f85745512b6e7fc007dc1c1c5bce405ab01"), looks := true }, kinds := [], alts := [], laidByText := true, laidKinds := [.handle], laidTests := true, laidLooks := .later }
def FnFlatBadCardSaid : Prop := Claim7.holds Tryd.pinned (.plain (OpenSpec.ofChange fnFlatBadSpec)) fnFlatBadCard

/-- THE TIED CARD OF 'laws.FnFlatOver'. -/
def fnFlatOverCard : Claim7 := { stood := { row := fnFlatOverRow, standIns := [], harness := (true, "6bde1d761779d2de780aba1131890f85745512b6e7fc007dc1c1c5bce405ab01"), looks := true }, kinds := [], alts := [], laidByText := true, laidKinds := [.handle], laidTests := true, laidLooks := .later }
def FnFlatOverCardSaid : Prop := Claim7.holds Tryd.pinned (.plain (OpenSpec.ofChange fnFlatOverSpec)) fnFlatOverCard

/-- THE TIED CARD OF 'laws.FnFlatInTwice'. -/
def fnFlatInTwiceCard : Claim7 := { stood := { row := fnFlatInTwiceRow, standIns := [], harness := (true, "6bde1d761779d2de780aba1131890f85745512b6e7fc007dc1c1c5bce405ab01"), looks := true }, kinds := [], alts := [], laidByText := true, laidKinds := [.handle], laidTests := true, laidLooks := .later }
def FnFlatInTwiceCardSaid : Prop := Claim7.holds Tryd.pinned (.plain (OpenSpec.ofChange fnFlatInTwiceSpec)) fnFlatInTwiceCard

/-- THE SECOND FORM's CARD OF 'laws.FnFlatDenied'. -/
def fnFlatDeniedUptoCard : Claim7 := { stood := { row := fnFlatDeniedUptoRow, standIns := [], harness := (true, "6bde1d761779d2de780aba1131890f85745512b6e7fc007dc1c1c5bce405ab01"), looks := true }, kinds := [], alts := [], laidByText := true, laidKinds := [.handle], laidTests := true, laidLooks := .later }
def FnFlatDeniedUptoCardSaid : Prop := Claim7.holds Tryd.pinned (.plain (OpenSpec.upto fnFlatDeniedSpec)) fnFlatDeniedUptoCard

/-- THE SECOND FORM's CARD OF 'laws.FnFlatMirror'. -/
def fnFlatMirrorUptoCard : Claim7 := { stood := { row := fnFlatMirrorUptoRow, standIns := [], harness := (true, "6bde1d761779d2de780aba1131890f85745512b6e7fc007dc1c1c5bce405ab01"), looks := true }, kinds := [], alts := [], laidByText := true, laidKinds := [.handle], laidTests := true, laidLooks := .later }
def FnFlatMirrorUptoCardSaid : Prop := Claim7.holds Tryd.pinned (.plain (OpenSpec.upto fnFlatMirrorSpec)) fnFlatMirrorUptoCard

/-- THE SECOND FORM's CARD OF 'laws.FnFlatTab'. -/
def fnFlatTabUptoCard : Claim7 := { stood := { row := fnFlatTabUptoRow, standIns := [], harness := (true, "6bde1d761779d2de780aba1131890f85745512b6e7fc007dc1c1c5bce405ab01"), looks := true }, kinds := [], alts := [], laidByText := true, laidKinds := [.handle], laidTests := true, laidLooks := .later }
def FnFlatTabUptoCardSaid : Prop := Claim7.holds Tryd.pinned (.plain (OpenSpec.upto fnFlatTabSpec)) fnFlatTabUptoCard

/-- THE SECOND FORM's CARD OF 'laws.FnFlatBad'. -/
def fnFlatBadUptoCard : Claim7 := { stood := { row := fnFlatBadUptoRow, standIns := [], harness := (true, "6bde1d761779d2de780aba1131890f85745512b6e7fc007dc1c1c5bce405ab01"), looks := true }, kinds := [], alts := [], laidByText := true, laidKinds := [.handle], laidTests := true, laidLooks := .later }
def FnFlatBadUptoCardSaid : Prop := Claim7.holds Tryd.pinned (.plain (OpenSpec.upto fnFlatBadSpec)) fnFlatBadUptoCard

/-- THE SECOND FORM's CARD OF 'laws.FnFlatOver'. -/
def fnFlatOverUptoCard : Claim7 := { stood := { row := fnFlatOverUptoRow, standIns := [], harness := (true, "6bde1d761779d2de780aba1131890f85745512b6e7fc007dc1c1c5bce405ab01"), looks := true }, kinds := [], alts := [], laidByText := true, laidKinds := [.handle], laidTests := true, laidLooks := .later }
def FnFlatOverUptoCardSaid : Prop := Claim7.holds Tryd.pinned (.plain (OpenSpec.upto fnFlatOverSpec)) fnFlatOverUptoCard

/-- THE SECOND FORM's CARD OF 'laws.FnFlatInTwice'. -/
def fnFlatInTwiceUptoCard : Claim7 := { stood := { row := fnFlatInTwiceUptoRow, standIns := [], harness := (true, "6bde1d761779d2de780aba1131890f85745512b6e7fc007dc1c1c5bce405ab01"), looks := true }, kinds := [], alts := [], laidByText := true, laidKinds := [.handle], laidTests := true, laidLooks := .later }
def FnFlatInTwiceUptoCardSaid : Prop := Claim7.holds Tryd.pinned (.plain (OpenSpec.upto fnFlatInTwiceSpec)) fnFlatInTwiceUptoCard
end Rows
end Go.Proofs.YtcdgahmfggnafaeDoor
