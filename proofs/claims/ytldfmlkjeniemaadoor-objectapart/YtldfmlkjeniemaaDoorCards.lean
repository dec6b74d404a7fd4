/-
  DERIVED. GIVEN WITH THE SEED: THE CARDS: each row of YtldfmlkjeniemaaDoorRows.lean that lists a variable, with what it lists TIED to the program's text (the seventh form; the later family's looks); each row that meets fmt, with fmt's text TOLD by the authors' own Lean function (tested against real Go, not proved from fmt's source: count such statements apart). THE CARD IS WHAT COUNTS. Prove the row's statement (the work); the ties are given (YtldfmlkjeniemaaDoorTie.lean); close each card by the builder's one call (the guide's Derived/Test/ToyasCard.lean, 'card_holds'). Laid BY PROGRAM, IN A SANDBOX (cutbox-door.mjs). By AI agents, Wed Nov 11 2026. No macro, syntax, notation, axiom, sorry.
-/
import Derived.Test.YtldfmlkjeniemaaDoorRows
import GoSem.ClaimSeven
namespace Go.Proofs.YtldfmlkjeniemaaDoor
namespace Rows

/-- THE TIED CARD OF 'lapidarylaw07.ObjectPlace'. -/
def objectPlaceCard : Claim7 := { stood := { row := objectPlaceRow, standIns := [], harness := (true, "f1975fb5b6434e260fc850f43aadf49b0ce88d5850e4133ea67fccbe1c771fdd"), looks := true }, kinds := [], alts := [], laidByText := true, laidKinds := [.data], laidTests := true, laidLooks := .later }
def ObjectPlaceCardSaid : Prop := Claim7.holds Tryd.pinned (.plain (OpenSpec.ofChange objectPlaceSpec)) objectPlaceCard

/-- THE TIED CARD OF 'lapidarylaw07.ObjectWalk'. -/
def objectWalkCard : Claim7 := { stood := { row := objectWalkRow, standIns := [], harness := (true, "f1975fb5b6434e260fc850f43aadf49b0ce88d5850e4133ea67fccbe1c771fdd"), looks := true }, kinds := [], alts := [], laidByText := true, laidKinds := [.data], laidTests := true, laidLooks := .later }
def ObjectWalkCardSaid : Prop := Claim7.holds Tryd.pinned (.plain (OpenSpec.ofChange objectWalkSpec)) objectWalkCard

/-- THE TIED CARD OF 'lapidarylaw07.ObjectApart'. -/
def objectApartCard : Claim7 := { stood := { row := objectApartRow, standIns := [], harness := (true, "f1975fb5b6434e260fc850f43aadf49b0ce88d5850e4133ea67fccbe1c771fdd"), looks := true }, kinds := [], alts := [], laidByText := true, laidKinds := [.data], laidTests := true, laidLooks := .later }
def ObjectApartCardSaid : Prop := Claim7.holds Tryd.pinned (.plain (OpenSpec.ofChange objectApartSpec)) objectApartCard

/-- THE TIED CARD OF 'lapidarylaw07.ObjectNil'. -/
def objectNilCard : Claim7 := { stood := { row := objectNilRow, standIns := [], harness := (true, "f1975fb5b6434e260fc850f43aadf49b0ce88d5850e4133ea67fccbe1c771fdd"), looks := true }, kinds := [], alts := [], laidByText := true, laidKinds := [.data], laidTests := true, laidLooks := .later }
def ObjectNilCardSaid : Prop := Claim7.holds Tryd.pinned (.plain (OpenSpec.ofChange objectNilSpec)) objectNilCard

/-- THE SECOND FORM's CARD OF 'lapidarylaw07.ObjectPlace'. -/
def objectPlaceUptoCard : Claim7 := { stood := { row := objectPlaceUptoRow, standIns := [], harness := (true, "f1975fb5b6434e260fc850f43aadf49b0ce88d5850e4133ea67fccbe1c771fdd"), looks := true }, kinds := [], alts := [], laidByText := true, laidKinds := [.data], laidTests := true, laidLooks := .later }
def ObjectPlaceUptoCardSaid : Prop := Claim7.holds Tryd.pinned (.plain (OpenSpec.upto objectPlaceSpec)) objectPlaceUptoCard

/-- THE SECOND FORM's CARD OF 'lapidarylaw07.ObjectWalk'. -/
def objectWalkUptoCard : Claim7 := { stood := { row := objectWalkUptoRow, standIns := [], harness := (true, "f1975fb5b6434e260fc850f43aadf49b0ce88d5850e4133ea67fccbe1c771fdd"), looks := true }, kinds := [], alts := [], laidByText := true, laidKinds := [.data], laidTests := true, laidLooks := .later }
def ObjectWalkUptoCardSaid : Prop := Claim7.holds Tryd.pinned (.plain (OpenSpec.upto objectWalkSpec)) objectWalkUptoCard

/-- THE SECOND FORM's CARD OF 'lapidarylaw07.ObjectApart'. -/
def objectApartUptoCard : Claim7 := { stood := { row := objectApartUptoRow, standIns := [], harness := (true, "f1975fb5b6434e260fc850f43aadf49b0ce88d5850e4133ea67fccbe1c771fdd"), looks := true }, kinds := [], alts := [], laidByText := true, laidKinds := [.data], laidTests := true, laidLooks := .later }
def ObjectApartUptoCardSaid : Prop := Claim7.holds Tryd.pinned (.plain (OpenSpec.upto objectApartSpec)) objectApartUptoCard

/-- THE SECOND FORM's CARD OF 'lapidarylaw07.ObjectNil'. -/
def objectNilUptoCard : Claim7 := { stood := { row := objectNilUptoRow, standIns := [], harness := (true, "f1975fb5b6434e260fc850f43aadf49b0ce88d5850e4133ea67fccbe1c771fdd"), looks := true }, kinds := [], alts := [], laidByText := true, laidKinds := [.data], laidTests := true, laidLooks := .later }
def ObjectNilUptoCardSaid : Prop := Claim7.holds Tryd.pinned (.plain (OpenSpec.upto objectNilSpec)) objectNilUptoCard
end Rows
end Go.Proofs.YtldfmlkjeniemaaDoor
