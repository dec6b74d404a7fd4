/-
  DERIVED. GIVEN WITH THE SEED: THE CARDS: each row of YtldfmlkjeniemaaGreatDoorRows.lean that lists a variable, with what it lists TIED to the program's text (the seventh form; the later family's looks); each row that meets fmt, with fmt's text TOLD by the authors' own Lean function (tested against real Go, not proved from fmt's source: count such statements apart). THE CARD IS WHAT COUNTS. Prove the row's statement (the work); the ties are given (YtldfmlkjeniemaaGreatDoorTie.lean); close each card by the builder's one call (the guide's Derived/Test/ToyasCard.lean, 'card_holds'). Laid BY PROGRAM, IN A SANDBOX (cutbox-door.mjs). By AI agents, Wed Nov 11 2026. No macro, syntax, notation, axiom, sorry.
-/
import Derived.Test.YtldfmlkjeniemaaGreatDoorRows
import GoSem.ClaimSeven
namespace Go.Proofs.YtldfmlkjeniemaaGreatDoor
namespace Rows

/-- THE TIED CARD OF 'lapidarylaw07.ObjectRead'. -/
def objectReadCard : Claim7 := { stood := { row := objectReadRow, standIns := [], harness := (true, "01510e2d6495d189f337220a1a4c81b7f8e9851d5f218d74f8b514fa790ea7c1"), looks := true }, kinds := [], alts := [], laidByText := true, laidKinds := [.data], laidTests := true, laidLooks := .later }
def ObjectReadCardSaid : Prop := Claim7.holds Tryz.pinned (.plain (OpenSpec.ofChange objectReadSpec)) objectReadCard

/-- THE TIED CARD OF 'lapidarylaw07.ObjectPut'. -/
def objectPutCard : Claim7 := { stood := { row := objectPutRow, standIns := [], harness := (true, "01510e2d6495d189f337220a1a4c81b7f8e9851d5f218d74f8b514fa790ea7c1"), looks := true }, kinds := [], alts := [], laidByText := true, laidKinds := [.data], laidTests := true, laidLooks := .later }
def ObjectPutCardSaid : Prop := Claim7.holds Tryz.pinned (.plain (OpenSpec.ofChange objectPutSpec)) objectPutCard

/-- THE SECOND FORM's CARD OF 'lapidarylaw07.ObjectRead'. -/
def objectReadUptoCard : Claim7 := { stood := { row := objectReadUptoRow, standIns := [], harness := (true, "01510e2d6495d189f337220a1a4c81b7f8e9851d5f218d74f8b514fa790ea7c1"), looks := true }, kinds := [], alts := [], laidByText := true, laidKinds := [.data], laidTests := true, laidLooks := .later }
def ObjectReadUptoCardSaid : Prop := Claim7.holds Tryz.pinned (.plain (OpenSpec.upto objectReadSpec)) objectReadUptoCard

/-- THE SECOND FORM's CARD OF 'lapidarylaw07.ObjectPut'. -/
def objectPutUptoCard : Claim7 := { stood := { row := objectPutUptoRow, standIns := [], harness := (true, "01510e2d6495d189f337220a1a4c81b7f8e9851d5f218d74f8b514fa790ea7c1"), looks := true }, kinds := [], alts := [], laidByText := true, laidKinds := [.data], laidTests := true, laidLooks := .later }
def ObjectPutUptoCardSaid : Prop := Claim7.holds Tryz.pinned (.plain (OpenSpec.upto objectPutSpec)) objectPutUptoCard
end Rows
end Go.Proofs.YtldfmlkjeniemaaGreatDoor
