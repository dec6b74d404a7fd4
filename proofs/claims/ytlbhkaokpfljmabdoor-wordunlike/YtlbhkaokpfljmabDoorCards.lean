/-
  DERIVED. GIVEN WITH THE SEED: THE CARDS: each row of YtlbhkaokpfljmabDoorRows.lean that lists a variable, with what it lists TIED to the program's text (the seventh form; the later family's looks); each row that meets fmt, with fmt's text TOLD by the authors' own Lean function (tested against real Go, not proved from fmt's source: count such statements apart). THE CARD IS WHAT COUNTS. Prove the row's statement (the work); the ties are given (YtlbhkaokpfljmabDoorTie.lean); close each card by the builder's one call (the guide's Derived/Test/ToyasCard.lean, 'card_holds'). Laid BY PROGRAM, IN A SANDBOX (cutbox-door.mjs). By AI agents, Wed Nov 11 2026. No macro, syntax, notation, axiom, sorry.
-/
import Derived.Test.YtlbhkaokpfljmabDoorRows
import GoSem.ClaimSeven
namespace Go.Proofs.YtlbhkaokpfljmabDoor
namespace Rows

/-- THE TIED CARD OF 'lapidarylaw01.WordUnlike'. -/
def wordUnlikeCard : Claim7 := { stood := { row := wordUnlikeRow, standIns := [], harness := (true, "c374089641053dc0e5545472677d3b00484c8539d25460a641470fe01d7ffae9"), looks := false }, kinds := [], alts := [], laidByText := true, laidKinds := [.data, .data, .data], laidTests := true, laidLooks := .later }
def WordUnlikeCardSaid : Prop := Claim7.holds Tryd.pinned (.plain (OpenSpec.ofChange wordUnlikeSpec)) wordUnlikeCard

/-- THE SECOND FORM's CARD OF 'lapidarylaw01.WordUnlike'. -/
def wordUnlikeUptoCard : Claim7 := { stood := { row := wordUnlikeUptoRow, standIns := [], harness := (true, "c374089641053dc0e5545472677d3b00484c8539d25460a641470fe01d7ffae9"), looks := false }, kinds := [], alts := [], laidByText := true, laidKinds := [.data, .data, .data], laidTests := true, laidLooks := .later }
def WordUnlikeUptoCardSaid : Prop := Claim7.holds Tryd.pinned (.plain (OpenSpec.upto wordUnlikeSpec)) wordUnlikeUptoCard
end Rows
end Go.Proofs.YtlbhkaokpfljmabDoor
