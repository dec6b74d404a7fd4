/-
  DERIVED. GIVEN WITH THE SEED: THE CARDS: each row of YtlkhmfmocegekaaDoorRows.lean that lists a variable, with what it lists TIED to the program's text (the seventh form; the later family's looks); each row that meets fmt, with fmt's text TOLD by the authors' own Lean function (tested against real Go, not proved from fmt's source: count such statements apart). THE CARD IS WHAT COUNTS. Prove the row's statement (the work); the ties are given (YtlkhmfmocegekaaDoorTie.lean); close each card by the builder's one call (the guide's Derived/Test/ToyasCard.lean, 'card_holds'). Laid BY PROGRAM, IN A SANDBOX (cutbox-door.mjs). By AI agents, Wed Nov 11 2026. No macro, syntax, notation, axiom, sorry.
-/
import Derived.Test.YtlkhmfmocegekaaDoorRows
import GoSem.ClaimSeven
namespace Go.Proofs.YtlkhmfmocegekaaDoor
namespace Rows

/-- THE TIED CARD OF 'lapidarylaw09.GraphHolds'. -/
def graphHoldsCard : Claim7 := { stood := { row := graphHoldsRow, standIns := [], harness := (true, "55464b6b7d63a88408a3841c7cacd8321379178c4b8b7c554d98ed6e9716cd49"), looks := true }, kinds := [], alts := [], laidByText := true, laidKinds := [.data, .data, .data], laidTests := true, laidLooks := .later }
def GraphHoldsCardSaid : Prop := Claim7.holds Tryd.pinned (.plain (OpenSpec.ofChange graphHoldsSpec)) graphHoldsCard

/-- THE TIED CARD OF 'lapidarylaw09.GraphNil'. -/
def graphNilCard : Claim7 := { stood := { row := graphNilRow, standIns := [], harness := (true, "55464b6b7d63a88408a3841c7cacd8321379178c4b8b7c554d98ed6e9716cd49"), looks := true }, kinds := [], alts := [], laidByText := true, laidKinds := [.data, .data, .data], laidTests := true, laidLooks := .later }
def GraphNilCardSaid : Prop := Claim7.holds Tryd.pinned (.plain (OpenSpec.ofChange graphNilSpec)) graphNilCard

/-- THE SECOND FORM's CARD OF 'lapidarylaw09.GraphHolds'. -/
def graphHoldsUptoCard : Claim7 := { stood := { row := graphHoldsUptoRow, standIns := [], harness := (true, "55464b6b7d63a88408a3841c7cacd8321379178c4b8b7c554d98ed6e9716cd49"), looks := true }, kinds := [], alts := [], laidByText := true, laidKinds := [.data, .data, .data], laidTests := true, laidLooks := .later }
def GraphHoldsUptoCardSaid : Prop := Claim7.holds Tryd.pinned (.plain (OpenSpec.upto graphHoldsSpec)) graphHoldsUptoCard

/-- THE SECOND FORM's CARD OF 'lapidarylaw09.GraphNil'. -/
def graphNilUptoCard : Claim7 := { stood := { row := graphNilUptoRow, standIns := [], harness := (true, "55464b6b7d63a88408a3841c7cacd8321379178c4b8b7c554d98ed6e9716cd49"), looks := true }, kinds := [], alts := [], laidByText := true, laidKinds := [.data, .data, .data], laidTests := true, laidLooks := .later }
def GraphNilUptoCardSaid : Prop := Claim7.holds Tryd.pinned (.plain (OpenSpec.upto graphNilSpec)) graphNilUptoCard
end Rows
end Go.Proofs.YtlkhmfmocegekaaDoor
