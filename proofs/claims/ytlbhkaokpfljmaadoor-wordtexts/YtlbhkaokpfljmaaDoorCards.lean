/-
  DERIVED. GIVEN WITH THE SEED: THE CARDS: each row of YtlbhkaokpfljmaaDoorRows.lean that lists a variable, with what it lists TIED to the program's text (the seventh form; the later family's looks); each row that meets fmt, with fmt's text TOLD by the authors' own Lean function (tested against real Go, not proved from fmt's source: count such statements apart). THE CARD IS WHAT COUNTS. Prove the row's statement (the work); the ties are given (YtlbhkaokpfljmaaDoorTie.lean); close each card by the builder's one call (the guide's Derived/Test/ToyasCard.lean, 'card_holds'). Laid BY PROGRAM, IN A SANDBOX (cutbox-door.mjs). By AI agents, Wed Nov 11 2026. No macro, syntax, notation, axiom, sorry.
-/
import Derived.Test.YtlbhkaokpfljmaaDoorRows
import GoSem.ClaimSeven
namespace Go.Proofs.YtlbhkaokpfljmaaDoor
namespace Rows

/-- THE TIED CARD OF 'lapidarylaw01.WordOf'. -/
def wordOfCard : Claim7 := { stood := { row := wordOfRow, standIns := [], harness := (true, "63f9565a3f05c535f2672b4fe9704343a23ae2a09c9b5bce0b021257fe63c272"), looks := false }, kinds := [], alts := [], laidByText := true, laidKinds := [.data, .data, .data], laidTests := true, laidLooks := .later }
def WordOfCardSaid : Prop := Claim7.holds Tryd.pinned (.plain (OpenSpec.ofChange wordOfSpec)) wordOfCard

/-- THE TIED CARD OF 'lapidarylaw01.WordMake'. -/
def wordMakeCard : Claim7 := { stood := { row := wordMakeRow, standIns := [], harness := (true, "63f9565a3f05c535f2672b4fe9704343a23ae2a09c9b5bce0b021257fe63c272"), looks := false }, kinds := [], alts := [], laidByText := true, laidKinds := [.data, .data, .data], laidTests := true, laidLooks := .later }
def WordMakeCardSaid : Prop := Claim7.holds Tryd.pinned (.plain (OpenSpec.ofChange wordMakeSpec)) wordMakeCard

/-- THE TIED CARD OF 'lapidarylaw01.WordNumbers'. -/
def wordNumbersCard : Claim7 := { stood := { row := wordNumbersRow, standIns := [], harness := (true, "63f9565a3f05c535f2672b4fe9704343a23ae2a09c9b5bce0b021257fe63c272"), looks := false }, kinds := [], alts := [], laidByText := true, laidKinds := [.data, .data, .data], laidTests := true, laidLooks := .later }
def WordNumbersCardSaid : Prop := Claim7.holds Tryd.pinned (.plain (OpenSpec.ofChange wordNumbersSpec)) wordNumbersCard

/-- THE TIED CARD OF 'lapidarylaw01.WordSeals'. -/
def wordSealsCard : Claim7 := { stood := { row := wordSealsRow, standIns := [], harness := (true, "63f9565a3f05c535f2672b4fe9704343a23ae2a09c9b5bce0b021257fe63c272"), looks := false }, kinds := [], alts := [], laidByText := true, laidKinds := [.data, .data, .data], laidTests := true, laidLooks := .later }
def WordSealsCardSaid : Prop := Claim7.holds Tryd.pinned (.plain (OpenSpec.ofChange wordSealsSpec)) wordSealsCard

/-- THE TIED CARD OF 'lapidarylaw01.WordTexts'. -/
def wordTextsCard : Claim7 := { stood := { row := wordTextsRow, standIns := [], harness := (true, "63f9565a3f05c535f2672b4fe9704343a23ae2a09c9b5bce0b021257fe63c272"), looks := false }, kinds := [], alts := [], laidByText := true, laidKinds := [.data, .data, .data], laidTests := true, laidLooks := .later }
def WordTextsCardSaid : Prop := Claim7.holds Tryd.pinned (.plain (OpenSpec.ofChange wordTextsSpec)) wordTextsCard

/-- THE TIED CARD OF 'lapidarylaw01.WordReads'. -/
def wordReadsCard : Claim7 := { stood := { row := wordReadsRow, standIns := [], harness := (true, "63f9565a3f05c535f2672b4fe9704343a23ae2a09c9b5bce0b021257fe63c272"), looks := false }, kinds := [], alts := [], laidByText := true, laidKinds := [.data, .data, .data], laidTests := true, laidLooks := .later }
def WordReadsCardSaid : Prop := Claim7.holds Tryd.pinned (.plain (OpenSpec.ofChange wordReadsSpec)) wordReadsCard

/-- THE SECOND FORM's CARD OF 'lapidarylaw01.WordOf'. -/
def wordOfUptoCard : Claim7 := { stood := { row := wordOfUptoRow, standIns := [], harness := (true, "63f9565a3f05c535f2672b4fe9704343a23ae2a09c9b5bce0b021257fe63c272"), looks := false }, kinds := [], alts := [], laidByText := true, laidKinds := [.data, .data, .data], laidTests := true, laidLooks := .later }
def WordOfUptoCardSaid : Prop := Claim7.holds Tryd.pinned (.plain (OpenSpec.upto wordOfSpec)) wordOfUptoCard

/-- THE SECOND FORM's CARD OF 'lapidarylaw01.WordMake'. -/
def wordMakeUptoCard : Claim7 := { stood := { row := wordMakeUptoRow, standIns := [], harness := (true, "63f9565a3f05c535f2672b4fe9704343a23ae2a09c9b5bce0b021257fe63c272"), looks := false }, kinds := [], alts := [], laidByText := true, laidKinds := [.data, .data, .data], laidTests := true, laidLooks := .later }
def WordMakeUptoCardSaid : Prop := Claim7.holds Tryd.pinned (.plain (OpenSpec.upto wordMakeSpec)) wordMakeUptoCard

/-- THE SECOND FORM's CARD OF 'lapidarylaw01.WordNumbers'. -/
def wordNumbersUptoCard : Claim7 := { stood := { row := wordNumbersUptoRow, standIns := [], harness := (true, "63f9565a3f05c535f2672b4fe9704343a23ae2a09c9b5bce0b021257fe63c272"), looks := false }, kinds := [], alts := [], laidByText := true, laidKinds := [.data, .data, .data], laidTests := true, laidLooks := .later }
def WordNumbersUptoCardSaid : Prop := Claim7.holds Tryd.pinned (.plain (OpenSpec.upto wordNumbersSpec)) wordNumbersUptoCard

/-- THE SECOND FORM's CARD OF 'lapidarylaw01.WordSeals'. -/
def wordSealsUptoCard : Claim7 := { stood := { row := wordSealsUptoRow, standIns := [], harness := (true, "63f9565a3f05c535f2672b4fe9704343a23ae2a09c9b5bce0b021257fe63c272"), looks := false }, kinds := [], alts := [], laidByText := true, laidKinds := [.data, .data, .data], laidTests := true, laidLooks := .later }
def WordSealsUptoCardSaid : Prop := Claim7.holds Tryd.pinned (.plain (OpenSpec.upto wordSealsSpec)) wordSealsUptoCard

/-- THE SECOND FORM's CARD OF 'lapidarylaw01.WordTexts'. -/
def wordTextsUptoCard : Claim7 := { stood := { row := wordTextsUptoRow, standIns := [], harness := (true, "63f9565a3f05c535f2672b4fe9704343a23ae2a09c9b5bce0b021257fe63c272"), looks := false }, kinds := [], alts := [], laidByText := true, laidKinds := [.data, .data, .data], laidTests := true, laidLooks := .later }
def WordTextsUptoCardSaid : Prop := Claim7.holds Tryd.pinned (.plain (OpenSpec.upto wordTextsSpec)) wordTextsUptoCard

/-- THE SECOND FORM's CARD OF 'lapidarylaw01.WordReads'. -/
def wordReadsUptoCard : Claim7 := { stood := { row := wordReadsUptoRow, standIns := [], harness := (true, "63f9565a3f05c535f2672b4fe9704343a23ae2a09c9b5bce0b021257fe63c272"), looks := false }, kinds := [], alts := [], laidByText := true, laidKinds := [.data, .data, .data], laidTests := true, laidLooks := .later }
def WordReadsUptoCardSaid : Prop := Claim7.holds Tryd.pinned (.plain (OpenSpec.upto wordReadsSpec)) wordReadsUptoCard
end Rows
end Go.Proofs.YtlbhkaokpfljmaaDoor
