/-
  DERIVED. GIVEN WITH THE SEED: THE CARDS: each row of YtjjbdfabckdogaaDoorRows.lean that lists a variable, with what it lists TIED to the program's text (the seventh form; the later family's looks); each row that meets fmt, with fmt's text TOLD by the authors' own Lean function (tested against real Go, not proved from fmt's source: count such statements apart). THE CARD IS WHAT COUNTS. Prove the row's statement (the work); the ties are given (YtjjbdfabckdogaaDoorTie.lean); close each card by the builder's one call (the guide's Derived/Test/ToyasCard.lean, 'card_holds'). Laid BY PROGRAM, IN A SANDBOX (cutbox-door.mjs). By AI agents, Wed Nov 11 2026. No macro, syntax, notation, axiom, sorry.
-/
import Derived.Test.YtjjbdfabckdogaaDoorRows
import GoSem.ClaimSeven
namespace Go.Proofs.YtjjbdfabckdogaaDoor
namespace Rows

/-- THE TIED CARD OF 'lapidarylaw04.HeadMake'. -/
def headMakeCard : Claim7 := { stood := { row := headMakeRow, standIns := [], harness := (true, "62729194be84ed4fd8eaf2eb06a101e47c2e02310f25f2500ec608e1daafd24f"), looks := false }, kinds := [], alts := [], laidByText := true, laidKinds := [.data, .data, .data, .data], laidTests := true, laidLooks := .later }
def HeadMakeCardSaid : Prop := Claim7.holds Tryd.pinned (.plain (OpenSpec.ofChange headMakeSpec)) headMakeCard

/-- THE TIED CARD OF 'lapidarylaw04.HeadOf'. -/
def headOfCard : Claim7 := { stood := { row := headOfRow, standIns := [], harness := (true, "62729194be84ed4fd8eaf2eb06a101e47c2e02310f25f2500ec608e1daafd24f"), looks := false }, kinds := [], alts := [], laidByText := true, laidKinds := [.data, .data, .data, .data], laidTests := true, laidLooks := .later }
def HeadOfCardSaid : Prop := Claim7.holds Tryd.pinned (.plain (OpenSpec.ofChange headOfSpec)) headOfCard

/-- THE TIED CARD OF 'lapidarylaw04.HeadSizes'. -/
def headSizesCard : Claim7 := { stood := { row := headSizesRow, standIns := [], harness := (true, "62729194be84ed4fd8eaf2eb06a101e47c2e02310f25f2500ec608e1daafd24f"), looks := false }, kinds := [], alts := [], laidByText := true, laidKinds := [.data, .data, .data, .data], laidTests := true, laidLooks := .later }
def HeadSizesCardSaid : Prop := Claim7.holds Tryd.pinned (.plain (OpenSpec.ofChange headSizesSpec)) headSizesCard

/-- THE TIED CARD OF 'lapidarylaw04.HeadTexts'. -/
def headTextsCard : Claim7 := { stood := { row := headTextsRow, standIns := [], harness := (true, "62729194be84ed4fd8eaf2eb06a101e47c2e02310f25f2500ec608e1daafd24f"), looks := false }, kinds := [], alts := [], laidByText := true, laidKinds := [.data, .data, .data, .data], laidTests := true, laidLooks := .later }
def HeadTextsCardSaid : Prop := Claim7.holds Tryd.pinned (.plain (OpenSpec.ofChange headTextsSpec)) headTextsCard

/-- THE TIED CARD OF 'lapidarylaw04.HeadUnlike'. -/
def headUnlikeCard : Claim7 := { stood := { row := headUnlikeRow, standIns := [], harness := (true, "62729194be84ed4fd8eaf2eb06a101e47c2e02310f25f2500ec608e1daafd24f"), looks := false }, kinds := [], alts := [], laidByText := true, laidKinds := [.data, .data, .data, .data], laidTests := true, laidLooks := .later }
def HeadUnlikeCardSaid : Prop := Claim7.holds Tryd.pinned (.plain (OpenSpec.ofChange headUnlikeSpec)) headUnlikeCard

/-- THE TIED CARD OF 'lapidarylaw04.HeadMarks'. -/
def headMarksCard : Claim7 := { stood := { row := headMarksRow, standIns := [], harness := (true, "62729194be84ed4fd8eaf2eb06a101e47c2e02310f25f2500ec608e1daafd24f"), looks := false }, kinds := [], alts := [], laidByText := true, laidKinds := [.data, .data, .data, .data], laidTests := true, laidLooks := .later }
def HeadMarksCardSaid : Prop := Claim7.holds Tryd.pinned (.plain (OpenSpec.ofChange headMarksSpec)) headMarksCard

/-- THE SECOND FORM's CARD OF 'lapidarylaw04.HeadMake'. -/
def headMakeUptoCard : Claim7 := { stood := { row := headMakeUptoRow, standIns := [], harness := (true, "62729194be84ed4fd8eaf2eb06a101e47c2e02310f25f2500ec608e1daafd24f"), looks := false }, kinds := [], alts := [], laidByText := true, laidKinds := [.data, .data, .data, .data], laidTests := true, laidLooks := .later }
def HeadMakeUptoCardSaid : Prop := Claim7.holds Tryd.pinned (.plain (OpenSpec.upto headMakeSpec)) headMakeUptoCard

/-- THE SECOND FORM's CARD OF 'lapidarylaw04.HeadOf'. -/
def headOfUptoCard : Claim7 := { stood := { row := headOfUptoRow, standIns := [], harness := (true, "62729194be84ed4fd8eaf2eb06a101e47c2e02310f25f2500ec608e1daafd24f"), looks := false }, kinds := [], alts := [], laidByText := true, laidKinds := [.data, .data, .data, .data], laidTests := true, laidLooks := .later }
def HeadOfUptoCardSaid : Prop := Claim7.holds Tryd.pinned (.plain (OpenSpec.upto headOfSpec)) headOfUptoCard

/-- THE SECOND FORM's CARD OF 'lapidarylaw04.HeadSizes'. -/
def headSizesUptoCard : Claim7 := { stood := { row := headSizesUptoRow, standIns := [], harness := (true, "62729194be84ed4fd8eaf2eb06a101e47c2e02310f25f2500ec608e1daafd24f"), looks := false }, kinds := [], alts := [], laidByText := true, laidKinds := [.data, .data, .data, .data], laidTests := true, laidLooks := .later }
def HeadSizesUptoCardSaid : Prop := Claim7.holds Tryd.pinned (.plain (OpenSpec.upto headSizesSpec)) headSizesUptoCard

/-- THE SECOND FORM's CARD OF 'lapidarylaw04.HeadTexts'. -/
def headTextsUptoCard : Claim7 := { stood := { row := headTextsUptoRow, standIns := [], harness := (true, "62729194be84ed4fd8eaf2eb06a101e47c2e02310f25f2500ec608e1daafd24f"), looks := false }, kinds := [], alts := [], laidByText := true, laidKinds := [.data, .data, .data, .data], laidTests := true, laidLooks := .later }
def HeadTextsUptoCardSaid : Prop := Claim7.holds Tryd.pinned (.plain (OpenSpec.upto headTextsSpec)) headTextsUptoCard

/-- THE SECOND FORM's CARD OF 'lapidarylaw04.HeadUnlike'. -/
def headUnlikeUptoCard : Claim7 := { stood := { row := headUnlikeUptoRow, standIns := [], harness := (true, "62729194be84ed4fd8eaf2eb06a101e47c2e02310f25f2500ec608e1daafd24f"), looks := false }, kinds := [], alts := [], laidByText := true, laidKinds := [.data, .data, .data, .data], laidTests := true, laidLooks := .later }
def HeadUnlikeUptoCardSaid : Prop := Claim7.holds Tryd.pinned (.plain (OpenSpec.upto headUnlikeSpec)) headUnlikeUptoCard

/-- THE SECOND FORM's CARD OF 'lapidarylaw04.HeadMarks'. -/
def headMarksUptoCard : Claim7 := { stood := { row := headMarksUptoRow, standIns := [], harness := (true, "62729194be84ed4fd8eaf2eb06a101e47c2e02310f25f2500ec608e1daafd24f"), looks := false }, kinds := [], alts := [], laidByText := true, laidKinds := [.data, .data, .data, .data], laidTests := true, laidLooks := .later }
def HeadMarksUptoCardSaid : Prop := Claim7.holds Tryd.pinned (.plain (OpenSpec.upto headMarksSpec)) headMarksUptoCard
end Rows
end Go.Proofs.YtjjbdfabckdogaaDoor
