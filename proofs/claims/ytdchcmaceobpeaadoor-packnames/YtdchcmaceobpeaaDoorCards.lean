/-
  DERIVED. GIVEN WITH THE SEED: THE CARDS: each row of YtdchcmaceobpeaaDoorRows.lean that lists a variable, with what it lists TIED to the program's text (the seventh form; the later family's looks); each row that meets fmt, with fmt's text TOLD by the authors' own Lean function (tested against real Go, not proved from fmt's source: count such statements apart). THE CARD IS WHAT COUNTS. Prove the row's statement (the work); the ties are given (YtdchcmaceobpeaaDoorTie.lean); close each card by the builder's one call (the guide's Derived/Test/ToyasCard.lean, 'card_holds'). Laid BY PROGRAM, IN A SANDBOX (cutbox-door.mjs). By AI agents, Wed Nov 11 2026. No macro, syntax, notation, axiom, sorry.
-/
import Derived.Test.YtdchcmaceobpeaaDoorRows
import GoSem.ClaimSeven
namespace Go.Proofs.YtdchcmaceobpeaaDoor
namespace Rows

/-- THE TIED CARD OF 'lapidarylaw02.PackRequests'. -/
def packRequestsCard : Claim7 := { stood := { row := packRequestsRow, standIns := [], harness := (true, "98b57421822e014cbbbda6b3e8ae54ff7925645d8a2be17e891617ae36c0ffec"), looks := false }, kinds := [], alts := [], laidByText := true, laidKinds := [.data], laidTests := true, laidLooks := .later }
def PackRequestsCardSaid : Prop := Claim7.holds Tryd.pinned (.plain (OpenSpec.ofChange packRequestsSpec)) packRequestsCard

/-- THE TIED CARD OF 'lapidarylaw02.PackFronts'. -/
def packFrontsCard : Claim7 := { stood := { row := packFrontsRow, standIns := [], harness := (true, "98b57421822e014cbbbda6b3e8ae54ff7925645d8a2be17e891617ae36c0ffec"), looks := false }, kinds := [], alts := [], laidByText := true, laidKinds := [.data], laidTests := true, laidLooks := .later }
def PackFrontsCardSaid : Prop := Claim7.holds Tryd.pinned (.plain (OpenSpec.ofChange packFrontsSpec)) packFrontsCard

/-- THE TIED CARD OF 'lapidarylaw02.PackClaims'. -/
def packClaimsCard : Claim7 := { stood := { row := packClaimsRow, standIns := [], harness := (true, "98b57421822e014cbbbda6b3e8ae54ff7925645d8a2be17e891617ae36c0ffec"), looks := false }, kinds := [], alts := [], laidByText := true, laidKinds := [.data], laidTests := true, laidLooks := .later }
def PackClaimsCardSaid : Prop := Claim7.holds Tryd.pinned (.plain (OpenSpec.ofChange packClaimsSpec)) packClaimsCard

/-- THE TIED CARD OF 'lapidarylaw02.PackTurns'. -/
def packTurnsCard : Claim7 := { stood := { row := packTurnsRow, standIns := [], harness := (true, "98b57421822e014cbbbda6b3e8ae54ff7925645d8a2be17e891617ae36c0ffec"), looks := false }, kinds := [], alts := [], laidByText := true, laidKinds := [.data], laidTests := true, laidLooks := .later }
def PackTurnsCardSaid : Prop := Claim7.holds Tryd.pinned (.plain (OpenSpec.ofChange packTurnsSpec)) packTurnsCard

/-- THE TIED CARD OF 'lapidarylaw02.PackApart'. -/
def packApartCard : Claim7 := { stood := { row := packApartRow, standIns := [], harness := (true, "98b57421822e014cbbbda6b3e8ae54ff7925645d8a2be17e891617ae36c0ffec"), looks := false }, kinds := [], alts := [], laidByText := true, laidKinds := [.data], laidTests := true, laidLooks := .later }
def PackApartCardSaid : Prop := Claim7.holds Tryd.pinned (.plain (OpenSpec.ofChange packApartSpec)) packApartCard

/-- THE TIED CARD OF 'lapidarylaw02.PackNames'. -/
def packNamesCard : Claim7 := { stood := { row := packNamesRow, standIns := [], harness := (true, "98b57421822e014cbbbda6b3e8ae54ff7925645d8a2be17e891617ae36c0ffec"), looks := false }, kinds := [], alts := [], laidByText := true, laidKinds := [.data], laidTests := true, laidLooks := .later }
def PackNamesCardSaid : Prop := Claim7.holds Tryd.pinned (.plain (OpenSpec.ofChange packNamesSpec)) packNamesCard

/-- THE SECOND FORM's CARD OF 'lapidarylaw02.PackRequests'. -/
def packRequestsUptoCard : Claim7 := { stood := { row := packRequestsUptoRow, standIns := [], harness := (true, "98b57421822e014cbbbda6b3e8ae54ff7925645d8a2be17e891617ae36c0ffec"), looks := false }, kinds := [], alts := [], laidByText := true, laidKinds := [.data], laidTests := true, laidLooks := .later }
def PackRequestsUptoCardSaid : Prop := Claim7.holds Tryd.pinned (.plain (OpenSpec.upto packRequestsSpec)) packRequestsUptoCard

/-- THE SECOND FORM's CARD OF 'lapidarylaw02.PackFronts'. -/
def packFrontsUptoCard : Claim7 := { stood := { row := packFrontsUptoRow, standIns := [], harness := (true, "98b57421822e014cbbbda6b3e8ae54ff7925645d8a2be17e891617ae36c0ffec"), looks := false }, kinds := [], alts := [], laidByText := true, laidKinds := [.data], laidTests := true, laidLooks := .later }
def PackFrontsUptoCardSaid : Prop := Claim7.holds Tryd.pinned (.plain (OpenSpec.upto packFrontsSpec)) packFrontsUptoCard

/-- THE SECOND FORM's CARD OF 'lapidarylaw02.PackClaims'. -/
def packClaimsUptoCard : Claim7 := { stood := { row := packClaimsUptoRow, standIns := [], harness := (true, "98b57421822e014cbbbda6b3e8ae54ff7925645d8a2be17e891617ae36c0ffec"), looks := false }, kinds := [], alts := [], laidByText := true, laidKinds := [.data], laidTests := true, laidLooks := .later }
def PackClaimsUptoCardSaid : Prop := Claim7.holds Tryd.pinned (.plain (OpenSpec.upto packClaimsSpec)) packClaimsUptoCard

/-- THE SECOND FORM's CARD OF 'lapidarylaw02.PackTurns'. -/
def packTurnsUptoCard : Claim7 := { stood := { row := packTurnsUptoRow, standIns := [], harness := (true, "98b57421822e014cbbbda6b3e8ae54ff7925645d8a2be17e891617ae36c0ffec"), looks := false }, kinds := [], alts := [], laidByText := true, laidKinds := [.data], laidTests := true, laidLooks := .later }
def PackTurnsUptoCardSaid : Prop := Claim7.holds Tryd.pinned (.plain (OpenSpec.upto packTurnsSpec)) packTurnsUptoCard

/-- THE SECOND FORM's CARD OF 'lapidarylaw02.PackApart'. -/
def packApartUptoCard : Claim7 := { stood := { row := packApartUptoRow, standIns := [], harness := (true, "98b57421822e014cbbbda6b3e8ae54ff7925645d8a2be17e891617ae36c0ffec"), looks := false }, kinds := [], alts := [], laidByText := true, laidKinds := [.data], laidTests := true, laidLooks := .later }
def PackApartUptoCardSaid : Prop := Claim7.holds Tryd.pinned (.plain (OpenSpec.upto packApartSpec)) packApartUptoCard

/-- THE SECOND FORM's CARD OF 'lapidarylaw02.PackNames'. -/
def packNamesUptoCard : Claim7 := { stood := { row := packNamesUptoRow, standIns := [], harness := (true, "98b57421822e014cbbbda6b3e8ae54ff7925645d8a2be17e891617ae36c0ffec"), looks := false }, kinds := [], alts := [], laidByText := true, laidKinds := [.data], laidTests := true, laidLooks := .later }
def PackNamesUptoCardSaid : Prop := Claim7.holds Tryd.pinned (.plain (OpenSpec.upto packNamesSpec)) packNamesUptoCard
end Rows
end Go.Proofs.YtdchcmaceobpeaaDoor
