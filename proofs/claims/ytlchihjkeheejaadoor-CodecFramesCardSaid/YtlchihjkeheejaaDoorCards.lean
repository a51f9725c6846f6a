/-
  DERIVED. GIVEN WITH THE SEED: THE CARDS: each row of YtlchihjkeheejaaDoorRows.lean that lists a variable, with what it lists TIED to the program's text (the seventh form; the later family's looks); each row that meets fmt, with fmt's text TOLD by the authors' own Lean function (tested against real Go, not proved from fmt's source: count such statements apart). THE CARD IS WHAT COUNTS. Prove the row's statement (the work); the ties are given (YtlchihjkeheejaaDoorTie.lean); close each card by the builder's one call (the guide's Derived/Test/ToyasCard.lean, 'card_holds'). Laid BY PROGRAM, IN A SANDBOX (cutbox-door.mjs). By AI agents, Wed Nov 11 2026. No macro, syntax, notation, axiom, sorry.
-/
import Derived.Test.YtlchihjkeheejaaDoorRows
import GoSem.ClaimSeven
namespace Go.Proofs.YtlchihjkeheejaaDoor
namespace Rows

/-- THE TIED CARD OF 'teasellaw1.CodecRecords'. -/
def codecRecordsCard : Claim7 := { stood := { row := codecRecordsRow, standIns := [], harness := (true, "146ecbf1fce60d1101f6c6a67ad4096d096b8104c74f686e93c12d0a71ecef57"), looks := true }, kinds := [], alts := [], laidByText := true, laidKinds := [.data, .data, .data, .handle, .data], laidTests := true, laidLooks := .later }
def CodecRecordsCardSaid : Prop := Claim7.holds Tryd.pinned (.plain (OpenSpec.ofChange codecRecordsSpec)) codecRecordsCard

/-- THE TIED CARD OF 'teasellaw1.CodecFrames'. -/
def codecFramesCard : Claim7 := { stood := { row := codecFramesRow, standIns := [], harness := (true, "146ecbf1fce60d1101f6c6a67ad4096d096b8104c74f686e93c12d0a71ecef57"), looks := true }, kinds := [], alts := [], laidByText := true, laidKinds := [.data, .data, .data, .handle, .data], laidTests := true, laidLooks := .later }
def CodecFramesCardSaid : Prop := Claim7.holds Tryd.pinned (.plain (OpenSpec.ofChange codecFramesSpec)) codecFramesCard

/-- THE TIED CARD OF 'teasellaw1.CodecCalls'. -/
def codecCallsCard : Claim7 := { stood := { row := codecCallsRow, standIns := [], harness := (true, "146ecbf1fce60d1101f6c6a67ad4096d096b8104c74f686e93c12d0a71ecef57"), looks := true }, kinds := [], alts := [], laidByText := true, laidKinds := [.data, .data, .data, .handle, .data], laidTests := true, laidLooks := .later }
def CodecCallsCardSaid : Prop := Claim7.holds Tryd.pinned (.plain (OpenSpec.ofChange codecCallsSpec)) codecCallsCard

/-- THE TIED CARD OF 'teasellaw1.CodecBursts'. -/
def codecBurstsCard : Claim7 := { stood := { row := codecBurstsRow, standIns := [], harness := (true, "146ecbf1fce60d1101f6c6a67ad4096d096b8104c74f686e93c12d0a71ecef57"), looks := true }, kinds := [], alts := [], laidByText := true, laidKinds := [.handle, .data], laidTests := true, laidLooks := .later }
def CodecBurstsCardSaid : Prop := Claim7.holds Tryd.pinned (.plain (OpenSpec.ofChange codecBurstsSpec)) codecBurstsCard

/-- THE TIED CARD OF 'teasellaw1.CodecBack'. -/
def codecBackCard : Claim7 := { stood := { row := codecBackRow, standIns := [], harness := (true, "146ecbf1fce60d1101f6c6a67ad4096d096b8104c74f686e93c12d0a71ecef57"), looks := true }, kinds := [], alts := [], laidByText := true, laidKinds := [.handle, .data], laidTests := true, laidLooks := .later }
def CodecBackCardSaid : Prop := Claim7.holds Tryd.pinned (.plain (OpenSpec.ofChange codecBackSpec)) codecBackCard

/-- THE TIED CARD OF 'teasellaw1.CodecStays'. -/
def codecStaysCard : Claim7 := { stood := { row := codecStaysRow, standIns := [], harness := (true, "146ecbf1fce60d1101f6c6a67ad4096d096b8104c74f686e93c12d0a71ecef57"), looks := true }, kinds := [], alts := [], laidByText := true, laidKinds := [.data, .data, .data, .handle, .data], laidTests := true, laidLooks := .later }
def CodecStaysCardSaid : Prop := Claim7.holds Tryd.pinned (.plain (OpenSpec.ofChange codecStaysSpec)) codecStaysCard

/-- THE SECOND FORM's CARD OF 'teasellaw1.CodecRecords'. -/
def codecRecordsUptoCard : Claim7 := { stood := { row := codecRecordsUptoRow, standIns := [], harness := (true, "146ecbf1fce60d1101f6c6a67ad4096d096b8104c74f686e93c12d0a71ecef57"), looks := true }, kinds := [], alts := [], laidByText := true, laidKinds := [.data, .data, .data, .handle, .data], laidTests := true, laidLooks := .later }
def CodecRecordsUptoCardSaid : Prop := Claim7.holds Tryd.pinned (.plain (OpenSpec.upto codecRecordsSpec)) codecRecordsUptoCard

/-- THE SECOND FORM's CARD OF 'teasellaw1.CodecFrames'. -/
def codecFramesUptoCard : Claim7 := { stood := { row := codecFramesUptoRow, standIns := [], harness := (true, "146ecbf1fce60d1101f6c6a67ad4096d096b8104c74f686e93c12d0a71ecef57"), looks := true }, kinds := [], alts := [], laidByText := true, laidKinds := [.data, .data, .data, .handle, .data], laidTests := true, laidLooks := .later }
def CodecFramesUptoCardSaid : Prop := Claim7.holds Tryd.pinned (.plain (OpenSpec.upto codecFramesSpec)) codecFramesUptoCard

/-- THE SECOND FORM's CARD OF 'teasellaw1.CodecCalls'. -/
def codecCallsUptoCard : Claim7 := { stood := { row := codecCallsUptoRow, standIns := [], harness := (true, "146ecbf1fce60d1101f6c6a67ad4096d096b8104c74f686e93c12d0a71ecef57"), looks := true }, kinds := [], alts := [], laidByText := true, laidKinds := [.data, .data, .data, .handle, .data], laidTests := true, laidLooks := .later }
def CodecCallsUptoCardSaid : Prop := Claim7.holds Tryd.pinned (.plain (OpenSpec.upto codecCallsSpec)) codecCallsUptoCard

/-- THE SECOND FORM's CARD OF 'teasellaw1.CodecBursts'. -/
def codecBurstsUptoCard : Claim7 := { stood := { row := codecBurstsUptoRow, standIns := [], harness := (true, "146ecbf1fce60d1101f6c6a67ad4096d096b8104c74f686e93c12d0a71ecef57"), looks := true }, kinds := [], alts := [], laidByText := true, laidKinds := [.handle, .data], laidTests := true, laidLooks := .later }
def CodecBurstsUptoCardSaid : Prop := Claim7.holds Tryd.pinned (.plain (OpenSpec.upto codecBurstsSpec)) codecBurstsUptoCard

/-- THE SECOND FORM's CARD OF 'teasellaw1.CodecBack'. -/
def codecBackUptoCard : Claim7 := { stood := { row := codecBackUptoRow, standIns := [], harness := (true, "146ecbf1fce60d1101f6c6a67ad4096d096b8104c74f686e93c12d0a71ecef57"), looks := true }, kinds := [], alts := [], laidByText := true, laidKinds := [.handle, .data], laidTests := true, laidLooks := .later }
def CodecBackUptoCardSaid : Prop := Claim7.holds Tryd.pinned (.plain (OpenSpec.upto codecBackSpec)) codecBackUptoCard

/-- THE SECOND FORM's CARD OF 'teasellaw1.CodecStays'. -/
def codecStaysUptoCard : Claim7 := { stood := { row := codecStaysUptoRow, standIns := [], harness := (true, "146ecbf1fce60d1101f6c6a67ad4096d096b8104c74f686e93c12d0a71ecef57"), looks := true }, kinds := [], alts := [], laidByText := true, laidKinds := [.data, .data, .data, .handle, .data], laidTests := true, laidLooks := .later }
def CodecStaysUptoCardSaid : Prop := Claim7.holds Tryd.pinned (.plain (OpenSpec.upto codecStaysSpec)) codecStaysUptoCard
end Rows
end Go.Proofs.YtlchihjkeheejaaDoor
