/-
  DERIVED. GIVEN WITH THE SEED: THE CARDS: each row of YtieoeoonopcjbaaGreatDoorRows.lean that lists a variable, with what it lists TIED to the program's text (the seventh form; the later family's looks); each row that meets fmt, with fmt's text TOLD by the authors' own Lean function (tested against real Go, not proved from fmt's source: count such statements apart). THE CARD IS WHAT COUNTS. Prove the row's statement (the work); the ties are given (YtieoeoonopcjbaaGreatDoorTie.lean); close each card by the builder's one call (the guide's Derived/Test/ToyasCard.lean, 'card_holds'). Laid BY PROGRAM, IN A SANDBOX (cutbox-door.mjs). By AI agents, Wed Nov 11 2026. No macro, syntax, notation, axiom, sorry.
-/
import Derived.Test.YtieoeoonopcjbaaGreatDoorRows
import GoSem.ClaimSeven
namespace Go.Proofs.YtieoeoonopcjbaaGreatDoor
namespace Rows

/-- THE TIED CARD OF 'teasellaw12.EventBytes'. -/
def eventBytesCard : Claim7 := { stood := { row := eventBytesRow, standIns := [], harness := (true, "b1f486a81b02f3d1a9d24c6411d420aebe24bc63354885b76c80e7098c646f2e"), looks := true }, kinds := [], alts := [], laidByText := true, laidKinds := [.data, .data, .data, .handle, .data], laidTests := true, laidLooks := .later }
def EventBytesCardSaid : Prop := Claim7.holds Tryz.pinned (.plain (OpenSpec.ofChange eventBytesSpec)) eventBytesCard

/-- THE TIED CARD OF 'teasellaw13.FlowPlays'. -/
def flowPlaysCard : Claim7 := { stood := { row := flowPlaysRow, standIns := [], harness := (true, "b1f486a81b02f3d1a9d24c6411d420aebe24bc63354885b76c80e7098c646f2e"), looks := true }, kinds := [], alts := [], laidByText := true, laidKinds := [.handle, .data], laidTests := true, laidLooks := .later }
def FlowPlaysCardSaid : Prop := Claim7.holds Tryz.pinned (.plain (OpenSpec.ofChange flowPlaysSpec)) flowPlaysCard

/-- THE TIED CARD OF 'teasellaw13.FlowGrows'. -/
def flowGrowsCard : Claim7 := { stood := { row := flowGrowsRow, standIns := [], harness := (true, "b1f486a81b02f3d1a9d24c6411d420aebe24bc63354885b76c80e7098c646f2e"), looks := true }, kinds := [], alts := [], laidByText := true, laidKinds := [.data], laidTests := true, laidLooks := .later }
def FlowGrowsCardSaid : Prop := Claim7.holds Tryz.pinned (.plain (OpenSpec.ofChange flowGrowsSpec)) flowGrowsCard

/-- THE SECOND FORM's CARD OF 'teasellaw12.EventBytes'. -/
def eventBytesUptoCard : Claim7 := { stood := { row := eventBytesUptoRow, standIns := [], harness := (true, "b1f486a81b02f3d1a9d24c6411d420aebe24bc63354885b76c80e7098c646f2e"), looks := true }, kinds := [], alts := [], laidByText := true, laidKinds := [.data, .data, .data, .handle, .data], laidTests := true, laidLooks := .later }
def EventBytesUptoCardSaid : Prop := Claim7.holds Tryz.pinned (.plain (OpenSpec.upto eventBytesSpec)) eventBytesUptoCard

/-- THE SECOND FORM's CARD OF 'teasellaw13.FlowPlays'. -/
def flowPlaysUptoCard : Claim7 := { stood := { row := flowPlaysUptoRow, standIns := [], harness := (true, "b1f486a81b02f3d1a9d24c6411d420aebe24bc63354885b76c80e7098c646f2e"), looks := true }, kinds := [], alts := [], laidByText := true, laidKinds := [.handle, .data], laidTests := true, laidLooks := .later }
def FlowPlaysUptoCardSaid : Prop := Claim7.holds Tryz.pinned (.plain (OpenSpec.upto flowPlaysSpec)) flowPlaysUptoCard

/-- THE SECOND FORM's CARD OF 'teasellaw13.FlowGrows'. -/
def flowGrowsUptoCard : Claim7 := { stood := { row := flowGrowsUptoRow, standIns := [], harness := (true, "b1f486a81b02f3d1a9d24c6411d420aebe24bc63354885b76c80e7098c646f2e"), looks := true }, kinds := [], alts := [], laidByText := true, laidKinds := [.data], laidTests := true, laidLooks := .later }
def FlowGrowsUptoCardSaid : Prop := Claim7.holds Tryz.pinned (.plain (OpenSpec.upto flowGrowsSpec)) flowGrowsUptoCard
end Rows
end Go.Proofs.YtieoeoonopcjbaaGreatDoor
