/-
  DERIVED. GIVEN WITH THE SEED: THE CARDS: each row of YtblfnbmgijppmaaDoorRows.lean that lists a variable, with what it lists TIED to the program's text (the seventh form; the later family's looks); each row that meets fmt, with fmt's text TOLD by the authors' own Lean function (tested against real Go, not proved from fmt's source: count such statements apart). THE CARD IS WHAT COUNTS. Prove the row's statement (the work); the ties are given (YtblfnbmgijppmaaDoorTie.lean); close each card by the builder's one call (the guide's Derived/Test/ToyasCard.lean, 'card_holds'). Laid BY PROGRAM, IN A SANDBOX (cutbox-door.mjs). By AI agents, Wed Nov 11 2026. No macro, syntax, notation, axiom, sorry.
-/
import Derived.Test.YtblfnbmgijppmaaDoorRows
import GoSem.ClaimSeven
namespace Go.Proofs.YtblfnbmgijppmaaDoor
namespace Rows

/-- THE TIED CARD OF 'teasellaw1.CodecCalls'. -/
def codecCallsCard : Claim7 := { stood := { row := codecCallsRow, standIns := [], harness := (true, "2c7f940ba7d10c867901cc46aa95c165db8d6d1a1710c934fb9bd29d834574cd"), looks := true }, kinds := [], alts := [], laidByText := true, laidKinds := [.data, .data, .data, .handle, .data], laidTests := true, laidLooks := .later }
def CodecCallsCardSaid : Prop := Claim7.holds Tryd.pinned (.plain (OpenSpec.ofChange codecCallsSpec)) codecCallsCard

/-- THE SECOND FORM's CARD OF 'teasellaw1.CodecCalls'. -/
def codecCallsUptoCard : Claim7 := { stood := { row := codecCallsUptoRow, standIns := [], harness := (true, "2c7f940ba7d10c867901cc46aa95c165db8d6d1a1710c934fb9bd29d834574cd"), looks := true }, kinds := [], alts := [], laidByText := true, laidKinds := [.data, .data, .data, .handle, .data], laidTests := true, laidLooks := .later }
def CodecCallsUptoCardSaid : Prop := Claim7.holds Tryd.pinned (.plain (OpenSpec.upto codecCallsSpec)) codecCallsUptoCard
end Rows
end Go.Proofs.YtblfnbmgijppmaaDoor
