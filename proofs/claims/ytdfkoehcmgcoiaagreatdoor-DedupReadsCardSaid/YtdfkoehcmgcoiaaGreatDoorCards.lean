/-
  DERIVED. GIVEN WITH THE SEED: THE CARDS: each row of YtdfkoehcmgcoiaaGreatDoorRows.lean that lists a variable, with what it lists TIED to the program's text (the seventh form; the later family's looks); each row that meets fmt, with fmt's text TOLD by the authors' own Lean function (tested against real Go, not proved from fmt's source: count such statements apart). THE CARD IS WHAT COUNTS. Prove the row's statement (the work); the ties are given (YtdfkoehcmgcoiaaGreatDoorTie.lean); close each card by the builder's one call (the guide's Derived/Test/ToyasCard.lean, 'card_holds'). Laid BY PROGRAM, IN A SANDBOX (cutbox-door.mjs). By AI agents, Wed Nov 11 2026. No macro, syntax, notation, axiom, sorry.
-/
import Derived.Test.YtdfkoehcmgcoiaaGreatDoorRows
import GoSem.ClaimSeven
namespace Go.Proofs.YtdfkoehcmgcoiaaGreatDoor
namespace Rows

/-- THE TIED CARD OF 'teasellaw11.DedupPlays'. -/
def dedupPlaysCard : Claim7 := { stood := { row := dedupPlaysRow, standIns := [], harness := (true, "0aab274c92e1eeadce8aaf6b4a95731161289ba42627fc1c9ef7b044c479804d"), looks := true }, kinds := [], alts := [], laidByText := true, laidKinds := [.handle], laidTests := true, laidLooks := .later }
def DedupPlaysCardSaid : Prop := Claim7.holds Tryz.pinned (.plain (OpenSpec.ofChange dedupPlaysSpec)) dedupPlaysCard

/-- THE TIED CARD OF 'teasellaw11.DedupReads'. -/
def dedupReadsCard : Claim7 := { stood := { row := dedupReadsRow, standIns := [], harness := (true, "0aab274c92e1eeadce8aaf6b4a95731161289ba42627fc1c9ef7b044c479804d"), looks := true }, kinds := [], alts := [], laidByText := true, laidKinds := [.handle], laidTests := true, laidLooks := .later }
def DedupReadsCardSaid : Prop := Claim7.holds Tryz.pinned (.plain (OpenSpec.ofChange dedupReadsSpec)) dedupReadsCard

/-- THE SECOND FORM's CARD OF 'teasellaw11.DedupPlays'. -/
def dedupPlaysUptoCard : Claim7 := { stood := { row := dedupPlaysUptoRow, standIns := [], harness := (true, "0aab274c92e1eeadce8aaf6b4a95731161289ba42627fc1c9ef7b044c479804d"), looks := true }, kinds := [], alts := [], laidByText := true, laidKinds := [.handle], laidTests := true, laidLooks := .later }
def DedupPlaysUptoCardSaid : Prop := Claim7.holds Tryz.pinned (.plain (OpenSpec.upto dedupPlaysSpec)) dedupPlaysUptoCard

/-- THE SECOND FORM's CARD OF 'teasellaw11.DedupReads'. -/
def dedupReadsUptoCard : Claim7 := { stood := { row := dedupReadsUptoRow, standIns := [], harness := (true, "0aab274c92e1eeadce8aaf6b4a95731161289ba42627fc1c9ef7b044c479804d"), looks := true }, kinds := [], alts := [], laidByText := true, laidKinds := [.handle], laidTests := true, laidLooks := .later }
def DedupReadsUptoCardSaid : Prop := Claim7.holds Tryz.pinned (.plain (OpenSpec.upto dedupReadsSpec)) dedupReadsUptoCard
end Rows
end Go.Proofs.YtdfkoehcmgcoiaaGreatDoor
