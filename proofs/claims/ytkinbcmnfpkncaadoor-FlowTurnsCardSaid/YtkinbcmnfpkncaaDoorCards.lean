/-
  DERIVED. GIVEN WITH THE SEED: THE CARDS: each row of YtkinbcmnfpkncaaDoorRows.lean that lists a variable, with what it lists TIED to the program's text (the seventh form; the later family's looks); each row that meets fmt, with fmt's text TOLD by the authors' own Lean function (tested against real Go, not proved from fmt's source: count such statements apart). THE CARD IS WHAT COUNTS. Prove the row's statement (the work); the ties are given (YtkinbcmnfpkncaaDoorTie.lean); close each card by the builder's one call (the guide's Derived/Test/ToyasCard.lean, 'card_holds'). Laid BY PROGRAM, IN A SANDBOX (cutbox-door.mjs). By AI agents, Wed Nov 11 2026. No macro, syntax, notation, axiom, sorry.
-/
import Derived.Test.YtkinbcmnfpkncaaDoorRows
import GoSem.ClaimSeven
namespace Go.Proofs.YtkinbcmnfpkncaaDoor
namespace Rows

/-- THE TIED CARD OF 'teasellaw13.FlowOnce'. -/
def flowOnceCard : Claim7 := { stood := { row := flowOnceRow, standIns := [], harness := (true, "38cbec6a9399dcd50b87fd8454c48b2b267139f39e4b16a4851d2f4d8dede1ad"), looks := true }, kinds := [], alts := [], laidByText := true, laidKinds := [.data], laidTests := true, laidLooks := .later }
def FlowOnceCardSaid : Prop := Claim7.holds Tryd.pinned (.plain (OpenSpec.ofChange flowOnceSpec)) flowOnceCard

/-- THE TIED CARD OF 'teasellaw13.FlowCloses'. -/
def flowClosesCard : Claim7 := { stood := { row := flowClosesRow, standIns := [], harness := (true, "38cbec6a9399dcd50b87fd8454c48b2b267139f39e4b16a4851d2f4d8dede1ad"), looks := true }, kinds := [], alts := [], laidByText := true, laidKinds := [.data], laidTests := true, laidLooks := .later }
def FlowClosesCardSaid : Prop := Claim7.holds Tryd.pinned (.plain (OpenSpec.ofChange flowClosesSpec)) flowClosesCard

/-- THE TIED CARD OF 'teasellaw13.FlowTurns'. -/
def flowTurnsCard : Claim7 := { stood := { row := flowTurnsRow, standIns := [], harness := (true, "38cbec6a9399dcd50b87fd8454c48b2b267139f39e4b16a4851d2f4d8dede1ad"), looks := true }, kinds := [], alts := [], laidByText := true, laidKinds := [.data], laidTests := true, laidLooks := .later }
def FlowTurnsCardSaid : Prop := Claim7.holds Tryd.pinned (.plain (OpenSpec.ofChange flowTurnsSpec)) flowTurnsCard

/-- THE SECOND FORM's CARD OF 'teasellaw13.FlowOnce'. -/
def flowOnceUptoCard : Claim7 := { stood := { row := flowOnceUptoRow, standIns := [], harness := (true, "38cbec6a9399dcd50b87fd8454c48b2b267139f39e4b16a4851d2f4d8dede1ad"), looks := true }, kinds := [], alts := [], laidByText := true, laidKinds := [.data], laidTests := true, laidLooks := .later }
def FlowOnceUptoCardSaid : Prop := Claim7.holds Tryd.pinned (.plain (OpenSpec.upto flowOnceSpec)) flowOnceUptoCard

/-- THE SECOND FORM's CARD OF 'teasellaw13.FlowCloses'. -/
def flowClosesUptoCard : Claim7 := { stood := { row := flowClosesUptoRow, standIns := [], harness := (true, "38cbec6a9399dcd50b87fd8454c48b2b267139f39e4b16a4851d2f4d8dede1ad"), looks := true }, kinds := [], alts := [], laidByText := true, laidKinds := [.data], laidTests := true, laidLooks := .later }
def FlowClosesUptoCardSaid : Prop := Claim7.holds Tryd.pinned (.plain (OpenSpec.upto flowClosesSpec)) flowClosesUptoCard

/-- THE SECOND FORM's CARD OF 'teasellaw13.FlowTurns'. -/
def flowTurnsUptoCard : Claim7 := { stood := { row := flowTurnsUptoRow, standIns := [], harness := (true, "38cbec6a9399dcd50b87fd8454c48b2b267139f39e4b16a4851d2f4d8dede1ad"), looks := true }, kinds := [], alts := [], laidByText := true, laidKinds := [.data], laidTests := true, laidLooks := .later }
def FlowTurnsUptoCardSaid : Prop := Claim7.holds Tryd.pinned (.plain (OpenSpec.upto flowTurnsSpec)) flowTurnsUptoCard
end Rows
end Go.Proofs.YtkinbcmnfpkncaaDoor
