/-
  NARROWER THAN 'FOR EVERY INPUT', by the rows' own cells (each row's printed sentence says how): FlowOnce: laid · FlowCloses: laid · FlowTurns: laid.
  DERIVED. THE GIVEN ROWS OF THIS SEAT. 3 by the template 'for every input the law returns true; each argument reads behind the call as it read before'; 0 by the template 'total and deterministic' (their statements: YtkinbcmnfpkncaaDoorTotals.lean).
  GIVEN WITH THE SEED: the statements are not yours to turn. If you find one false, say at which input.
  Laid BY PROGRAM, IN A SANDBOX (cutbox-rows.mjs): the forced cells as the released guide's own fill.sh prints them over the translation faef38565c24b80e… (all of the seat's roots in one cut). By AI agents, Wed Nov 11 2026. No macro, syntax, notation, axiom, sorry.
-/
import Derived.Test.YtkinbcmnfpkncaaDoorChecked
import GoSem.Claim
import GoSem.ClaimJoined
import GoSem.ClaimMapViews
import Derived.JoinedTies
import Derived.KernelRfl
namespace Go.Proofs.YtkinbcmnfpkncaaDoor
/- THE CELL 'sum', in the pinned program and in every row, IS THE sha256 OF THE DUMP (.gsa) THAT YtkinbcmnfpkncaaDoorProg.lean LOADS. Nothing in Lean hashes anything: it is a label: what it is worth is what the hold of that sum in a sandbox is worth. -/
noncomputable def Tryd.pinned : Pinned := { name := "ytkinbcmnfpkncaadoor", sum := "faef38565c24b80e1ec4c87f5181098378452683a94869ef20c4e204c8c20343", checked := Tryd.checked }
namespace Rows
def none {H : Type} : Left H := { results := [], args := [] }

/- WHAT THE LISTED PACKAGE-LEVEL VARIABLES READ AS WHEN THE CALL BEGINS. Each datum BY PROGRAM (the guide's laid-datum.mjs) off the statement by which the dump's own 'gosem.cut.vars' lays the variable. In a bare row this is a premise. The card (YtkinbcmnfpkncaaDoorCards.lean) ties it to the program's text. -/
def laid_teasel_flow_made {H : Type} : DataW H := .agg [.lit (.int .i64 0), .lit (.int .i64 7), .lit (.int .i64 12), .lit (.int .i64 14), .lit (.int .i64 17), .lit (.int .i64 20), .lit (.int .i64 21), .lit (.int .i64 22), .lit (.int .i64 19)]

/-- 'teasellaw13.FlowOnce': WHATEVER THE INPUT: true; the input reads as it did. -/
def flowOnceSpec : ChangeSpec := { name := "flowOnce", fn := fun _ => fun
  | [d1, d2] => { results := [.lit (.bool true)], args := [d1, d2] }
  | _ => none }
def flowOnceRow : OpenClaim := { program := "ytkinbcmnfpkncaadoor", sum := "faef38565c24b80e1ec4c87f5181098378452683a94869ef20c4e204c8c20343", func := "teasel/teasellaw13.FlowOnce", spec := "flowOnce", inPlace := ["maps.clone"], unfollowed := true, recurses := true, named := ["teasel/flow.made"], plainKeys := false, apart := false, laid := [("teasel/flow.made", laid_teasel_flow_made)] }
def FlowOnceSaid : Prop := flowOnceRow.holds Tryd.pinned (OpenSpec.ofChange flowOnceSpec)

/-- ITS FALSE NEIGHBOUR: 'it returns false'. Refute it at one input. -/
def flowOnceWrong : ChangeSpec := { name := "flowOnce", fn := fun _ => fun
  | [d1, d2] => { results := [.lit (.bool false)], args := [d1, d2] }
  | _ => none }
def FlowOnceWrongFalsely : Prop := flowOnceRow.holds Tryd.pinned (OpenSpec.ofChange flowOnceWrong)

/-- 'teasellaw13.FlowCloses': WHATEVER THE INPUT: true; the input reads as it did. -/
def flowClosesSpec : ChangeSpec := { name := "flowCloses", fn := fun _ => fun
  | [d1, d2, d3] => { results := [.lit (.bool true)], args := [d1, d2, d3] }
  | _ => none }
def flowClosesRow : OpenClaim := { program := "ytkinbcmnfpkncaadoor", sum := "faef38565c24b80e1ec4c87f5181098378452683a94869ef20c4e204c8c20343", func := "teasel/teasellaw13.FlowCloses", spec := "flowCloses", unfollowed := true, recurses := true, named := ["teasel/flow.made"], plainKeys := false, apart := false, laid := [("teasel/flow.made", laid_teasel_flow_made)] }
def FlowClosesSaid : Prop := flowClosesRow.holds Tryd.pinned (OpenSpec.ofChange flowClosesSpec)

/-- ITS FALSE NEIGHBOUR: 'it returns false'. Refute it at one input. -/
def flowClosesWrong : ChangeSpec := { name := "flowCloses", fn := fun _ => fun
  | [d1, d2, d3] => { results := [.lit (.bool false)], args := [d1, d2, d3] }
  | _ => none }
def FlowClosesWrongFalsely : Prop := flowClosesRow.holds Tryd.pinned (OpenSpec.ofChange flowClosesWrong)

/-- 'teasellaw13.FlowTurns': WHATEVER THE INPUT: true; the input reads as it did. -/
def flowTurnsSpec : ChangeSpec := { name := "flowTurns", fn := fun _ => fun
  | [d1, d2] => { results := [.lit (.bool true)], args := [d1, d2] }
  | _ => none }
def flowTurnsRow : OpenClaim := { program := "ytkinbcmnfpkncaadoor", sum := "faef38565c24b80e1ec4c87f5181098378452683a94869ef20c4e204c8c20343", func := "teasel/teasellaw13.FlowTurns", spec := "flowTurns", unfollowed := true, recurses := true, named := ["teasel/flow.made"], plainKeys := false, apart := false, laid := [("teasel/flow.made", laid_teasel_flow_made)] }
def FlowTurnsSaid : Prop := flowTurnsRow.holds Tryd.pinned (OpenSpec.ofChange flowTurnsSpec)

/-- ITS FALSE NEIGHBOUR: 'it returns false'. Refute it at one input. -/
def flowTurnsWrong : ChangeSpec := { name := "flowTurns", fn := fun _ => fun
  | [d1, d2] => { results := [.lit (.bool false)], args := [d1, d2] }
  | _ => none }
def FlowTurnsWrongFalsely : Prop := flowTurnsRow.holds Tryd.pinned (OpenSpec.ofChange flowTurnsWrong)

/- THE SECOND FORM. 'bulk': how many values and letters a reading holds, each counted each time it is reached (what is shared counts as often as it is met; a slice's spare places count too). A statement '..UptoSaid' is the law's where the arguments, and the package variables that the reading takes, are together of bulk at most 1048576: NARROWER than '..Said'. Prove '..Said' where nothing that the law and all that it calls make is longer than what came in: it says more and counts as full. Else prove '..UptoSaid'. A law counts once. -/
mutual
def uptoBulk {H : Type} : DataW H → Nat
  | .lit (.string bytes) => bytes.length + 1
  | .lit _ => 1
  | .nil => 1
  | .ptr d => uptoBulk d + 1
  | .slice elems spare => uptoBulkAll elems + uptoBulkAll spare + 1
  | .agg parts => uptoBulkAll parts + 1
  | .iface _ d => uptoBulk d + 1
  | .map entries => uptoBulkEntries entries + 1
  | .held _ => 1
def uptoBulkAll {H : Type} : List (DataW H) → Nat
  | [] => 0
  | d :: r => uptoBulk d + uptoBulkAll r
def uptoBulkEntries {H : Type} : List (Lit × DataW H) → Nat
  | [] => 0
  | x :: r => uptoBulkEntry x + uptoBulkEntries r
def uptoBulkEntry {H : Type} : Lit × DataW H → Nat
  | (.string bytes, d) => bytes.length + uptoBulk d + 1
  | (_, d) => uptoBulk d + 1
 end
def uptoSmall : (H : Type) → List (DataW H) → Bool := fun _ ds => decide (uptoBulkAll ds ≤ 1048576)
def OpenSpec.upto (s : _root_.Go.ChangeSpec) : _root_.Go.OpenSpec := { _root_.Go.OpenSpec.ofChange s with cond := some uptoSmall }

/-- 'teasellaw13.FlowOnce', WHERE WHAT IT READS IS OF BULK AT MOST 1048576: true; the input reads as it did. -/
def flowOnceUptoRow : OpenClaim := { program := "ytkinbcmnfpkncaadoor", sum := "faef38565c24b80e1ec4c87f5181098378452683a94869ef20c4e204c8c20343", func := "teasel/teasellaw13.FlowOnce", spec := "flowOnce", inPlace := ["maps.clone"], unfollowed := true, recurses := true, named := ["teasel/flow.made"], plainKeys := false, apart := false, laid := [("teasel/flow.made", laid_teasel_flow_made)], narrowed := true }
def FlowOnceUptoSaid : Prop := flowOnceUptoRow.holds Tryd.pinned (OpenSpec.upto flowOnceSpec)

/-- 'teasellaw13.FlowCloses', WHERE WHAT IT READS IS OF BULK AT MOST 1048576: true; the input reads as it did. -/
def flowClosesUptoRow : OpenClaim := { program := "ytkinbcmnfpkncaadoor", sum := "faef38565c24b80e1ec4c87f5181098378452683a94869ef20c4e204c8c20343", func := "teasel/teasellaw13.FlowCloses", spec := "flowCloses", unfollowed := true, recurses := true, named := ["teasel/flow.made"], plainKeys := false, apart := false, laid := [("teasel/flow.made", laid_teasel_flow_made)], narrowed := true }
def FlowClosesUptoSaid : Prop := flowClosesUptoRow.holds Tryd.pinned (OpenSpec.upto flowClosesSpec)

/-- 'teasellaw13.FlowTurns', WHERE WHAT IT READS IS OF BULK AT MOST 1048576: true; the input reads as it did. -/
def flowTurnsUptoRow : OpenClaim := { program := "ytkinbcmnfpkncaadoor", sum := "faef38565c24b80e1ec4c87f5181098378452683a94869ef20c4e204c8c20343", func := "teasel/teasellaw13.FlowTurns", spec := "flowTurns", unfollowed := true, recurses := true, named := ["teasel/flow.made"], plainKeys := false, apart := false, laid := [("teasel/flow.made", laid_teasel_flow_made)], narrowed := true }
def FlowTurnsUptoSaid : Prop := flowTurnsUptoRow.holds Tryd.pinned (OpenSpec.upto flowTurnsSpec)

end Rows
end Go.Proofs.YtkinbcmnfpkncaaDoor
