/- The reader's Between, Bytes, End. -/
import Derived.Test.YtbopmboigcdjpaaDoorCl
import Derived.StillTailTactics
namespace Go.Proofs.YtbopmboigcdjpaaDoor
open Go.RowKit

def srWithin (xs : List UInt8) (k : Nat) (lo hi : Int) : SR × Int :=
  match rdNum (xs.drop k) with
  | .bad b => (.bad b, 0)
  | .ok u m => if unfN u < lo ∨ hi < unfN u then (.bad 8, 0) else (.ok (k + m), unfN u)

def srRun (xs : List UInt8) (k : Nat) (most : Int) : SR × List UInt8 :=
  match rdNum (xs.drop k) with
  | .bad b => (.bad b, [])
  | .ok u m =>
    if unfN u < 0 then (.bad 8, [])
    else if most < unfN u then (.bad 10, [])
    else if (xs.length : Int) - (k + m : Nat) < unfN u then (.bad 7, [])
    else (.ok (k + m + (unfN u).toNat), (xs.drop (k + m)).take (unfN u).toNat)

def runQ (bs : List UInt8) (w : World) (v : Value) (w' : World) : Prop := ∃ A' c', v = .slice A' bs.length c' ∧ Own8 w' 5 (.slice A' bs.length c') bs ∧ ∀ k, v.ownBlock = some k → w.heap.size ≤ k

end Go.Proofs.YtbopmboigcdjpaaDoor
