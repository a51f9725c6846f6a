/- The reader's Bytes, End, and a new one. -/
import Derived.Test.YtbopmboigcdjpaaDoorCn
namespace Go.Proofs.YtbopmboigcdjpaaDoor
open Go.RowKit

def SliceNew (w w' : World) (v : Value) (bs : List UInt8) : Prop := ∃ A' c', v = .slice A' bs.length c' ∧ Own8 w' 5 (.slice A' bs.length c') bs ∧ ∀ k, v.ownBlock = some k → w.heap.size ≤ k

def sEnd : ByteArray := ⟨#[101, 110, 100]⟩
/-- What a reader tells in the end. -/
def stEnd (xs : List UInt8) : St → Option (Int × Int × ByteArray)
  | .bad er a wh => some (er, a, wh)
  | .at_ k => if k < xs.length then some (8, k, sEnd) else none

end Go.Proofs.YtbopmboigcdjpaaDoor
