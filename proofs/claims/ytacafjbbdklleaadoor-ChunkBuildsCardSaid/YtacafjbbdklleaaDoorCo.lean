/- The reader's Bytes, End, and a new one. -/
import Derived.Test.YtacafjbbdklleaaDoorCn
namespace Go.Proofs.YtacafjbbdklleaaDoor
open Go.RowKit

def SliceNew (w w' : World) (v : Value) (bs : List UInt8) : Prop := ∃ A' c', v = .slice A' bs.length c' ∧ Own8 w' 5 (.slice A' bs.length c') bs ∧ ∀ k, v.ownBlock = some k → w.heap.size ≤ k

def sEnd : ByteArray := ⟨#[101, 110, 100]⟩
/-- What a reader tells in the end. -/
def stEnd (xs : List UInt8) : St → Option (Int × Int × ByteArray)
  | .bad er a wh => some (er, a, wh)
  | .at_ k => if k < xs.length then some (8, k, sEnd) else none

/-- An error: none, or a Fault in a new block. -/
def ErrIs (w w' : World) (v : Value) : Option (Int × Int × ByteArray) → Prop
  | none => v = .nilIface
  | some (er, a, wh) => ∃ fb, v = .iface 74 (.pointer (some ⟨fb, 0, none⟩)) ∧ Bk w' fb 104 #[.int .i64 er, .int .i64 a, .string wh] ∧ w.heap.size ≤ fb

end Go.Proofs.YtacafjbbdklleaaDoor
