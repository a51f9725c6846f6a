/- The codec's writer, on: bytes.Clone, Bytes, Done. -/
import Derived.Test.YtbopmboigcdjpaaDoorCa
namespace Go.Proofs.YtbopmboigcdjpaaDoor
open Go.RowKit

theorem foldN_nat (n : Nat) : foldN (n : Int) = 2 * n := by unfold foldN; rw [if_pos (by omega)]; omega

/-- A slice value that reads as xs, and lies apart from what S holds. -/
def Apart (S : Nat → Prop) (A : Option Addr) (n : Nat) : Prop := ∀ ad, A = some ad → 0 < n → ¬ S ad.block

end Go.Proofs.YtbopmboigcdjpaaDoor
