/- The reader's steps: a panic becomes the fault that stays. -/
import Derived.Test.YtbopmboigcdjpaaDoorCi
import Derived.Deep.RegionHeld3
namespace Go.Proofs.YtbopmboigcdjpaaDoor
open Go.RowKit

section
variable {w w' : World} {g : Nat} {A : Option Addr} {n c : Nat} {xs : List UInt8} {at_ er fat : Int} {what : ByteArray}
end

end Go.Proofs.YtbopmboigcdjpaaDoor
