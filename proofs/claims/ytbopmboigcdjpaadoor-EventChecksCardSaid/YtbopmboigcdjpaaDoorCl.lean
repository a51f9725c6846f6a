/- A reader's other steps, whatever they are: by their contract. -/
import Derived.Test.YtbopmboigcdjpaaDoorCk
namespace Go.Proofs.YtbopmboigcdjpaaDoor
open Go.RowKit

/-- What a step comes to: a panic with an Errno, or a value, the reader being at k'. -/
inductive SR where
  | bad (b : Int)
  | ok (k' : Nat)

end Go.Proofs.YtbopmboigcdjpaaDoor
