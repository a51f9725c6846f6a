/- whole: what a reader makes of bytes, item by item. -/
import Derived.Test.YtpkmmohjdcdfeaaDoorDa
import Derived.Deep.RegionWith
namespace Go.Proofs.YtpkmmohjdcdfeaaDoor
open Go.RowKit

def sB : ByteArray := ⟨#[98]⟩
def sN : ByteArray := ⟨#[110]⟩
def stepI (xs : List UInt8) (r : Bool × St) (x : It) : Bool × St :=
  if x.isB then (((stBytes xs sB 8192 r.2).1 == x.bs) && r.1, (stBytes xs sB 8192 r.2).2)
  else (((stInt xs sN r.2).1 == x.num) && r.1, (stInt xs sN r.2).2)
def goI (xs : List UInt8) (l : List It) : Bool × St := l.foldl (stepI xs) (true, .at_ 0)
def wholeOf (xs : List UInt8) (l : List It) : Bool := (stEnd xs (goI xs l).2).isNone && (goI xs l).1
theorem goI_take (xs : List UInt8) (l : List It) (k : Nat) (h : k < l.length) : goI xs (l.take (k + 1)) = stepI xs (goI xs (l.take k)) l[k] := by
  unfold goI
  rw [List.take_succ_eq_append_getElem h, List.foldl_append]
  rfl

theorem toL (xs : List UInt8) : (strOf xs).toList = xs := by rw [ByteArray.toList_eq]; rfl
end Go.Proofs.YtpkmmohjdcdfeaaDoor
