/- flow: a decision as plain data. -/
import Derived.Test.YtkinbcmnfpkncaaDoorXa
namespace Go.Proofs.YtkinbcmnfpkncaaDoor
open Go.RowKit Go.Maps

/-- A decision and where its bytes lie. -/
structure DL where
  k : Int
  i : Int
  l : Int
  n : Int
  A : Option Addr
  dl : Nat
  c : Nat
def DL.cells (x : DL) : Array Value := #[.int .i64 x.k, .int .i64 x.i, .int .i64 x.l, .int .i64 x.n, .slice x.A x.dl x.c]
def betw (lo hi v : Int) : Bool := decide (lo ≤ v) && decide (v ≤ hi)
def mayB (k : Int) (bi bl bn bd zi zl zn zd : Bool) : Bool := bi && bl && bd && (if k = 1 ∨ k = 4 then bn else if k = 2 then bn && zl && zd else if k = 3 then zl && zn && zd else if k = 5 ∨ k = 6 ∨ k = 8 then zi && zl && zn else if k = 7 then zi && zl && zn && zd else false)
def DL.may (x : DL) : Bool := mayB x.k (betw 0 1048576 x.i) (betw 0 1048576 x.l) (betw 1 1048576 x.n) (decide ((x.dl : Int) ≤ 4096)) (x.i == 0) (x.l == 0) (x.n == 0) ((x.dl : Int) == 0)
end Go.Proofs.YtkinbcmnfpkncaaDoor
