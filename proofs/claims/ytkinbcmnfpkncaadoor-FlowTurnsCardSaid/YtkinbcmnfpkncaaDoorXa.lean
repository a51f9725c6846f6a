/- flow: keys of things, a run as plain data, its place in memory. -/
import Derived.Test.YtkinbcmnfpkncaaDoorMc
import Derived.Test.YtkinbcmnfpkncaaDoorCb
import Derived.IntWalk
import Derived.Handy
import Derived.Deep.QuietTactic
import Derived.BigQuiet
import Derived.Test.YtkinbcmnfpkncaaDoorGt
import Derived.Test.YtkinbcmnfpkncaaDoorNz
namespace Go.Proofs.YtkinbcmnfpkncaaDoor
open Go.RowKit Go.Maps

theorem fthRow : (97 : TypeId) < Tryd.prog.types.size := of_decide_eq_true (by kernel_rfl)
theorem kFth : Keyed Tryd.prog 97 := Keyed.of_law (deep_law_laid laidOutM (m := 3) (by omega) fthRow (by kernel_rfl) (by kernel_rfl))
theorem keyType_fth : Tryd.prog.keyType 97 = true := by kernel_rfl
theorem cells_fth : Tryd.prog.cellsOf 97 = 2 := by kernel_rfl
theorem fth_of {c s : Int} (hc : I64 c) (hs : I64 s) : keyOf Tryd.prog 97 (thV c s) = some (th c s) := by
  have h1 := hc.wf
  have h2 := hs.wf
  have hf : (thV c s).formed Tryd.prog 97 = true := by simp [thV, Value.formed, Tryd.underlying97, cells_fth]
  have hi : ∀ d x, (Lit.int .i64 x).wf = true → Tryd.prog.keyLits (d + 1) 3 [.int .i64 x] = some [.int .i64 x] := fun d x hx => by
    simp [Program.keyLits, Tryd.underlying3, hx]
  have hk : Tryd.prog.keyLits (177 + 1) 97 [.int .i64 c, .int .i64 s] = some [.int .i64 c, .int .i64 s] := by
    unfold Program.keyLits
    simp [Tryd.underlying97, cells_fth, cells_int, hi _ _ h1, hi _ _ h2]
  unfold keyOf
  simp only [Tryd.underlying97, keyType_fth, hf, Bool.and_self, if_true, sizeT]
  rw [show (thV c s).cells.toList = [.int .i64 c, .int .i64 s] from rfl, hk]
  rfl

/-! ### a run as plain data -/
structure FS where
  id : Int
  run : Int
  L : List Ev
  tat : Int
  beg : Int
  turn : Int
  late : Bool
  asked : Bool
  opn : Int → Int → Int × Int
def upd (f : Int → Int → Int × Int) (k i : Int) (v : Int × Int) : Int → Int → Int × Int := fun k' i' => if k' = k ∧ i' = i then v else f k' i'
def FS.add (s : FS) (e : Ev) : FS :=
  if e.k = 2 then { s with L := s.L ++ [e], tat := s.L.length + 1, beg := 0, late := false }
  else if e.k = 3 then { s with L := s.L ++ [e], beg := s.L.length + 1 }
  else if e.k = 4 then { s with L := s.L ++ [e], tat := 0, beg := 0, turn := 0 }
  else if e.k = 5 ∨ e.k = 6 then { s with L := s.L ++ [e], tat := 0, beg := 0, turn := s.turn + 1 }
  else if e.k = 7 ∨ e.k = 12 ∨ e.k = 17 then { s with L := s.L ++ [e], opn := upd s.opn e.k e.i (s.L.length + 1, 0) }
  else if e.k = 8 then { s with L := s.L ++ [e], opn := upd s.opn 7 e.i (e.r, s.L.length + 1) }
  else if e.k = 9 ∨ e.k = 10 ∨ e.k = 11 then { s with L := s.L ++ [e], opn := upd s.opn 7 e.i (0, 0) }
  else if e.k = 13 ∨ e.k = 14 then { s with L := s.L ++ [e], opn := upd s.opn 12 e.i (0, 0) }
  else if e.k = 18 then { s with L := s.L ++ [e], opn := upd s.opn 17 e.i (0, 0) }
  else if e.k = 16 then { s with L := s.L ++ [e], asked := true }
  else if e.k = 19 ∨ e.k = 20 ∨ e.k = 21 ∨ e.k = 22 ∨ e.k = 23 then { s with L := s.L ++ [e], tat := 0, beg := 0, opn := fun _ _ => (0, 0) }
  else { s with L := s.L ++ [e] }
theorem FS.add_L (s : FS) (e : Ev) : (s.add e).L = s.L ++ [e] := by
  unfold FS.add
  simp only [apply_ite FS.L, ite_self]
/-- One of what comes out. -/
structure Ou where
  k : Int
  l : Int
  r : Int
  t : Int
  a : Int
  i : Int
  n : Int
  d : List UInt8
instance : Inhabited Ou := ⟨⟨0, 0, 0, 0, 0, 0, 0, []⟩⟩
def statB (k : Int) : Int := if k = 19 then 6 else if k = 20 then 2 else if k = 21 then 3 else if k = 22 then 4 else if k = 23 then 5 else 1
def statL (l : List Ev) : Int := match l.getLast? with | none => 0 | some e => statB e.k
/-- What comes out of the last event, which was just added. -/
def FS.out (s : FS) (e : Ev) : Ou :=
  if e.k = 2 then ⟨1, e.l, s.L.length, e.n, 0, 0, 0, []⟩
  else if e.k = 3 then ⟨3, 0, e.r, s.turn, e.a + (s.L.getD 0 default).n, 0, 0, []⟩
  else if e.k = 7 then ⟨2, e.l, s.L.length, 0, 0, 0, 0, []⟩
  else if e.k = 8 then ⟨4, 0, e.r, 0, e.a + (s.L.getD (e.r - 1).toNat default).n, 0, 0, []⟩
  else if e.k = 12 then ⟨5, 0, s.L.length, 0, e.a + e.n, 0, 0, []⟩
  else if e.k = 17 then ⟨6, e.l, s.L.length, 0, 0, e.i, e.n, e.d⟩
  else if e.k = 19 then ⟨8, 0, 0, 0, 0, 0, 0, e.d⟩
  else if e.k = 20 ∨ e.k = 21 ∨ e.k = 22 ∨ e.k = 23 then ⟨7, 0, 0, 0, 0, 0, statB e.k, e.d⟩
  else ⟨0, 0, 0, 0, 0, 0, 0, []⟩

/-! ### in memory -/
def stF (v : Int × Int) : Value := .agg #[.int .i64 v.1, .int .i64 v.2]
theorem tOpenF : Tryd.prog.underlying 69 = some (.map 97 71) := Tryd.underlying69
theorem zeroStF (w : World) : (zeroValue 71).run Tryd.prog w = .ok (stF (0, 0)) w := by kernel_rfl
def FS.cells (s : FS) (A : Option Addr) (n c : Nat) (mo : Option Nat) : Array Value := #[.int .i64 s.id, .int .i64 s.run, .slice A n c, .map mo, .int .i64 s.tat, .int .i64 s.beg, .int .i64 s.turn, .bool s.late, .bool s.asked]
/-- Numbers that a run's history may hold. -/
def evB (e : Ev) : Prop := 0 ≤ e.a ∧ e.a ≤ 1099511627776 ∧ 0 ≤ e.n ∧ e.n ≤ 1099511627776
structure FlM (w : World) (g : Nat) (A : Option Addr) (n c : Nat) (ps : List VL) (mo : Option Nat) (D : DV) (s : FS) : Prop where
  blk : Bk w g 73 (s.cells A n c mo)
  own : OwnV w 75 (.slice A n c) ps
  evs : ps.map VL.e = s.L
  map : ∀ bm, mo = some bm → MV w 97 bm D ∧ Maps.size D ≤ n
  opn : ∀ k i, I64 k → I64 i → (mo = none ∧ s.opn k i = (0, 0)) ∨ (has D (th k i) = false ∧ s.opn k i = (0, 0)) ∨ At D (th k i) (stF (s.opn k i))
  big : n ≤ 1048576
  trn : 0 ≤ s.turn ∧ s.turn ≤ n
  evb : ∀ e ∈ s.L, evB e
  op64 : ∀ k i, I64 (s.opn k i).1 ∧ I64 (s.opn k i).2
  t64 : I64 s.tat ∧ I64 s.beg
/-- The blocks in which a run lies. -/
def FB (g : Nat) (A : Option Addr) (n c : Nat) (ps : List VL) (mo : Option Nat) (k : Nat) : Prop := k = g ∨ mo = some k ∨ VB (.slice A n c) ps k
/-- A run within the blocks F. -/
def Fl (w : World) (g : Nat) (F : Nat → Prop) (s : FS) : Prop := ∃ A n c ps mo D, FlM w g A n c ps mo D s ∧ (∀ k, FB g A n c ps mo k → F k) ∧ (∀ k, F k → k < w.heap.size) ∧ (mo = none ↔ 19 ≤ (s.L.getLast?.getD default).k ∧ (s.L.getLast?.getD default).k ≤ 23)
section
variable {S F : Nat → Prop} {w w' : World} {g : Nat} {A : Option Addr} {n c : Nat} {ps : List VL} {mo : Option Nat} {D : DV} {s : FS}
theorem FlM.fr (h : FlM w g A n c ps mo D s) (hf : Fr S w w') (hS : ∀ k, FB g A n c ps mo k → ¬ S k) : FlM w' g A n c ps mo D s :=
  { h with blk := h.blk.fr hf (hS _ (.inl rfl)), own := h.own.fr hf (fun k hk => hS k (.inr (.inr hk))), map := fun bm e => ⟨(h.map bm e).1.fr hf (hS _ (.inr (.inl e))), (h.map bm e).2⟩ }
theorem FlM.len (h : FlM w g A n c ps mo D s) : ps.length = n := h.own.row.len.symm
theorem FlM.lenL (h : FlM w g A n c ps mo D s) : s.L.length = n := by rw [← h.evs, List.length_map, h.len]
theorem Fl.fr (h : Fl w g F s) (hf : Fr S w w') (hS : ∀ k, F k → ¬ S k) : Fl w' g F s := by
  obtain ⟨A, n, c, ps, mo, D, h1, h2, h3, h4⟩ := h
  exact ⟨A, n, c, ps, mo, D, h1.fr hf (fun k hk => hS k (h2 k hk)), h2, fun k hk => Nat.lt_of_lt_of_le (h3 k hk) hf.size, h4⟩
theorem Fl.fr0 (h : Fl w g F s) (hf : Fr (fun _ => False) w w') : Fl w' g F s := h.fr hf (fun _ _ h => h)
theorem FlM.es (h : FlM w g A n c ps mo D s) : Vs w A n ps (VB (.slice A n c) ps) := h.own.es
end
end Go.Proofs.YtkinbcmnfpkncaaDoor
