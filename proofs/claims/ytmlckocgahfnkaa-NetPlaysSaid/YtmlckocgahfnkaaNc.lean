/- The document's net as plain data, and the program's net in memory. -/
import Derived.Test.YtmlckocgahfnkaaNb
import Derived.Deep.QuietTactic
import Derived.BigQuiet
import Derived.Laws.EntriesVeiled
import Derived.StillTailTactics
namespace Go.Proofs.Ytmlckocgahfnkaa
open Go.RowKit

/-- A packet that waits. -/
structure Pk where
  fr : Int
  to : Int
  n : Nat
  bs : List UInt8
instance : Inhabited Pk := ⟨⟨0, 0, 0, []⟩⟩
/-- A net: so many nodes, so many were sent, pairs that are cut (as they were cut), what waits. -/
structure NS where
  N : Nat
  sent : Nat
  cuts : List (Int × Int)
  l : List Pk
/-- A pair, the same either way. -/
def pr (a b : Int) : Int × Int := (min a b, max a b)
theorem pr_comm (a b : Int) : pr a b = pr b a := by unfold pr; rw [Int.min_comm, Int.max_comm]
theorem pr_iff (a b x y : Int) : pr a b = pr x y ↔ (a = x ∧ b = y) ∨ (a = y ∧ b = x) := by
  unfold pr
  simp only [Prod.mk.injEq]
  omega
def NS.is (s : NS) (a : Int) : Bool := decide (0 ≤ a) && decide (a < s.N)
def NS.keys (s : NS) : List (Int × Int) := s.cuts.map fun c => pr c.1 c.2
/-- Are they joined? (Asked of nodes that there are.) -/
def NS.joins (s : NS) (a b : Int) : Bool := !hasP s.keys (pr a b)
def NS.new (N : Nat) : NS := ⟨N, 0, [], []⟩
def NS.err (s : NS) (f t : Int) (bs : List UInt8) : Int := if s.is f && s.is t then (if 1048576 < bs.length then 10 else 0) else 1
def NS.send (s : NS) (f t : Int) (bs : List UInt8) : NS := if s.err f t bs = 0 then { s with sent := s.sent + 1, l := if s.joins f t then s.l ++ [⟨f, t, s.sent, bs⟩] else s.l } else s
def NS.waits (s : NS) (i : Int) : Bool := decide (0 ≤ i) && decide (i < s.l.length)
def NS.drop (s : NS) (i : Nat) : NS := { s with l := s.l.eraseIdx i }
/-- How many from k on have this number. -/
def runOf (l : List Pk) (n : Nat) : Nat → Nat → Nat
  | 0, k => k
  | f + 1, k => if k < l.length ∧ (l.getD k default).n = n then runOf l n f (k + 1) else k
def NS.past (s : NS) (i : Nat) : Nat := runOf s.l (s.l.getD i default).n s.l.length (i + 1)
def NS.again (s : NS) (i : Nat) : NS := { s with l := s.l.take (s.past i) ++ s.l.getD i default :: s.l.drop (s.past i) }
def NS.cutErr (s : NS) (a b : Int) : Bool := !s.is a || !s.is b || decide (a = b)
def NS.cut (s : NS) (a b : Int) : NS := { s with cuts := if s.joins a b then s.cuts ++ [(a, b)] else s.cuts, l := s.l.filter fun p => !(decide (pr p.fr p.to = pr a b)) }
def NS.heal (s : NS) : NS := { s with cuts := [] }
def NS.clear (s : NS) (k : Int) : NS := { s with l := s.l.filter fun p => !(decide (p.to = k)) }
theorem NS.keys_cut (s : NS) (a b : Int) : (s.cut a b).keys = putP s.keys (pr a b) := by
  show List.map (fun c => pr c.1 c.2) (if s.joins a b = true then s.cuts ++ [(a, b)] else s.cuts) = _
  unfold putP NS.joins
  cases h : hasP s.keys (pr a b) <;> simp [NS.keys]

theorem runOf_ge (l : List Pk) (n : Nat) : ∀ f k, k ≤ runOf l n f k
  | 0, k => Nat.le_refl _
  | f + 1, k => by
    unfold runOf
    split
    · exact Nat.le_trans (Nat.le_succ k) (runOf_ge l n f (k + 1))
    · exact Nat.le_refl _
theorem runOf_le (l : List Pk) (n : Nat) : ∀ f k, k ≤ l.length → runOf l n f k ≤ l.length
  | 0, k, h => h
  | f + 1, k, h => by
    unfold runOf
    split
    · rename_i h1; exact runOf_le l n f (k + 1) (by omega)
    · exact h
theorem runOf_yes {l : List Pk} {n f k : Nat} (h : k < l.length) (hn : (l.getD k default).n = n) : runOf l n (f + 1) k = runOf l n f (k + 1) := by
  conv => lhs; unfold runOf
  rw [if_pos ⟨h, hn⟩]
theorem runOf_no {l : List Pk} {n f k : Nat} (h : ¬ (k < l.length ∧ (l.getD k default).n = n)) : runOf l n f k = k := by
  cases f with
  | zero => rfl
  | succ f => unfold runOf; rw [if_neg h]
/-- The fuel does not matter where there is enough. -/
theorem runOf_fuel {l : List Pk} {n : Nat} : ∀ f g k, l.length ≤ k + f → l.length ≤ k + g → runOf l n f k = runOf l n g k
  | 0, g, k, h, _ => (runOf_no (l := l) (n := n) (f := g) (k := k) (by omega)).symm
  | f + 1, 0, k, _, h => by rw [runOf_no (f := 0) (by omega), runOf_no (f := f + 1) (by omega)]
  | f + 1, g + 1, k, h1, h2 => by
    unfold runOf
    split
    · exact runOf_fuel f g (k + 1) (by omega) (by omega)
    · rfl
theorem NS.past_le (s : NS) (i : Nat) (h : i < s.l.length) : s.past i ≤ s.l.length := runOf_le _ _ _ _ (by omega)
theorem NS.past_gt (s : NS) (i : Nat) : i < s.past i := runOf_ge _ _ _ (i + 1)

/-- Sound: what waits is of nodes that there are. -/
def NS.ok (s : NS) : Prop := ∀ p ∈ s.l, s.is p.fr = true ∧ s.is p.to = true

theorem Try.teP : TE Try.prog 57 67 4 32 (.agg #[.int .i64 0, .int .i64 0, .int .i64 0, .nilFunc]) := ⟨Try.underlying57, by kernel_rfl, rfl, by omega⟩
theorem Try.teK : TE Try.prog 37 48 4 48 (.agg #[.int .i64 0, .int .i64 0, .int .i64 0, .slice none 0 0]) := ⟨Try.underlying37, by kernel_rfl, rfl, by omega⟩

/-- A packet of the program's: its four cells; where what hands it on leans. -/
structure PL where
  pk : Pk
  b1 : Nat
  b2 : Nat
  b3 : Nat
  b4 : Nat
  A : Option Addr
  c : Nat
instance : Inhabited PL := ⟨⟨default, 0, 0, 0, 0, none, 0⟩⟩
def PL.fn (p : PL) : Value := .func (.func 44) #[] #[.pointer (some ⟨p.b1, 0, none⟩), .pointer (some ⟨p.b2, 0, none⟩), .pointer (some ⟨p.b3, 0, none⟩), .pointer (some ⟨p.b4, 0, none⟩)]
def PL.cells (p : PL) : List Value := [.int .i64 p.pk.fr, .int .i64 p.pk.to, .int .i64 (p.pk.n : Int), p.fn]
def plc (ps : List PL) : List Value := ps.flatMap PL.cells
/-- What it leans on. -/
structure Hand (w : World) (p : PL) : Prop where
  h1 : Bk w p.b1 3 #[.int .i64 p.pk.fr]
  h2 : Bk w p.b2 3 #[.int .i64 p.pk.to]
  h3 : Bk w p.b3 3 #[.int .i64 (p.pk.n : Int)]
  h4 : Bk w p.b4 33 #[.slice p.A p.pk.bs.length p.c]
  own : Own8 w 5 (.slice p.A p.pk.bs.length p.c) p.pk.bs
  len : p.pk.bs.length ≤ 1048576
def HB (p : PL) (k : Nat) : Prop := k = p.b1 ∨ k = p.b2 ∨ k = p.b3 ∨ k = p.b4 ∨ (Value.slice p.A p.pk.bs.length p.c).ownBlock = some k
theorem Hand.fr {S : Nat → Prop} {w w' : World} {p : PL} (h : Hand w p) (hf : Fr S w w') (hS : ∀ k, HB p k → ¬ S k) : Hand w' p :=
  ⟨h.h1.fr hf (hS _ (.inl rfl)), h.h2.fr hf (hS _ (.inr (.inl rfl))), h.h3.fr hf (hS _ (.inr (.inr (.inl rfl)))), h.h4.fr hf (hS _ (.inr (.inr (.inr (.inl rfl))))), h.own.fr hf (fun k e => hS k (.inr (.inr (.inr (.inr e))))), h.len⟩
theorem Hand.lt {w : World} {p : PL} (h : Hand w p) {k : Nat} (hk : HB p k) : k < w.heap.size := by
  rcases hk with rfl | rfl | rfl | rfl | e
  · exact h.h1.lt
  · exact h.h2.lt
  · exact h.h3.lt
  · exact h.h4.lt
  · exact h.own.lt e
/-- Blocks of other kinds are others. -/
theorem Hand.not {w : World} {p : PL} (h : Hand w p) {g : Nat} {t : TypeId} {cs : Array Value} (hg : Bk w g t cs) (h1 : t ≠ 3) (h2 : t ≠ 33) (h3 : t ≠ 5) : ¬ HB p g := by
  rintro (rfl | rfl | rfl | rfl | e)
  · exact Bk.ne hg h.h1 h1 rfl
  · exact Bk.ne hg h.h2 h1 rfl
  · exact Bk.ne hg h.h3 h1 rfl
  · exact Bk.ne hg h.h4 h2 rfl
  · exact h.own.ne hg (fun e => h3 e.symm) e
theorem Hand.notM {w : World} {p : PL} (h : Hand w p) {b : Nat} {ks : List (Int × Int)} (hm : CM w b ks) : ¬ HB p b := by
  rintro (rfl | rfl | rfl | rfl | e)
  · exact hm.ne h.h1 rfl
  · exact hm.ne h.h2 rfl
  · exact hm.ne h.h3 rfl
  · exact hm.ne h.h4 rfl
  · rcases h.own.2 with ⟨hv, _⟩ | ⟨g', cap, cur, hv, _, hh, _⟩
    · rw [hv] at e; simp [Value.ownBlock] at e
    · rw [hv] at e
      have : g' = b := by simpa [Value.ownBlock] using e
      subst this
      exact hm.ne (show Bk w g' _ cur from hh) rfl

theorem flat_at {α : Type} [Inhabited α] {f : α → List Value} {k : Nat} (hf : ∀ a, (f a).length = k) : ∀ {l : List α} {i j : Nat}, i < l.length → j < k → (l.flatMap f)[i * k + j]? = (f (l.getD i default))[j]?
  | [], i, _, hi, _ => by simp at hi
  | a :: l, 0, j, _, hj => by rw [List.flatMap_cons, Nat.zero_mul, Nat.zero_add, List.getElem?_append_left (by rw [hf]; exact hj)]; rfl
  | a :: l, i + 1, j, hi, hj => by
    have h1 := flat_at hf (l := l) (i := i) (j := j) (by simpa using hi) hj
    rw [List.flatMap_cons, List.getElem?_append_right (by rw [hf, Nat.add_mul]; omega), hf, show (i + 1) * k + j - k = i * k + j by rw [Nat.add_mul]; omega, h1]
    rfl
theorem flat_len {α : Type} {f : α → List Value} {k : Nat} (hf : ∀ a, (f a).length = k) (l : List α) : (l.flatMap f).length = l.length * k := by
  induction l with
  | nil => simp
  | cons a l ih => rw [List.flatMap_cons, List.length_append, hf, ih, List.length_cons, Nat.add_mul]; omega
theorem PL.cells_len (p : PL) : p.cells.length = 4 := rfl
theorem plc_at {ps : List PL} {i j : Nat} (hi : i < ps.length) (hj : j < 4) : (plc ps)[i * 4 + j]? = (ps.getD i default).cells[j]? := flat_at PL.cells_len hi hj
theorem plc_len (ps : List PL) : (plc ps).length = ps.length * 4 := flat_len PL.cells_len ps
theorem plc_one (ps : List PL) : ∀ u ∈ plc ps, u.oneCell' = true := by
  intro u hu
  obtain ⟨p, _, hp⟩ := List.mem_flatMap.1 hu
  simp [PL.cells] at hp
  rcases hp with rfl | rfl | rfl | rfl <;> rfl

/-- Where the parts of a net lie. -/
structure NL where
  mb : Nat
  LV : Value
  ps : List PL
def ncells (s : NS) (m : NL) : Array Value := #[.int .i64 (s.N : Int), .int .i64 (s.sent : Int), .map (some m.mb), m.LV]
/-- A net at block g. -/
structure NetM (w : World) (g : Nat) (s : NS) (m : NL) : Prop where
  ok : s.ok
  n9 : s.N ≤ 9
  blk : Bk w g 59 (ncells s m)
  map : CM w m.mb s.keys
  row : Row w 67 4 m.LV m.ps.length (plc m.ps)
  l : s.l = m.ps.map PL.pk
  each : ∀ p ∈ m.ps, Hand w p
/-- What its calls may turn. -/
def NW (g : Nat) (m : NL) (k : Nat) : Prop := k = g ∨ k = m.mb ∨ m.LV.ownBlock = some k
/-- All that it leans on. -/
def NB (g : Nat) (m : NL) (k : Nat) : Prop := NW g m k ∨ ∃ p ∈ m.ps, HB p k
theorem NetM.lt {w : World} {g : Nat} {s : NS} {m : NL} (h : NetM w g s m) {k : Nat} (hk : NB g m k) : k < w.heap.size := by
  rcases hk with (rfl | rfl | e) | ⟨p, hp, e⟩
  · exact h.blk.lt
  · exact h.map.lt
  · exact h.row.lt e
  · exact (h.each p hp).lt e
theorem NetM.fr {S : Nat → Prop} {w w' : World} {g : Nat} {s : NS} {m : NL} (h : NetM w g s m) (hf : Fr S w w') (hS : ∀ k, NB g m k → ¬ S k) : NetM w' g s m :=
  ⟨h.ok, h.n9, h.blk.fr hf (hS _ (.inl (.inl rfl))), h.map.fr hf (hS _ (.inl (.inr (.inl rfl)))), h.row.fr hf (fun k e => hS k (.inl (.inr (.inr e)))), h.l, fun p hp => (h.each p hp).fr hf (fun k e => hS k (.inr ⟨p, hp, e⟩))⟩
theorem NetM.fr0 {w w' : World} {g : Nat} {s : NS} {m : NL} (h : NetM w g s m) (hf : Fr (fun _ => False) w w') : NetM w' g s m := h.fr hf (fun _ _ h => h)
theorem NetM.ll {w : World} {g : Nat} {s : NS} {m : NL} (h : NetM w g s m) : m.ps.length = s.l.length := by rw [h.l]; simp
/-- What a call turns of the net touches nothing that the packets lean on. -/
theorem NetM.apart {w : World} {g : Nat} {s : NS} {m : NL} (h : NetM w g s m) {p : PL} (hp : p ∈ m.ps) {k : Nat} (hk : NW g m k) : ¬ HB p k := by
  rcases hk with rfl | rfl | e
  · exact (h.each p hp).not h.blk (by decide) (by decide) (by decide)
  · exact (h.each p hp).notM h.map
  · obtain ⟨cur, hb⟩ := h.row.bk e
    exact (h.each p hp).not hb (by decide) (by decide) (by decide)
theorem NetM.rowg {w : World} {g : Nat} {s : NS} {m : NL} (h : NetM w g s m) : m.LV.ownBlock ≠ some g := h.row.ne h.blk (by decide)
theorem NetM.mapg {w : World} {g : Nat} {s : NS} {m : NL} (h : NetM w g s m) : g ≠ m.mb := h.map.ne h.blk
theorem NetM.rowm {w : World} {g : Nat} {s : NS} {m : NL} (h : NetM w g s m) : m.LV.ownBlock ≠ some m.mb := fun e => by
  obtain ⟨cur, hb⟩ := h.row.bk e
  exact h.map.ne hb rfl
theorem NetM.pk {w : World} {g : Nat} {s : NS} {m : NL} (h : NetM w g s m) {i : Nat} (hi : i < m.ps.length) : s.l.getD i default = (m.ps.getD i default).pk := by
  rw [h.l]; simp [List.getD, hi]

/-- A net at block g within the blocks F. -/
def Nt (w : World) (g : Nat) (s : NS) (F : Nat → Prop) : Prop := ∃ m, NetM w g s m ∧ (∀ k, NB g m k → F k) ∧ ∀ k, F k → k < w.heap.size
theorem Nt.fr {S F : Nat → Prop} {w w' : World} {g : Nat} {s : NS} (h : Nt w g s F) (hf : Fr S w w') (hS : ∀ k, F k → ¬ S k) : Nt w' g s F := by
  obtain ⟨m, h1, h2, h3⟩ := h
  exact ⟨m, h1.fr hf (fun k hk => hS k (h2 k hk)), h2, fun k hk => Nat.lt_of_lt_of_le (h3 k hk) hf.size⟩
theorem Nt.fr0 {F : Nat → Prop} {w w' : World} {g : Nat} {s : NS} (h : Nt w g s F) (hf : Fr (fun _ => False) w w') : Nt w' g s F := h.fr hf (fun _ _ h => h)
theorem Nt.lt {F : Nat → Prop} {w : World} {g : Nat} {s : NS} (h : Nt w g s F) {k : Nat} (hk : F k) : k < w.heap.size := h.choose_spec.2.2 k hk
theorem Nt.self {F : Nat → Prop} {w : World} {g : Nat} {s : NS} (h : Nt w g s F) : F g := h.choose_spec.2.1 g (.inl (.inl rfl))
/-- From a net to that net later. -/
def NtTo (w : World) (g : Nat) (F : Nat → Prop) (w' : World) (s' : NS) : Prop := ∃ F', Nt w' g s' F' ∧ Fr F w w' ∧ ∀ k, F' k → F k ∨ w.heap.size ≤ k
theorem NetM.to {w w' : World} {g : Nat} {F : Nat → Prop} {s' : NS} {m' : NL} (h : NetM w' g s' m') (hB : ∀ k, NB g m' k → F k ∨ w.heap.size ≤ k) (hf : Fr F w w') : NtTo w g F w' s' :=
  ⟨NB g m', ⟨m', h, fun _ hk => hk, fun _ hk => h.lt hk⟩, hf, hB⟩
end Go.Proofs.Ytmlckocgahfnkaa
