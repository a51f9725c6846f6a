import Derived.Shelf.SlIterI.Nil
import Derived.Shelf.SortM.Plain
import Derived.Shelf.SortM.SortNone
import Derived.Test.YtdfkoehcmgcoiaaGreatDoorProg
import Derived.WalkKit
import Derived.WalkSpells
import Derived.WalkLawsBesides
import Derived.Maps.AppendAt
import Derived.Lib.Hide
import Derived.Deep.Draws
import Derived.Test.YtdfkoehcmgcoiaaGreatDoorChecked
import Derived.Maps.OwnOps
import Derived.Maps.OwnSet
import Derived.Maps.RangeWalk
import Derived.Laws.IdiomCopy
import Derived.Deep.Upon
import Derived.Lib.AppendZerosOnto
import Derived.Lib.SliceRun
import Derived.DeepKeys4

/- Contracts of the library's, laid over this program: maps.Keys, slices.Sorted, slices.Sort at int. -/
/-
  DERIVED: THE SHELF's CONTRACTS AT THIS DUMP, IN PLAIN WORDS (tools/lay-plain.mjs out of 'TryzKshelf.lean', which tools/lay-shelf.mjs wrote): THE SAME DECLARATIONS UNDER THE SAME NAMES: 'import', 'namespace', 'open', 'def', 'theorem' AND NOTHING ELSE: no command of the shelf's: FOR A HAND-IN. Each laying: the table of numbers ('.._ren') and one theorem, a field a fact of the dump's own or the kernel's comparison; each contract: ONE APPLICATION.
-/
namespace Go.Proofs
open Go.Shelf
def Tryz.keysL_ren : Go.Shelf.Ren := ⟨fun | 7 => 59 | 10 => 77 | n => n, fun | 23 => 78 | 26 => 3 | 3 => 64 | 28 => 121 | 0 => 0 | 27 => 120 | 33 => 139 | 4 => 4 | n => n, fun | n => n⟩
theorem Tryz.keysL : Go.Proofs.SlLaysZI.n7 Tryz.prog Tryz.keysL_ren := {
  mixed := by kernel_rfl
  f7 := ⟨Tryz.f59.name, by decide, Tryz.func59.trans (congrArg some (by kernel_rfl))⟩
  f10 := ⟨Tryz.f77.name, by decide, Tryz.func77.trans (congrArg some (by kernel_rfl))⟩
  t0 := Tryz.underlying0
  a0 := Tryz.isAgg0
  z0 := Tryz.sizeOf0
  v0 := Tryz.zeroValue0
  t4 := Tryz.underlying4
  a4 := Tryz.isAgg4
  z4 := Tryz.sizeOf4
  v4 := Tryz.zeroValue4
  t23 := Tryz.underlying78
  a23 := Tryz.isAgg78
  z23 := Tryz.sizeOf78
  v23 := Tryz.zeroValue78
  t26 := Tryz.underlying3
  a26 := Tryz.isAgg3
  z26 := Tryz.sizeOf3
  v26 := Tryz.zeroValue3
  t27 := Tryz.underlying120
  a27 := Tryz.isAgg120
  z27 := Tryz.sizeOf120
  v27 := Tryz.zeroValue120
  t28 := Tryz.underlying121
  a28 := Tryz.isAgg121
  z28 := Tryz.sizeOf121
  v28 := Tryz.zeroValue121
  t33 := Tryz.underlying139
  a33 := Tryz.isAgg139
  z33 := Tryz.sizeOf139
  v33 := Tryz.zeroValue139 }
def Tryz.sortedL_ren : Go.Shelf.Ren := ⟨fun | 6 => 58 | 8 => 75 | 9 => 76 | 11 => 86 | 13 => 88 | 12 => 87 | 23 => 99 | 24 => 100 | 14 => 91 | 15 => 92 | 16 => 93 | 17 => 94 | 18 => 95 | 19 => 96 | 20 => 66 | 21 => 97 | 22 => 98 | 25 => 101 | 26 => 102 | 27 => 103 | 28 => 104 | 29 => 105 | 30 => 78 | 31 => 106 | n => n, fun | 26 => 3 | 28 => 121 | 24 => 64 | 0 => 0 | 3 => 3 | 37 => 116 | 48 => 168 | 50 => 114 | 4 => 4 | 40 => 162 | 39 => 161 | 45 => 62 | 5 => 5 | 9 => 9 | 51 => 170 | 55 => 174 | 57 => 176 | 58 => 177 | 33 => 139 | n => n, fun | n => n⟩
theorem Tryz.sortedL : Go.Proofs.SlLaysZI.n6 Tryz.prog Tryz.sortedL_ren := {
  mixed := by kernel_rfl
  f6 := ⟨Tryz.f58.name, by decide, Tryz.func58.trans (congrArg some (by kernel_rfl))⟩
  f8 := ⟨Tryz.f75.name, by decide, Tryz.func75.trans (congrArg some (by kernel_rfl))⟩
  f11 := ⟨Tryz.f86.name, by decide, Tryz.func86.trans (congrArg some (by kernel_rfl))⟩
  t0 := Tryz.underlying0
  a0 := Tryz.isAgg0
  z0 := Tryz.sizeOf0
  v0 := Tryz.zeroValue0
  t24 := Tryz.underlying64
  a24 := Tryz.isAgg64
  z24 := Tryz.sizeOf64
  v24 := Tryz.zeroValue64
  t26 := Tryz.underlying3
  a26 := Tryz.isAgg3
  z26 := Tryz.sizeOf3
  v26 := Tryz.zeroValue3
  t28 := Tryz.underlying121
  a28 := Tryz.isAgg121
  z28 := Tryz.sizeOf121
  v28 := Tryz.zeroValue121
  i26 := by kernel_rfl }
def Tryz.sortL_ren : Go.Shelf.Ren := ⟨fun | 5 => 76 | 8 => 88 | 7 => 87 | 19 => 99 | 20 => 100 | 10 => 91 | 11 => 92 | 12 => 93 | 13 => 94 | 14 => 95 | 15 => 96 | 16 => 66 | 17 => 97 | 18 => 98 | 30 => 101 | 31 => 102 | 32 => 103 | 33 => 104 | 34 => 105 | 35 => 78 | 40 => 106 | n => n, fun | 23 => 64 | 25 => 3 | 3 => 3 | 32 => 116 | 22 => 64 | 0 => 0 | 44 => 168 | 46 => 114 | 4 => 4 | 36 => 162 | 35 => 161 | 41 => 62 | 5 => 5 | 9 => 9 | 53 => 170 | 57 => 174 | 63 => 176 | 64 => 177 | n => n, fun | n => n⟩
theorem Tryz.sortL : Go.Proofs.SlLaysM.n5 Tryz.prog Tryz.sortL_ren := {
  mixed := by kernel_rfl
  f5 := ⟨Tryz.f76.name, by decide, Tryz.func76.trans (congrArg some (by kernel_rfl))⟩
  f7 := ⟨Tryz.f87.name, by decide, Tryz.func87.trans (congrArg some (by kernel_rfl))⟩
  f8 := Tryz.func88.trans (congrArg some (by kernel_rfl))
  f10 := ⟨Tryz.f91.name, by decide, Tryz.func91.trans (congrArg some (by kernel_rfl))⟩
  f11 := ⟨Tryz.f92.name, by decide, Tryz.func92.trans (congrArg some (by kernel_rfl))⟩
  f12 := ⟨Tryz.f93.name, by decide, Tryz.func93.trans (congrArg some (by kernel_rfl))⟩
  f13 := ⟨Tryz.f94.name, by decide, Tryz.func94.trans (congrArg some (by kernel_rfl))⟩
  f14 := ⟨Tryz.f95.name, by decide, Tryz.func95.trans (congrArg some (by kernel_rfl))⟩
  f15 := ⟨Tryz.f96.name, by decide, Tryz.func96.trans (congrArg some (by kernel_rfl))⟩
  f16 := ⟨Tryz.f66.name, by decide, Tryz.func66.trans (congrArg some (by kernel_rfl))⟩
  f17 := ⟨Tryz.f97.name, by decide, Tryz.func97.trans (congrArg some (by kernel_rfl))⟩
  f18 := ⟨Tryz.f98.name, by decide, Tryz.func98.trans (congrArg some (by kernel_rfl))⟩
  f19 := Tryz.func99.trans (congrArg some (by kernel_rfl))
  f20 := Tryz.func100.trans (congrArg some (by kernel_rfl))
  f30 := ⟨Tryz.f101.name, by decide, Tryz.func101.trans (congrArg some (by kernel_rfl))⟩
  f31 := Tryz.func102.trans (congrArg some (by kernel_rfl))
  f32 := Tryz.func103.trans (congrArg some (by kernel_rfl))
  f33 := ⟨Tryz.f104.name, by decide, Tryz.func104.trans (congrArg some (by kernel_rfl))⟩
  f34 := ⟨Tryz.f105.name, by decide, Tryz.func105.trans (congrArg some (by kernel_rfl))⟩
  f35 := ⟨Tryz.f78.name, by decide, Tryz.func78.trans (congrArg some (by kernel_rfl))⟩
  f40 := ⟨Tryz.f106.name, by decide, Tryz.func106.trans (congrArg some (by kernel_rfl))⟩
  t0 := Tryz.underlying0
  a0 := Tryz.isAgg0
  z0 := Tryz.sizeOf0
  v0 := Tryz.zeroValue0
  t3 := Tryz.underlying3
  a3 := Tryz.isAgg3
  z3 := Tryz.sizeOf3
  v3 := Tryz.zeroValue3
  t4 := Tryz.underlying4
  a4 := Tryz.isAgg4
  z4 := Tryz.sizeOf4
  v4 := Tryz.zeroValue4
  t5 := Tryz.underlying5
  a5 := Tryz.isAgg5
  z5 := Tryz.sizeOf5
  v5 := Tryz.zeroValue5
  t9 := Tryz.underlying9
  a9 := Tryz.isAgg9
  z9 := Tryz.sizeOf9
  v9 := Tryz.zeroValue9
  t22 := Tryz.underlying64
  a22 := Tryz.isAgg64
  z22 := Tryz.sizeOf64
  v22 := Tryz.zeroValue64
  t23 := Tryz.underlying64
  a23 := Tryz.isAgg64
  z23 := Tryz.sizeOf64
  v23 := Tryz.zeroValue64
  t25 := Tryz.underlying3
  a25 := Tryz.isAgg3
  z25 := Tryz.sizeOf3
  v25 := Tryz.zeroValue3
  t32 := Tryz.underlying116
  a32 := Tryz.isAgg116
  z32 := Tryz.sizeOf116
  v32 := Tryz.zeroValue116
  t35 := Tryz.underlying161
  a35 := Tryz.isAgg161
  z35 := Tryz.sizeOf161
  v35 := Tryz.zeroValue161
  t36 := Tryz.underlying162
  a36 := Tryz.isAgg162
  z36 := Tryz.sizeOf162
  v36 := Tryz.zeroValue162
  t41 := Tryz.underlying62
  a41 := Tryz.isAgg62
  z41 := Tryz.sizeOf62
  v41 := Tryz.zeroValue62
  t44 := Tryz.underlying168
  a44 := Tryz.isAgg168
  z44 := Tryz.sizeOf168
  v44 := Tryz.zeroValue168
  t46 := Tryz.underlying114
  a46 := Tryz.isAgg114
  z46 := Tryz.sizeOf114
  v46 := Tryz.zeroValue114
  t53 := Tryz.underlying170
  a53 := Tryz.isAgg170
  z53 := Tryz.sizeOf170
  v53 := Tryz.zeroValue170
  t57 := Tryz.underlying174
  a57 := Tryz.isAgg174
  z57 := Tryz.sizeOf174
  v57 := Tryz.zeroValue174
  t63 := Tryz.underlying176
  a63 := Tryz.isAgg176
  z63 := Tryz.sizeOf176
  v63 := Tryz.zeroValue176
  t64 := Tryz.underlying177
  a64 := Tryz.isAgg177
  z64 := Tryz.sizeOf177
  v64 := Tryz.zeroValue177 }
end Go.Proofs

/- Words for memory, of this verifier's own: what a call may write, blocks that are known whole, rows of bytes. -/
namespace Go.Proofs.YtdfkoehcmgcoiaaGreatDoor
open Go.RowKit

/-- Of what was there nothing has turned but blocks in S. -/
structure Fr (S : Nat → Prop) (w w' : World) : Prop where
  os : w'.os = w.os
  tape : w'.tape = w.tape
  output : w'.output = w.output
  size : w.heap.size ≤ w'.heap.size
  block : ∀ k, k < w.heap.size → ¬ S k → w'.heap[k]? = w.heap[k]?

theorem Fr.refl (S : Nat → Prop) (w : World) : Fr S w w := ⟨rfl, rfl, rfl, Nat.le_refl _, fun _ _ _ => rfl⟩
theorem Fr.trans {S T : Nat → Prop} {a b c : World} (h : Fr S a b) (k : Fr T b c) (hT : ∀ x, x < a.heap.size → T x → S x) : Fr S a c :=
  ⟨k.os.trans h.os, k.tape.trans h.tape, k.output.trans h.output, Nat.le_trans h.size k.size, fun x hx hs =>
    (k.block x (Nat.lt_of_lt_of_le hx h.size) (fun ht => hs (hT x hx ht))).trans (h.block x hx hs)⟩
theorem Fr.mono {S T : Nat → Prop} {a b : World} (h : Fr S a b) (hT : ∀ x, x < a.heap.size → S x → T x) : Fr T a b :=
  ⟨h.os, h.tape, h.output, h.size, fun x hx ht => h.block x hx (fun hs => ht (hT x hx hs))⟩
theorem Fr.of_grown {w w' : World} {row : Option Nat} (h : w.grownBy w' row) : Fr (fun k => row = some k) w w' :=
  ⟨h.os, h.tape, h.output, h.size, fun k hk hs => h.block k hk (fun e => hs e.symm)⟩
theorem Fr.of_below {w w' : World} {B : Nat} (h : Below B w w') : Fr (fun k => B ≤ k) w w' :=
  ⟨h.os, h.tape, h.output, h.size, fun k _ hs => h.block k (by omega)⟩
theorem Fr.alloc {S : Nat → Prop} {a w : World} (h : Fr S a w) (o : Obj) : Fr S a (w.alloc o) :=
  h.trans (T := fun _ => False) ⟨rfl, rfl, rfl, by simp, fun k hk _ => Below.heap_alloc _ _ _ hk⟩ (fun _ _ h => h.elim)
theorem Fr.setCell {S : Nat → Prop} {a w : World} (h : Fr S a w) {p : Addr} (hp : p.block < a.heap.size → S p.block) (u : Value) : Fr S a (w.setCell p u) :=
  h.trans (T := fun k => k = p.block) ⟨rfl, rfl, rfl, by simp [World.setCell], fun k _ hk => Below.heap_setCell _ _ _ _ hk⟩ (fun x hx e => by subst e; exact hp hx)
theorem Fr.drew {S : Nat → Prop} {a w : World} (h : Fr S a w) : Fr S a w.drew := ⟨h.os, h.tape, h.output, h.size, h.block⟩
theorem Fr.drewN {S : Nat → Prop} {a w : World} (h : Fr S a w) (n : Nat) : Fr S a (w.drewN n) := ⟨h.os, h.tape, h.output, h.size, h.block⟩
theorem Fr.below {w w' : World} {S : Nat → Prop} (h : Fr S w w') (B : Nat) (hB : B ≤ w.heap.size) (hS : ∀ k, k < B → ¬ S k) : Below B w w' :=
  ⟨h.os, h.tape, h.output, h.size, fun k hk => h.block k (by omega) (hS k hk)⟩
theorem Fr.cell {S : Nat → Prop} {w w' : World} (h : Fr S w w') {p : Addr} (hp : p.block < w.heap.size) (hs : ¬ S p.block) : w'.cell? p = w.cell? p :=
  World.cell?_of_block (w := w) (h.block p.block hp hs)
theorem Fr.frozen {S : Nat → Prop} {w w' : World} (h : Fr S w w') {p : Addr} (hp : p.block < w.heap.size) (hs : ¬ S p.block) : w'.frozen? p = w.frozen? p :=
  World.frozen?_of_block (w := w) (h.block p.block hp hs)

/-- Block g is just these cells of type t, none frozen. -/
def Bk (w : World) (g : Nat) (t : TypeId) (cs : Array Value) : Prop := w.heap[g]? = some (.cells cs t (0, 0))
section
variable {w w' : World} {g : Nat} {t : TypeId} {cs : Array Value}
theorem Bk.lt (h : Bk w g t cs) : g < w.heap.size := by
  rcases Nat.lt_or_ge g w.heap.size with hlt | hge
  · exact hlt
  · unfold Bk at h; rw [Array.getElem?_eq_none hge] at h; cases h
theorem Bk.cell (h : Bk w g t cs) (i : Nat) : w.cell? ⟨g, i, none⟩ = cs[i]? := cell_of_row w g i cs t (0, 0) h
theorem Bk.frozen (h : Bk w g t cs) (i : Nat) : w.frozen? ⟨g, i, none⟩ = false := by
  unfold Bk at h; simp [World.frozen?, h]
theorem Bk.new (w : World) (t : TypeId) (cs : Array Value) : Bk (w.alloc (.cells cs t)) w.heap.size t cs := heap_alloc_new w _
theorem Bk.drew (h : Bk w g t cs) : Bk w.drew g t cs := h
theorem Bk.drewN (h : Bk w g t cs) (n : Nat) : Bk (w.drewN n) g t cs := h
theorem Bk.alloc (h : Bk w g t cs) (o : Obj) : Bk (w.alloc o) g t cs := (Below.heap_alloc w o g h.lt).trans h
theorem Bk.set (h : Bk w g t cs) (i : Nat) (u : Value) : Bk (w.setCell ⟨g, i, none⟩ u) g t (cs.setIfInBounds i u) := by
  unfold Bk at h ⊢
  simp [World.setCell, Array.getElem?_modify, h]
theorem Bk.far (h : Bk w g t cs) {p : Addr} (hp : g ≠ p.block) (u : Value) : Bk (w.setCell p u) g t cs := (Below.heap_setCell w p u g hp).trans h
theorem Bk.fr {S : Nat → Prop} (h : Bk w g t cs) (hb : Fr S w w') (hg : ¬ S g) : Bk w' g t cs := (hb.block g h.lt hg).trans h
theorem Bk.ne {g' : Nat} {t' : TypeId} {cs' : Array Value} (h : Bk w g t cs) (h' : Bk w g' t' cs') (hne : t ≠ t') : g ≠ g' := by
  rintro rfl
  unfold Bk at h h'
  rw [h] at h'
  injection h' with h'
  injection h' with _ ht
  exact hne ht
end

/-- A byte as a value. -/
def B8 (b : UInt8) : Value := .int .u8 b.toNat

/-- A row of bytes of the call's own. e: the type uint8. -/
def Own8 (w : World) (e : TypeId) (v : Value) (bs : List UInt8) : Prop := w.ownsRow 0 e 1 v bs.length (bs.map B8)

theorem Own8.nil (w : World) (e : TypeId) : Own8 w e (.slice none 0 0) [] := World.ownsRow_nil w 0 e 1
theorem Own8.lt {w : World} {e : TypeId} {v : Value} {bs : List UInt8} (h : Own8 w e v bs) {k : Nat} (hk : v.ownBlock = some k) : k < w.heap.size := (World.ownsRow.lt h k hk).2
theorem Own8.fr {S : Nat → Prop} {w w' : World} {e : TypeId} {v : Value} {bs : List UInt8} (h : Own8 w e v bs) (hb : Fr S w w') (hS : ∀ k, v.ownBlock = some k → ¬ S k) : Own8 w' e v bs := by
  refine ⟨h.1, ?_⟩
  rcases h.2 with hn | ⟨g, cap, cur, rfl, hb0, hgg, rest⟩
  · exact .inl hn
  · refine .inr ⟨g, cap, cur, rfl, hb0, ?_, rest⟩
    rw [hb.block g (Array.getElem?_eq_some_iff.1 hgg).1 (hS g rfl)]
    exact hgg
theorem Own8.ne {w : World} {e t : TypeId} {v : Value} {bs : List UInt8} {g : Nat} {cs : Array Value} (h : Own8 w e v bs) (hg : Bk w g t cs) (hne : e ≠ t) : v.ownBlock ≠ some g := by
  rcases h.2 with ⟨rfl, _⟩ | ⟨g', cap, cur, rfl, _, hh, _⟩
  · simp [Value.ownBlock]
  · intro he
    have : g' = g := by simpa [Value.ownBlock] using he
    subst this
    exact Bk.ne (t := e) hh hg hne rfl
/-- What it is: nil, or a slice at the head of a block. -/
theorem Own8.form {w : World} {e : TypeId} {v : Value} {bs : List UInt8} (h : Own8 w e v bs) : (v = .slice none 0 0 ∧ bs = []) ∨ ∃ g cap, v = .slice (some ⟨g, 0, none⟩) bs.length cap ∧ bs.length ≤ cap ∧ cap ≤ maxLen := by
  rcases h.2 with ⟨rfl, h0⟩ | ⟨g, cap, cur, rfl, _, _, h1, h2, _⟩
  · exact .inl ⟨rfl, List.eq_nil_of_length_eq_zero h0⟩
  · exact .inr ⟨g, cap, rfl, h1, h2⟩
theorem Own8.cell {w : World} {e : TypeId} {bs : List UInt8} {g n cap : Nat} (h : Own8 w e (.slice (some ⟨g, 0, none⟩) n cap) bs) (j : Nat) (hj : j < bs.length) : w.cell? ⟨g, j, none⟩ = some (.int .u8 bs[j].toNat) := by
  have := World.ownsRow.cells h (g := g) rfl j (B8 bs[j]) (by simp [hj])
  have hadd : (⟨g, 0, none⟩ : Addr).add j = ⟨g, j, none⟩ := by unfold Addr.add; split <;> simp_all
  rw [hadd] at this
  exact this

theorem Own8.fresh (w : World) (e : TypeId) (cur : Array Value) (cap : Nat) (hs : cur.size = cap) (hm : cap ≤ maxLen) : Own8 (w.alloc (.cells cur e)) e (.slice (some ⟨w.heap.size, 0, none⟩) 0 cap) [] :=
  World.ownsRow_made w cur cap (Nat.zero_le _) hm (by omega)

/-- Where a new value of a row may lie: at its old place, or in a new block. -/
def Moved (w : World) (v v' : Value) : Prop := v'.ownBlock = v.ownBlock ∨ ∃ k, v'.ownBlock = some k ∧ w.heap.size ≤ k
theorem Moved.refl (w : World) (v : Value) : Moved w v v := .inl rfl
theorem Moved.trans {w w1 : World} {v v1 v2 : Value} (h : Moved w v v1) (k : Moved w1 v1 v2) (hs : w.heap.size ≤ w1.heap.size) : Moved w v v2 := by
  rcases k with k | ⟨x, k, hx⟩
  · rcases h with h | ⟨y, h, hy⟩
    · exact .inl (k.trans h)
    · exact .inr ⟨y, k.trans h, hy⟩
  · exact .inr ⟨x, k, by omega⟩
theorem Moved.old {w : World} {v v' : Value} (h : Moved w v v') {x : Nat} (hx : x < w.heap.size) (hv : v'.ownBlock = some x) : v.ownBlock = some x := by
  rcases h with h | ⟨y, h, hy⟩
  · rw [← h]; exact hv
  · rw [h] at hv; injection hv with hv; omega

/-- What the append laws ask of the byte type e and the slice type t. -/
structure T8 (P : Program) (t e : TypeId) : Prop where
  sl : P.underlying t = some (.slice e)
  info : ∃ i, P.info? e = some i ∧ i.zero = some (.int .u8 0) ∧ i.size = 1 ∧ i.bytes = 1

/-- A slice value that reads as bytes. -/
def Rd8 (w : World) (A : Option Addr) (xs : List UInt8) : Prop :=
  0 < xs.length → ∃ ad, A = some ad ∧ ad.spot = none ∧ ∀ j (h : j < xs.length), w.cell? ⟨ad.block, ad.off + j, none⟩ = some (.int .u8 xs[j].toNat)

theorem add_at (b o j : Nat) : (⟨b, o, none⟩ : Addr).add j = ⟨b, o + j, none⟩ := by unfold Addr.add; split <;> simp_all
theorem B8_one (xs : List UInt8) : ∀ u ∈ xs.map B8, u.oneCell' = true := by
  intro u hu
  obtain ⟨b, _, rfl⟩ := List.mem_map.1 hu
  rfl

theorem Rd8.nil (w : World) (A : Option Addr) : Rd8 w A [] := fun h => by simp at h
theorem Rd8.fr {S : Nat → Prop} {w w' : World} {A : Option Addr} {xs : List UInt8} (h : Rd8 w A xs) (hb : Fr S w w') (hS : ∀ ad, A = some ad → 0 < xs.length → ¬ S ad.block) : Rd8 w' A xs := fun h0 => by
  obtain ⟨ad, e, hsp, hc⟩ := h h0
  refine ⟨ad, e, hsp, fun j hj => ?_⟩
  have h1 := hc j hj
  rw [← h1]
  exact hb.cell (p := ⟨ad.block, ad.off + j, none⟩) (World.block_lt_of_cell? w _ h1) (hS ad e h0)
theorem Own8.rd {w : World} {e : TypeId} {A : Option Addr} {n c : Nat} {bs : List UInt8} (h : Own8 w e (.slice A n c) bs) : Rd8 w A bs := fun h0 => by
  rcases h.2 with ⟨_, h0'⟩ | ⟨g, cap, cur, hv, _⟩
  · omega
  · injection hv with hA hn hc
    subst hA hn hc
    exact ⟨_, rfl, rfl, fun j hj => by simpa using Own8.cell h j hj⟩

section
variable {P : Program} (w : World)

theorem run_append8 {t e : TypeId} (hT : T8 P t e) (ty : TypeId) {v : Value} {bs : List UInt8} (hown : Own8 w e v bs) (A : Option Addr) (c : Nat) (xs : List UInt8) (hr : Rd8 w A xs) (hlen : bs.length + xs.length ≤ 140737488355328) :
    ∃ A' c' w', (Builtin.append_ #[t, t] ty #[v, .slice A xs.length c]).run P w = .ok (.slice A' (bs.length + xs.length) c') w' ∧ Own8 w' e (.slice A' (bs.length + xs.length) c') (bs ++ xs) ∧ Fr (fun k => v.ownBlock = some k) w w' ∧
      Moved w v (.slice A' (bs.length + xs.length) c') ∧ (0 < bs.length + xs.length → ∃ g, A' = some ⟨g, 0, none⟩) := by
  obtain ⟨i, hi, hz, hsz, hby⟩ := hT.info
  have fin : ∀ v' w', Own8 w' e v' (bs ++ xs) → Moved w v v' → ∃ A' c', v' = .slice A' (bs.length + xs.length) c' ∧ (0 < bs.length + xs.length → ∃ g, A' = some ⟨g, 0, none⟩) := by
    intro v' w' ho _
    rcases ho.form with ⟨rfl, h0⟩ | ⟨g, cap, rfl, _, _⟩
    · have : bs.length + xs.length = 0 := by simpa using congrArg List.length h0
      rw [this]
      exact ⟨none, 0, rfl, fun h => by omega⟩
    · exact ⟨some ⟨g, 0, none⟩, cap, by simp, fun _ => ⟨g, rfl⟩⟩
  rcases A with _ | ad
  · have h0 : xs = [] := by
      rcases Nat.eq_zero_or_pos xs.length with h0 | h0
      · exact List.eq_nil_of_length_eq_zero h0
      · obtain ⟨ad, h, _⟩ := hr h0; cases h
    subst h0
    have hrun : (Builtin.append_ #[t, t] ty #[v, .slice none ([] : List UInt8).length c]).run P w = .ok v w := by
      rcases hown.2 with ⟨rfl, h0'⟩ | ⟨g, cap, cur, rfl, _, _, hnc, _⟩
      · simp [Builtin.append_, run_underlying hT.sl, sizeOf, typeInfo, hi, Builtin.lenOf, Builtin.firstCells]
      · simp [Builtin.append_, run_underlying hT.sl, sizeOf, typeInfo, hi, Builtin.lenOf, Builtin.firstCells, hnc, storeCells]
    obtain ⟨A', c', rfl, hg⟩ := fin v w (by simpa using hown) (Moved.refl _ _)
    exact ⟨A', c', w, hrun, by simpa using hown, Fr.refl _ _, Moved.refl _ _, hg⟩
  · have hnews : ∀ j u, (xs.map B8)[j]? = some u → w.cell? (ad.add j) = some u := by
      intro j u hu
      have hj : j < xs.length := by
        have := (List.getElem?_eq_some_iff.1 hu).1
        simpa using this
      obtain ⟨ad', h, hsp, hc⟩ := hr (by omega)
      injection h with h
      subst h
      obtain ⟨b, o, sp⟩ := ad
      cases hsp
      rw [add_at, hc j hj]
      simp [hj] at hu
      rw [← hu]; rfl
    obtain ⟨v', w', h1, h2, h3, _, h5⟩ := run_append_own_at (P := P) w 0 t ty e i (.int .u8 0) 1 1 hT.sl hi hz hsz hby rfl (by decide) v bs.length (bs.map B8) hown ad xs.length c (xs.map B8) (by simp)
      hnews (B8_one xs) (by unfold maxLen; omega) (by omega) (Nat.zero_le _)
    have ho : Own8 w' e v' (bs ++ xs) := by unfold Own8; simpa using h2
    have hm : Moved w v v' := h5.imp id (fun h => ⟨_, h, Nat.le_refl _⟩)
    obtain ⟨A', c', rfl, hg⟩ := fin v' w' ho hm
    exact ⟨A', c', w', h1, ho, Fr.of_grown h3, hm, hg⟩

/-- append(s, x...) onto a row of bytes of the call's own. -/
theorem wpList_append8s {ops : Array Oper} {rest : List Oper} {o : Oper} {a : Act} {Q : Exit → Act → World → Prop} (hgd : o.guard = none) (s x : Operand) {t e : TypeId} (hT : T8 P t e)
    (ho : o.op = .call { callee := .builtin .append, args := #[s, x], argTypes := #[t, t] })
    (v : Value) (bs : List UInt8) (hs : a.eval s = v) (hown : Own8 w e v bs) (A : Option Addr) (m c : Nat) (xs : List UInt8) (hx : a.eval x = .slice A m c) (hm : xs.length = m) (hr : Rd8 w A xs) (hlen : bs.length + xs.length ≤ 140737488355328)
    (h : ∀ A' c' w', Own8 w' e (.slice A' (bs.length + xs.length) c') (bs ++ xs) → Fr (fun k => v.ownBlock = some k) w w' → Moved w v (.slice A' (bs.length + xs.length) c') → wpList P ops Q rest (a.put o.dst (.slice A' (bs.length + xs.length) c')) w') :
    wpList P ops Q (o :: rest) a w := by
  refine wpList_plain hgd fun K hK => ?_
  subst hm
  obtain ⟨A', c', w', hr, h2, h3, h4, _⟩ := run_append8 (P := P) w hT o.type hown A c xs hr hlen
  unfold Oper.wp execOp
  simp only [ho, resolve, invoke, builtin, Sem.run_bind, Sem.run_pure, Result.andThen_ok, List.map_toArray, List.map_cons, List.map_nil, hs, hx, hr]
  exact hK _ _ (h A' c' w' h2 h3 h4)

/-- append(s, b): the byte lies in a new block of its own. -/
theorem wpList_append8 {ops : Array Oper} {rest : List Oper} {o : Oper} {a : Act} {Q : Exit → Act → World → Prop} (hgd : o.guard = none) (s x : Operand) {t e : TypeId} (hT : T8 P t e)
    (ho : o.op = .call { callee := .builtin .append, args := #[s, x], argTypes := #[t, t] })
    (v : Value) (bs : List UInt8) (hs : a.eval s = v) (n : Int) (b : UInt8) (hn : n = b.toNat) (hown : Own8 w e v bs) (hx : a.eval x = .slice (some ⟨w.heap.size, 0, none⟩) 1 1) (hlen : bs.length + 1 ≤ 140737488355328)
    (h : ∀ g' c' w', Own8 w' e (.slice (some ⟨g', 0, none⟩) (bs.length + 1) c') (bs ++ [b]) → Fr (fun k => v.ownBlock = some k) w w' → Moved w v (.slice (some ⟨g', 0, none⟩) (bs.length + 1) c') → wpList P ops Q rest (a.put o.dst (.slice (some ⟨g', 0, none⟩) (bs.length + 1) c')) w') :
    wpList P ops Q (o :: rest) a (w.alloc (.cells #[.int .u8 n] e)) := by
  refine wpList_plain hgd fun K hK => ?_
  subst hn
  have hf : Fr (fun _ => False) w (w.alloc (.cells #[.int .u8 b.toNat] e)) := (Fr.refl _ _).alloc _
  obtain ⟨A', c', w', hr, h2, h3, h4, hg⟩ := run_append8 (P := P) (w.alloc (.cells #[.int .u8 b.toNat] e)) hT o.type (hown.fr hf (fun _ _ h => h)) (some ⟨w.heap.size, 0, none⟩) 1 [b]
    (fun _ => ⟨_, rfl, rfl, fun j hj => by
      have : j = 0 := by simpa using hj
      subst this
      exact (Bk.new w e #[.int .u8 b.toNat]).cell 0⟩) hlen
  obtain ⟨g, rfl⟩ := hg (by simp)
  unfold Oper.wp execOp
  simp only [List.length_singleton] at hr h2 h4
  simp only [ho, resolve, invoke, builtin, Sem.run_bind, Sem.run_pure, Result.andThen_ok, List.map_toArray, List.map_cons, List.map_nil, hs, hx, hr]
  refine hK _ _ (h g c' w' h2 ((hf.mono (fun _ _ h => h.elim)).trans h3 (fun _ _ h => h)) (h4.imp id (fun ⟨k, h, hk⟩ => ⟨k, h, by simp at hk; omega⟩)))
end

/-- The row v is new since w, and nothing that was there has turned. -/
def Fresh (w w' : World) (v : Value) : Prop := Fr (fun _ => False) w w' ∧ ∀ k, v.ownBlock = some k → w.heap.size ≤ k
theorem Fresh.step {w w1 w2 : World} {v1 v2 : Value} (h : Fresh w w1 v1) (hf : Fr (fun k => v1.ownBlock = some k) w1 w2) (hm : Moved w1 v1 v2) : Fresh w w2 v2 :=
  ⟨h.1.trans hf (fun x hx e => by have := h.2 x e; omega), fun k hk => by
    rcases hm with e | ⟨x, e, hx⟩
    · exact h.2 k (e.symm.trans hk)
    · have := h.1.size
      rw [e] at hk; injection hk with hk; omega⟩
theorem Fresh.quiet {w w1 w2 : World} {v : Value} (h : Fresh w w1 v) (hf : Fr (fun _ => False) w1 w2) : Fresh w w2 v := ⟨h.1.trans hf (fun _ _ h => h), h.2⟩
theorem Fresh.new (w : World) (o : Obj) (n c : Nat) : Fresh w (w.alloc o) (.slice (some ⟨w.heap.size, 0, none⟩) n c) :=
  ⟨(Fr.refl _ _).alloc _, fun k hk => by
    have : w.heap.size = k := by injection hk
    omega⟩
theorem Fresh.nil (w w' : World) (h : Fr (fun _ => False) w w') : Fresh w w' (.slice none 0 0) := ⟨h, fun k hk => by simp [Value.ownBlock] at hk⟩

theorem run_make8 {P : Program} {t e : TypeId} (hT : T8 P t e) (kl kc : IntKind) (l c : Int) (h0 : 0 ≤ l) (hlc : l ≤ c) (hb : c ≤ 140737488355328) (w : World) :
    ∃ cur : Array Value, cur.size = c.toNat ∧ (∀ i, i < c.toNat → cur[i]? = some (.int .u8 0)) ∧
      (Instr.makeSlice t (.int kl l) (.int kc c)).run P w = .ok (.slice (some ⟨w.heap.size, 0, none⟩) l.toNat c.toNat) (w.alloc (.cells cur e)) := by
  obtain ⟨i, hi, hz, hsz, hby⟩ := hT.info
  refine ⟨_, ?_, ?_, run_make (P := P) w t e i _ hT.sl hi hz kl kc l c h0 hlc (by rw [hby]; omega) (by omega)⟩
  · simp [madeCells, hsz]
  · intro j hj
    simp [madeCells, hsz, Value.cells, hj, Nat.mod_one]

end Go.Proofs.YtdfkoehcmgcoiaaGreatDoor

/- A table of answers as plain data: what Put, Look and Top make of it. -/
namespace Go.Proofs.YtdfkoehcmgcoiaaGreatDoor

/-! ### rising rows of ints -/
/-- Where a number stands, or would. -/
def posR (r : List Int) (s : Int) : Nat := r.countP (· < s)
def insS (r : List Int) (s : Int) : List Int := r.take (posR r s) ++ s :: r.drop (posR r s)
def cutR (r : List Int) (l : Int) : List Int := r.drop (posR r l)
def topR (r : List Int) : Int := r.getLast?.getD 0
abbrev Rise (r : List Int) : Prop := r.Pairwise (· < ·)

theorem posR_le (r : List Int) (s : Int) : posR r s ≤ r.length := List.countP_le_length
theorem posR_nil (s : Int) : posR [] s = 0 := rfl
theorem posR_cons {a : Int} {r : List Int} (h : Rise (a :: r)) (s : Int) : posR (a :: r) s = if a < s then posR r s + 1 else 0 := by
  unfold posR
  rw [List.countP_cons]
  by_cases hs : a < s
  · simp [hs]
  · simp only [hs, decide_false, Bool.false_eq_true, if_false, Nat.add_zero]
    rw [List.countP_eq_zero]
    intro x hx
    have := (List.pairwise_cons.1 h).1 x hx
    simp; omega
theorem mem_take_pos : ∀ {r : List Int} {s : Int}, Rise r → ∀ x, x ∈ r.take (posR r s) ↔ x ∈ r ∧ x < s
  | [], s, _, x => by simp
  | a :: r, s, h, x => by
    have h2 := (List.pairwise_cons.1 h).2
    rw [posR_cons h]
    by_cases hs : a < s
    · rw [if_pos hs, List.take_succ_cons, List.mem_cons, List.mem_cons, mem_take_pos h2]
      constructor
      · rintro (rfl | ⟨h3, h4⟩)
        · exact ⟨.inl rfl, hs⟩
        · exact ⟨.inr h3, h4⟩
      · rintro ⟨rfl | h3, h4⟩
        · exact .inl rfl
        · exact .inr ⟨h3, h4⟩
    · rw [if_neg hs]
      simp only [List.take_zero, List.not_mem_nil, false_iff]
      rintro ⟨h3, h4⟩
      rcases List.mem_cons.1 h3 with rfl | h3
      · exact hs h4
      · have := (List.pairwise_cons.1 h).1 x h3
        omega
theorem mem_drop_pos : ∀ {r : List Int} {s : Int}, Rise r → ∀ x, x ∈ r.drop (posR r s) ↔ x ∈ r ∧ s ≤ x
  | [], s, _, x => by simp
  | a :: r, s, h, x => by
    have h2 := (List.pairwise_cons.1 h).2
    rw [posR_cons h]
    by_cases hs : a < s
    · rw [if_pos hs, List.drop_succ_cons, mem_drop_pos h2, List.mem_cons]
      constructor
      · rintro ⟨h3, h4⟩; exact ⟨.inr h3, h4⟩
      · rintro ⟨rfl | h3, h4⟩
        · omega
        · exact ⟨h3, h4⟩
    · rw [if_neg hs, List.drop_zero]
      constructor
      · intro h3
        refine ⟨h3, ?_⟩
        rcases List.mem_cons.1 h3 with rfl | h3
        · omega
        · have := (List.pairwise_cons.1 h).1 x h3
          omega
      · exact fun h3 => h3.1
theorem mem_cut {r : List Int} (h : Rise r) (l x : Int) : x ∈ cutR r l ↔ x ∈ r ∧ l ≤ x := mem_drop_pos h x
theorem mem_ins {r : List Int} (s x : Int) : x ∈ insS r s ↔ x = s ∨ x ∈ r := by
  unfold insS
  rw [List.mem_append, List.mem_cons]
  constructor
  · rintro (h | h | h)
    · exact .inr (List.mem_of_mem_take h)
    · exact .inl h
    · exact .inr (List.mem_of_mem_drop h)
  · rintro (h | h)
    · exact .inr (.inl h)
    · rw [← List.take_append_drop (posR r s) r, List.mem_append] at h
      exact h.imp id .inr
theorem ins_rise {r : List Int} {s : Int} (h : Rise r) (hs : s ∉ r) : Rise (insS r s) := by
  unfold insS Rise
  rw [List.pairwise_append]
  refine ⟨h.sublist (List.take_sublist _ _), List.pairwise_cons.2 ⟨fun x hx => ?_, h.sublist (List.drop_sublist _ _)⟩, fun x hx y hy => ?_⟩
  · have h1 := (mem_drop_pos h x).1 hx
    have : x ≠ s := fun e => hs (e ▸ h1.1)
    omega
  · have h1 := (mem_take_pos h x).1 hx
    rcases List.mem_cons.1 hy with rfl | hy
    · exact h1.2
    · have h2 := (mem_drop_pos h y).1 hy
      omega
theorem ins_len (r : List Int) (s : Int) : (insS r s).length = r.length + 1 := by
  have := posR_le r s
  unfold insS; simp; omega
theorem cut_rise {r : List Int} (h : Rise r) (l : Int) : Rise (cutR r l) := h.sublist (List.drop_sublist _ _)
theorem rise_ext : ∀ {a b : List Int}, Rise a → Rise b → (∀ x, x ∈ a ↔ x ∈ b) → a = b
  | [], [], _, _, _ => rfl
  | [], y :: b, _, _, h => by have := (h y).2 (by simp); simp at this
  | x :: a, [], _, _, h => by have := (h x).1 (by simp); simp at this
  | x :: a, y :: b, h1, h2, h => by
    obtain ⟨p1, p2⟩ := List.pairwise_cons.1 h1
    obtain ⟨q1, q2⟩ := List.pairwise_cons.1 h2
    have e : x = y := by
      rcases List.mem_cons.1 ((h x).1 (by simp)) with e | e
      · exact e
      · rcases List.mem_cons.1 ((h y).2 (by simp)) with e' | e'
        · exact e'.symm
        · have := p1 y e'
          have := q1 x e
          omega
    subst e
    congr 1
    refine rise_ext p2 q2 fun z => ⟨fun hz => ?_, fun hz => ?_⟩
    · rcases List.mem_cons.1 ((h z).1 (List.mem_cons_of_mem _ hz)) with e | e
      · have := p1 z hz; omega
      · exact e
    · rcases List.mem_cons.1 ((h z).2 (List.mem_cons_of_mem _ hz)) with e | e
      · have := q1 z hz; omega
      · exact e
theorem topR_nil : topR [] = 0 := rfl
theorem topR_mem {r : List Int} (h : r ≠ []) : topR r ∈ r := by
  unfold topR
  rw [List.getLast?_eq_some_getLast h]
  exact List.getLast_mem h
theorem le_topR : ∀ {r : List Int}, Rise r → ∀ x ∈ r, x ≤ topR r
  | [], _, x, hx => by simp at hx
  | [a], _, x, hx => by
    have : x = a := by simpa using hx
    subst this; simp [topR]
  | a :: b :: r, h, x, hx => by
    have e : topR (a :: b :: r) = topR (b :: r) := by unfold topR; rw [List.getLast?_cons_cons]
    rw [e]
    have h2 := (List.pairwise_cons.1 h).2
    rcases List.mem_cons.1 hx with rfl | hx
    · have h3 := (List.pairwise_cons.1 h).1 (topR (b :: r)) (topR_mem (by simp))
      omega
    · exact le_topR h2 x hx
theorem topR_of {r : List Int} (h : Rise r) {x : Int} (hx : x ∈ r) (hm : ∀ y ∈ r, y ≤ x) : topR r = x := by
  have h1 := le_topR h x hx
  have h2 := hm _ (topR_mem (List.ne_nil_of_mem hx))
  omega
theorem topR_at {r : List Int} (h : r ≠ []) : r[r.length - 1]? = some (topR r) := by
  unfold topR
  rw [← List.getLast?_eq_getElem?, List.getLast?_eq_some_getLast h]; rfl
/-- So many fit between two. -/
theorem rise_len : ∀ {r : List Int} {a b : Int}, Rise r → a ≤ b → (∀ x ∈ r, a < x ∧ x ≤ b) → (r.length : Int) ≤ b - a
  | [], a, b, _, hab, _ => by simp; omega
  | x :: r, a, b, h, hab, hx => by
    obtain ⟨p1, p2⟩ := List.pairwise_cons.1 h
    have h0 := hx x (by simp)
    have := rise_len (a := x) (b := b) p2 (by omega) (fun y hy => ⟨p1 y hy, (hx y (by simp [hy])).2⟩)
    simp; omega
theorem head_le {r : List Int} (h : Rise r) {x y : Int} (hx : r[0]? = some x) (hy : y ∈ r) : x ≤ y := by
  cases r with
  | nil => simp at hx
  | cons a r =>
    have : a = x := by simpa using hx
    subst this
    rcases List.mem_cons.1 hy with rfl | hy
    · omega
    · have := (List.pairwise_cons.1 h).1 y hy; omega

/-! ### a table -/
structure DT where
  win : Int
  cs : List Int
  row : Int → List Int
  ans : Int → Int → List UInt8
/-- May a request be? -/
def mayR (c s : Int) : Bool := decide (0 ≤ c) && decide (c ≤ 1048576) && decide (1 ≤ s) && decide (s ≤ 1099511627776)
namespace DT
variable (t : DT)
def top (c : Int) : Int := topR (t.row c)
def least (c : Int) : Int := t.top c - t.win + 1
def kind (c s : Int) : Int := if mayR c s = false then 3 else if s < t.least c then 2 else if s ∈ t.row c then 1 else 0
/-- A request put at its place. -/
def keep (c s : Int) (a : List UInt8) : DT :=
  { win := t.win, cs := if c ∈ t.cs then t.cs else insS t.cs c, row := fun x => if x = c then insS (t.row c) s else t.row x, ans := fun x y => if x = c ∧ y = s then a else t.ans x y }
/-- What stands ahead of a window dropped. -/
def forget (c : Int) : DT := { t with row := fun x => if x = c then cutR (t.row c) (t.least c) else t.row x }
def put (c s : Int) (a : List UInt8) : DT := if t.kind c s = 0 then (t.keep c s a).forget c else t
def n : Nat := (t.cs.map fun c => (t.row c).length).sum
/-- What holds of a table that is (but for its windows). -/
structure ok0 : Prop where
  w1 : 1 ≤ t.win
  w2 : t.win ≤ 4096
  rise : ∀ c, Rise (t.row c)
  rng : ∀ c, ∀ s ∈ t.row c, 1 ≤ s ∧ s ≤ 1099511627776
  cl : ∀ c, c ∈ t.cs ↔ t.row c ≠ []
  csr : Rise t.cs
  crng : ∀ c ∈ t.cs, 0 ≤ c ∧ c ≤ 1048576
structure ok : Prop extends ok0 t where
  inw : ∀ c, ∀ s ∈ t.row c, t.top c - t.win < s
variable {t}
theorem ok0.out (h : t.ok0) {c : Int} (hc : c < 0 ∨ 1048576 < c) : t.row c = [] := by
  cases hr : t.row c with
  | nil => rfl
  | cons x r =>
    have := h.crng c ((h.cl c).2 (by rw [hr]; simp))
    omega
theorem ok0.top_rng (h : t.ok0) (c : Int) : 0 ≤ t.top c ∧ t.top c ≤ 1099511627776 := by
  unfold top
  by_cases hr : t.row c = []
  · rw [hr]; simp [topR]
  · have := h.rng c _ (topR_mem hr); omega
theorem ok.len (h : t.ok) (c : Int) : ((t.row c).length : Int) ≤ t.win := by
  have h1 := h.w1
  have := rise_len (r := t.row c) (a := t.top c - t.win) (b := t.top c) (h.rise c) (by omega) (fun x hx => ⟨h.inw c x hx, le_topR (h.rise c) x hx⟩)
  omega
theorem mayR_iff {c s : Int} : mayR c s = true ↔ 0 ≤ c ∧ c ≤ 1048576 ∧ 1 ≤ s ∧ s ≤ 1099511627776 := by
  unfold mayR; simp [Bool.and_eq_true]; omega
theorem kind_new {c s : Int} : t.kind c s = 0 ↔ mayR c s = true ∧ t.least c ≤ s ∧ s ∉ t.row c := by
  unfold kind
  by_cases h1 : mayR c s = false
  · simp [h1]
  · have h1' : mayR c s = true := by simpa using h1
    simp only [h1', Bool.true_eq_false, if_false, true_and]
    by_cases h2 : s < t.least c
    · simp [h2]; omega
    · simp only [h2, if_false]
      by_cases h3 : s ∈ t.row c
      · simp [h3]
      · simp [h3]; omega
theorem ok0.keep (h : t.ok0) {c s : Int} (a : List UInt8) (hm : mayR c s = true) (hs : s ∉ t.row c) : (t.keep c s a).ok0 where
  w1 := h.w1
  w2 := h.w2
  rise x := by
    show Rise (if x = c then _ else _)
    split
    · exact ins_rise (h.rise c) hs
    · exact h.rise x
  rng x y hy := by
    replace hy : y ∈ (if x = c then insS (t.row c) s else t.row x) := hy
    have := mayR_iff.1 hm
    split at hy
    · rcases (mem_ins s y).1 hy with rfl | hy
      · omega
      · exact h.rng c y hy
    · exact h.rng x y hy
  cl x := by
    show x ∈ (if c ∈ t.cs then t.cs else insS t.cs c) ↔ (if x = c then insS (t.row c) s else t.row x) ≠ []
    by_cases hx : x = c
    · subst hx
      rw [if_pos rfl]
      have : insS (t.row x) s ≠ [] := List.ne_nil_of_mem ((mem_ins s s).2 (.inl rfl))
      refine ⟨fun _ => this, fun _ => ?_⟩
      split
      · assumption
      · exact (mem_ins _ _).2 (.inl rfl)
    · rw [if_neg hx, ← h.cl x]
      split
      · exact Iff.rfl
      · rw [mem_ins]; simp [hx]
  csr := by
    show Rise (if c ∈ t.cs then t.cs else insS t.cs c)
    split
    · exact h.csr
    · rename_i hn; exact ins_rise h.csr hn
  crng x hx := by
    replace hx : x ∈ (if c ∈ t.cs then t.cs else insS t.cs c) := hx
    have := mayR_iff.1 hm
    split at hx
    · exact h.crng x hx
    · rcases (mem_ins _ _).1 hx with rfl | hx
      · omega
      · exact h.crng x hx
theorem keep_top (h : t.ok0) {c s : Int} (a : List UInt8) (hm : mayR c s = true) (hs : s ∉ t.row c) : (t.keep c s a).top c = max (t.top c) s := by
  have hms := mayR_iff.1 hm
  have e : (t.keep c s a).top c = topR (insS (t.row c) s) := by unfold top DT.keep; simp
  rw [e]
  have hr := ins_rise (h.rise c) hs
  by_cases h0 : t.row c = []
  · unfold top; rw [h0]
    simp [insS, posR, topR]; omega
  · refine topR_of hr ((mem_ins _ _).2 ?_) fun y hy => ?_
    · by_cases hx : t.top c < s
      · exact .inl (by omega)
      · refine .inr ?_
        rw [show max (t.top c) s = t.top c by omega]
        exact topR_mem h0
    · rcases (mem_ins _ _).1 hy with rfl | hy
      · omega
      · have := le_topR (h.rise c) y hy
        unfold top; omega
theorem keep_top' {c s x : Int} (a : List UInt8) (hx : x ≠ c) : (t.keep c s a).top x = t.top x := by unfold top DT.keep; simp [hx]
theorem ok0.forget_top (h : t.ok0) (c x : Int) : (t.forget c).top x = t.top x := by
  by_cases hx : x = c
  · subst hx
    unfold top DT.forget
    simp only [if_true]
    by_cases h0 : t.row x = []
    · rw [h0]; rfl
    · have hw := h.w1
      refine topR_of (cut_rise (h.rise x) _) ((mem_cut (h.rise x) _ _).2 ⟨topR_mem h0, ?_⟩) fun y hy => le_topR (h.rise x) y ((mem_cut (h.rise x) _ _).1 hy).1
      unfold least top; omega
  · unfold top DT.forget; simp [hx]
theorem ok0.forget (h : t.ok0) (c : Int) : (t.forget c).ok0 where
  w1 := h.w1
  w2 := h.w2
  rise x := by
    show Rise (if x = c then _ else _)
    split
    · exact cut_rise (h.rise c) _
    · exact h.rise x
  rng x y hy := by
    replace hy : y ∈ (if x = c then cutR (t.row c) (t.least c) else t.row x) := hy
    split at hy
    · exact h.rng c y ((mem_cut (h.rise c) _ _).1 hy).1
    · exact h.rng x y hy
  cl x := by
    show x ∈ t.cs ↔ (if x = c then cutR (t.row c) (t.least c) else t.row x) ≠ []
    rw [h.cl x]
    by_cases hx : x = c
    · subst hx
      rw [if_pos rfl]
      have hw := h.w1
      refine ⟨fun h0 => List.ne_nil_of_mem ((mem_cut (h.rise x) _ _).2 ⟨topR_mem h0, ?_⟩), fun h0 e => h0 (by rw [e]; rfl)⟩
      unfold least top; omega
    · rw [if_neg hx]
  csr := h.csr
  crng := h.crng
theorem ok.put (h : t.ok) (c s : Int) (a : List UInt8) : (t.put c s a).ok := by
  unfold DT.put
  by_cases hk : t.kind c s = 0
  · rw [if_pos hk]
    obtain ⟨h1, h2, h3⟩ := kind_new.1 hk
    have hk0 := h.took0.keep a h1 h3
    refine ⟨hk0.forget c, fun x y hy => ?_⟩
    rw [hk0.forget_top]
    by_cases hx : x = c
    · subst hx
      replace hy : y ∈ cutR ((t.keep x s a).row x) ((t.keep x s a).least x) := by
        unfold DT.forget at hy; simpa using hy
      have := ((mem_cut (hk0.rise x) _ _).1 hy).2
      unfold least at this
      show _ - ((t.keep x s a).forget x).win < y
      have e : ((t.keep x s a).forget x).win = (t.keep x s a).win := rfl
      omega
    · rw [keep_top' a hx]
      replace hy : y ∈ t.row x := by unfold DT.forget DT.keep at hy; simpa [hx] using hy
      exact h.inw x y hy
  · rw [if_neg hk]; exact h
theorem put_row_ne {c s x : Int} (a : List UInt8) (hx : x ≠ c) : (t.put c s a).row x = t.row x := by
  unfold DT.put DT.forget DT.keep
  split <;> simp [hx]
theorem put_ans_ne {c s x : Int} (a : List UInt8) (hx : x ≠ c) (y : Int) : (t.put c s a).ans x y = t.ans x y := by
  unfold DT.put DT.forget DT.keep
  split <;> simp [hx]
theorem put_win (c s : Int) (a : List UInt8) : (t.put c s a).win = t.win := by unfold DT.put; split <;> rfl
theorem put_top (h : t.ok) {c s : Int} (a : List UInt8) (hk : t.kind c s = 0) : (t.put c s a).top c = max (t.top c) s := by
  obtain ⟨h1, h2, h3⟩ := kind_new.1 hk
  unfold DT.put
  rw [if_pos hk, (h.took0.keep a h1 h3).forget_top, keep_top h.took0 a h1 h3]
theorem put_mem (h : t.ok) {c s : Int} (a : List UInt8) (hk : t.kind c s = 0) (y : Int) : y ∈ (t.put c s a).row c ↔ (y = s ∨ y ∈ t.row c) ∧ max (t.top c) s - t.win < y := by
  obtain ⟨h1, h2, h3⟩ := kind_new.1 hk
  have e : (t.put c s a).row c = cutR (insS (t.row c) s) ((t.keep c s a).least c) := by
    unfold DT.put; rw [if_pos hk]; unfold DT.forget DT.keep; simp
  rw [e, mem_cut (ins_rise (h.rise c) h3), mem_ins]
  unfold least
  rw [keep_top h.took0 a h1 h3]
  have : (t.keep c s a).win = t.win := rfl
  rw [this]
  refine and_congr Iff.rfl ⟨fun _ => by omega, fun _ => by omega⟩
end DT
/-- A new one. -/
def newT (win : Int) : DT := ⟨win, [], fun _ => [], fun _ _ => []⟩
theorem newT_ok {win : Int} (h1 : 1 ≤ win) (h2 : win ≤ 4096) : (newT win).ok :=
  ⟨⟨h1, h2, fun _ => List.Pairwise.nil, fun _ _ h => by simp [newT] at h, fun _ => by simp [newT], List.Pairwise.nil, fun _ h => by simp [newT] at h⟩, fun _ _ h => by simp [newT] at h⟩
end Go.Proofs.YtdfkoehcmgcoiaaGreatDoor

/- Tables of answers: how many they hold; windows of sums. -/
namespace Go.Proofs.YtdfkoehcmgcoiaaGreatDoor

def sumL (f : Int → Nat) (l : List Int) : Nat := (l.map f).sum
theorem sumL_cons (f : Int → Nat) (a : Int) (l : List Int) : sumL f (a :: l) = f a + sumL f l := by simp [sumL]
theorem sumL_same {f f' : Int → Nat} : ∀ {l : List Int}, (∀ x ∈ l, f' x = f x) → sumL f' l = sumL f l
  | [], _ => rfl
  | a :: l, h => by rw [sumL_cons, sumL_cons, h a (by simp), sumL_same (fun x hx => h x (by simp [hx]))]
theorem sumL_one {f f' : Int → Nat} {c : Int} : ∀ {l : List Int}, l.Pairwise (· < ·) → c ∈ l → (∀ x, x ≠ c → f' x = f x) → sumL f' l + f c = sumL f l + f' c
  | [], _, h, _ => by simp at h
  | a :: l, hp, h, hf => by
    obtain ⟨p1, p2⟩ := List.pairwise_cons.1 hp
    rw [sumL_cons, sumL_cons]
    by_cases ha : a = c
    · subst ha
      rw [sumL_same (f := f) (f' := f') (fun x hx => hf x (fun e => by have := p1 x hx; omega))]
      omega
    · have := sumL_one p2 (by rcases List.mem_cons.1 h with e | e; exact absurd e.symm ha; exact e) hf
      rw [hf a ha]; omega
theorem sumL_append (f : Int → Nat) (a b : List Int) : sumL f (a ++ b) = sumL f a + sumL f b := by simp [sumL]
theorem sumL_ins (f : Int → Nat) (l : List Int) (c : Int) : sumL f (insS l c) = sumL f l + f c := by
  unfold insS
  rw [sumL_append, sumL_cons]
  have := congrArg (sumL f) (List.take_append_drop (posR l c) l)
  rw [sumL_append] at this
  omega
theorem sumL_le {f : Int → Nat} {k : Nat} : ∀ {l : List Int}, (∀ x ∈ l, f x ≤ k) → sumL f l ≤ l.length * k
  | [], _ => by simp [sumL]
  | a :: l, h => by
    have h1 := sumL_le (l := l) (fun x hx => h x (by simp [hx]))
    have h2 := h a (by simp)
    rw [sumL_cons, List.length_cons, Nat.add_mul]; omega
theorem le_sumL (f : Int → Nat) : ∀ {l : List Int} {x : Int}, x ∈ l → f x ≤ sumL f l
  | [], _, h => by simp at h
  | a :: l, x, h => by
    rw [sumL_cons]
    rcases List.mem_cons.1 h with rfl | h
    · omega
    · have := le_sumL f h; omega

namespace DT
variable {t : DT}
theorem n_eq : t.n = sumL (fun c => (t.row c).length) t.cs := rfl
theorem ok0.cs_len (h : t.ok0) : t.cs.length ≤ 1048577 := by
  have := rise_len (r := t.cs) (a := -1) (b := 1048576) h.csr (by omega) (fun x hx => by have := h.crng x hx; omega)
  omega
theorem ok.n_le (h : t.ok) : t.n ≤ 4294971392 := by
  have h1 := h.cs_len
  have h2 := sumL_le (l := t.cs) (f := fun c => (t.row c).length) (k := 4096) (fun x _ => by have := h.len x; have := h.w2; show (t.row x).length ≤ 4096; omega)
  rw [← n_eq] at h2
  have : t.cs.length * 4096 ≤ 1048577 * 4096 := Nat.mul_le_mul_right _ h1
  omega
theorem keep_n (h : t.ok0) {c s : Int} (a : List UInt8) : (t.keep c s a).n = t.n + 1 := by
  rw [n_eq, n_eq]
  have hcs : (t.keep c s a).cs = if c ∈ t.cs then t.cs else insS t.cs c := rfl
  have hne : ∀ x, x ≠ c → ((t.keep c s a).row x).length = (t.row x).length := fun x hx => by unfold DT.keep; simp [hx]
  have hc : ((t.keep c s a).row c).length = (t.row c).length + 1 := by unfold DT.keep; simp [ins_len]
  rw [hcs]
  by_cases hm : c ∈ t.cs
  · rw [if_pos hm]
    have := sumL_one (f := fun c => (t.row c).length) (f' := fun x => ((t.keep c s a).row x).length) h.csr hm hne
    simp only [hc] at this
    omega
  · rw [if_neg hm, sumL_ins]
    have h0 : t.row c = [] := by
      cases hr : t.row c with
      | nil => rfl
      | cons x r => exact absurd ((h.cl c).2 (by rw [hr]; simp)) hm
    have := sumL_same (l := t.cs) (f := fun c => (t.row c).length) (f' := fun x => ((t.keep c s a).row x).length) (fun x hx => hne x (fun e => hm (e ▸ hx)))
    rw [this]
    simp only [hc, h0, List.length_nil]
theorem keep_cs (h : t.ok0) {c s : Int} (a : List UInt8) : (t.keep c s a).cs.length = if t.row c = [] then t.cs.length + 1 else t.cs.length := by
  have hcs : (t.keep c s a).cs = if c ∈ t.cs then t.cs else insS t.cs c := rfl
  rw [hcs]
  by_cases hm : c ∈ t.cs
  · rw [if_pos hm, if_neg ((h.cl c).1 hm)]
  · rw [if_neg hm, if_pos, ins_len]
    cases hr : t.row c with
    | nil => rfl
    | cons x r => exact absurd ((h.cl c).2 (by rw [hr]; simp)) hm
/-- Some of the first ones of a client's row dropped. -/
def front (t : DT) (c : Int) (k : Nat) : DT := { t with row := fun x => if x = c then (t.row c).drop k else t.row x }
theorem forget_eq (t : DT) (c : Int) : t.forget c = t.front c (posR (t.row c) (t.least c)) := rfl
theorem front_n (h : t.ok0) {c : Int} {k : Nat} (hk : k ≤ (t.row c).length) : (t.front c k).n + k = t.n := by
  rw [n_eq, n_eq]
  have hcs : (t.front c k).cs = t.cs := rfl
  have hne : ∀ x, x ≠ c → ((t.front c k).row x).length = (t.row x).length := fun x hx => by unfold front; simp [hx]
  have hc : ((t.front c k).row c).length = (t.row c).length - k := by unfold front; simp
  rw [hcs]
  by_cases hm : c ∈ t.cs
  · have := sumL_one (f := fun c => (t.row c).length) (f' := fun x => ((t.front c k).row x).length) h.csr hm hne
    simp only [hc] at this
    omega
  · have h0 : t.row c = [] := by
      cases hr : t.row c with
      | nil => rfl
      | cons x r => exact absurd ((h.cl c).2 (by rw [hr]; simp)) hm
    rw [h0] at hk
    have : k = 0 := by simpa using hk
    subst this
    rw [sumL_same (l := t.cs) (f := fun c => (t.row c).length) (f' := fun x => ((t.front c 0).row x).length) (fun x hx => hne x (fun e => hm (e ▸ hx)))]
    rfl
end DT
end Go.Proofs.YtdfkoehcmgcoiaaGreatDoor

/- Maps of ints that a call owns. -/
namespace Go.Proofs.YtdfkoehcmgcoiaaGreatDoor
open Go.RowKit Go.Maps

theorem kInt : Keyed Tryz.prog 3 := int_keyed Tryz.underlying3
theorem zeroInt (w : World) : (zeroValue 3).run Tryz.prog w = .ok (.int .i64 0) w := by kernel_rfl
/-- A number that an int holds. -/
def I64 (x : Int) : Prop := -9223372036854775808 ≤ x ∧ x ≤ 9223372036854775807
theorem I64.wf {x : Int} (h : I64 x) : (Lit.int .i64 x).wf = true := by
  have h1 := h.1
  have h2 := h.2
  exact WalkArith.wf_i64 (by omega)
theorem I64.key {x : Int} (h : I64 x) : keyOf Tryz.prog 3 (.int .i64 x) = some (.int .i64 x) := keyOf_int_mk Tryz.underlying3 h.wf

/-- Block b is a map of ints, of at most n entries, that reads as D. -/
def AM (w : World) (b n : Nat) (D : DataW Unit) : Prop := w.ownsMap Tryz.prog 3 (plainElem Tryz.prog 3) b n D
theorem AM.fr {S : Nat → Prop} {w w' : World} {b n : Nat} {D : DataW Unit} (h : AM w b n D) (hf : Fr S w w') (hb : ¬ S b) : AM w' b n D := by
  obtain ⟨es, clock, h1, h2⟩ := h
  exact ⟨es, clock, (hf.block b (World.ownsMap.lt ⟨es, clock, h1, h2⟩) hb).trans h1, h2⟩
theorem AM.lt {w : World} {b n : Nat} {D : DataW Unit} (h : AM w b n D) : b < w.heap.size := World.ownsMap.lt h
theorem AM.ne {w : World} {b n g : Nat} {t : TypeId} {cs : Array Value} {D : DataW Unit} (h : AM w b n D) (hg : Bk w g t cs) : g ≠ b := by
  rintro rfl
  obtain ⟨es, clock, h1, _⟩ := h
  unfold Bk at hg
  rw [hg] at h1
  cases h1
theorem Fr.of_turned {w w' : World} {b : Nat} (h : w.mapTurned w' b) : Fr (fun k => k = b) w w' := (Fr.of_grown h.grown).mono (fun _ _ e => (Option.some.inj e).symm)

end Go.Proofs.YtdfkoehcmgcoiaaGreatDoor

/- Rows of ints of the call's own; appends of one int. -/
namespace Go.Proofs.YtdfkoehcmgcoiaaGreatDoor
open Go.RowKit

theorem Tryz.infoInt : (Tryz.prog.info? 3).map (fun i => (i.zero, i.size, i.bytes)) = some (some (.int .i64 0), 1, 8) := by kernel_rfl
def IV (x : Int) : Value := .int .i64 x
theorem IV_one (xs : List Int) : ∀ u ∈ xs.map IV, u.oneCell' = true := by
  intro u hu
  obtain ⟨b, _, rfl⟩ := List.mem_map.1 hu
  rfl
/-- A row of ints of the call's own. -/
def OwnI (w : World) (v : Value) (xs : List Int) : Prop := w.ownsRow 0 3 1 v xs.length (xs.map IV)
theorem OwnI.nil (w : World) : OwnI w (.slice none 0 0) [] := World.ownsRow_nil w 0 3 1
theorem OwnI.lt {w : World} {v : Value} {xs : List Int} (h : OwnI w v xs) {k : Nat} (hk : v.ownBlock = some k) : k < w.heap.size := (World.ownsRow.lt h k hk).2
theorem OwnI.fr {S : Nat → Prop} {w w' : World} {v : Value} {xs : List Int} (h : OwnI w v xs) (hb : Fr S w w') (hS : ∀ k, v.ownBlock = some k → ¬ S k) : OwnI w' v xs := by
  refine ⟨h.1, ?_⟩
  rcases h.2 with hn | ⟨g, cap, cur, rfl, hb0, hgg, rest⟩
  · exact .inl hn
  · refine .inr ⟨g, cap, cur, rfl, hb0, ?_, rest⟩
    rw [hb.block g (Array.getElem?_eq_some_iff.1 hgg).1 (hS g rfl)]
    exact hgg
theorem OwnI.ne {w : World} {t : TypeId} {v : Value} {xs : List Int} {g : Nat} {cs : Array Value} (h : OwnI w v xs) (hg : Bk w g t cs) (hne : 3 ≠ t) : v.ownBlock ≠ some g := by
  rcases h.2 with ⟨rfl, _⟩ | ⟨g', cap, cur, rfl, _, hh, _⟩
  · simp [Value.ownBlock]
  · intro he
    have : g' = g := by simpa [Value.ownBlock] using he
    subst this
    exact Bk.ne (t := 3) hh hg hne rfl
/-- What it is: nil, or a slice at the head of a block whose cells are known. -/
theorem OwnI.form {w : World} {v : Value} {xs : List Int} (h : OwnI w v xs) : (v = .slice none 0 0 ∧ xs = []) ∨ ∃ g cap cur, v = .slice (some ⟨g, 0, none⟩) xs.length cap ∧ xs.length ≤ cap ∧ cap ≤ maxLen ∧ Bk w g 3 cur ∧ ∀ j (hj : j < xs.length), cur[j]? = some (IV xs[j]) := by
  rcases h.2 with ⟨rfl, h0⟩ | ⟨g, cap, cur, rfl, _, hh, h1, h2, h3, h4⟩
  · exact .inl ⟨rfl, List.eq_nil_of_length_eq_zero h0⟩
  · refine .inr ⟨g, cap, cur, rfl, h1, h2, hh, fun j hj => ?_⟩
    have h5 := congrArg (fun l => l[j]?) h4
    simp only [Nat.mul_one, List.getElem?_take, if_pos hj, List.getElem?_map, List.getElem?_eq_getElem hj, Option.map_some, Array.getElem?_toList] at h5
    exact h5
theorem OwnI.cell {w : World} {xs : List Int} {g n cap : Nat} (h : OwnI w (.slice (some ⟨g, 0, none⟩) n cap) xs) (j : Nat) (hj : j < xs.length) : w.cell? ⟨g, j, none⟩ = some (IV xs[j]) := by
  have := World.ownsRow.cells h (g := g) rfl j (IV xs[j]) (by simp [hj])
  have hadd : (⟨g, 0, none⟩ : Addr).add j = ⟨g, j, none⟩ := by unfold Addr.add; split <;> simp_all
  rw [hadd] at this
  exact this

section
variable (w : World)
/-- append(s, x): the int lies in a new block of its own. -/
theorem wpList_appendI {ops : Array Oper} {rest : List Oper} {o : Oper} {a : Act} {Q : Exit → Act → World → Prop} (hgd : o.guard = none) (s x : Operand)
    (ho : o.op = .call { callee := .builtin .append, args := #[s, x], argTypes := #[64, 64] })
    (v : Value) (xs : List Int) (hs : a.eval s = v) (n : Int) (hown : OwnI w v xs) (hx : a.eval x = .slice (some ⟨w.heap.size, 0, none⟩) 1 1) (hlen : xs.length ≤ 17592186044415)
    (h : ∀ g' c' w', OwnI w' (.slice (some ⟨g', 0, none⟩) (xs.length + 1) c') (xs ++ [n]) → Fr (fun k => v.ownBlock = some k) w w' → Moved w v (.slice (some ⟨g', 0, none⟩) (xs.length + 1) c') → wpList Tryz.prog ops Q rest (a.put o.dst (.slice (some ⟨g', 0, none⟩) (xs.length + 1) c')) w') :
    wpList Tryz.prog ops Q (o :: rest) a (w.alloc (.cells #[.int .i64 n] 3)) := by
  obtain ⟨i0, hi, hz0, hz1, hz2⟩ := info_parts Tryz.infoInt
  have hf : Fr (fun _ => False) w (w.alloc (.cells #[.int .i64 n] 3)) := (Fr.refl _ _).alloc _
  have hown' : OwnI (w.alloc (.cells #[.int .i64 n] 3)) v xs := hown.fr hf (fun _ _ h => h)
  refine wpList_append_own_at (P := Tryz.prog) _ hgd s x 64 ho 0 3 i0 (.int .i64 0) 1 8 Tryz.underlying64 hi hz0 hz1 hz2 rfl (by decide) v xs.length (xs.map IV) hs hown' ⟨w.heap.size, 0, none⟩ 1 1 [.int .i64 n] hx rfl
    (fun j u hu => ?_) (fun u hu => ?_) (by unfold maxLen; omega) (by omega) (Nat.zero_le _) (fun v' w' h1 h2 h3 h4 => ?_)
  · have : j = 0 ∧ u = .int .i64 n := by
      match j with
      | 0 => simpa [eq_comm] using hu
      | j + 1 => simp at hu
    obtain ⟨rfl, rfl⟩ := this
    exact (Bk.new w 3 #[.int .i64 n]).cell 0
  · simp at hu; subst hu; rfl
  · have ho' : OwnI w' v' (xs ++ [n]) := by unfold OwnI; simpa [IV] using h1
    rcases ho'.form with ⟨_, h0⟩ | ⟨g, cap, cur, rfl, _, _, _, _⟩
    · simp at h0
    · simp only [List.length_append, List.length_singleton] at *
      refine h g cap w' ho' ((hf.mono (fun _ _ h => h.elim)).trans (Fr.of_grown h2) (fun _ _ e => e.symm ▸ rfl)) (h4.imp id (fun e => ⟨_, e, by simp⟩))
end
end Go.Proofs.YtdfkoehcmgcoiaaGreatDoor

/- Rows of structs at any place of a block that is known whole: append, copy, clear. -/
namespace Go.Proofs.YtdfkoehcmgcoiaaGreatDoor
open Go.RowKit

/-- Cells laid over a block's from a place on. -/
def lay : Array Value → Nat → List Value → Array Value
  | cur, _, [] => cur
  | cur, o, v :: r => lay (cur.setIfInBounds o v) (o + 1) r
theorem lay_nil (cur : Array Value) (o : Nat) : lay cur o [] = cur := rfl
theorem lay_size : ∀ (cs : List Value) (cur : Array Value) (o : Nat), (lay cur o cs).size = cur.size
  | [], _, _ => rfl
  | v :: r, cur, o => by unfold lay; rw [lay_size r]; simp
theorem lay_out : ∀ (cs : List Value) (cur : Array Value) (o x : Nat), (x < o ∨ o + cs.length ≤ x) → (lay cur o cs)[x]? = cur[x]?
  | [], _, _, _, _ => rfl
  | v :: r, cur, o, x, h => by
    unfold lay
    simp only [List.length_cons] at h
    rw [lay_out r _ (o + 1) x (by omega), Array.getElem?_setIfInBounds_ne (by omega)]
theorem lay_in : ∀ (cs : List Value) (cur : Array Value) (o j : Nat), j < cs.length → o + cs.length ≤ cur.size → (lay cur o cs)[o + j]? = cs[j]?
  | [], _, _, _, h, _ => by simp at h
  | v :: r, cur, o, 0, _, hb => by
    unfold lay
    simp only [List.length_cons] at hb
    rw [lay_out r _ (o + 1) (o + 0) (by omega), Nat.add_zero, Array.getElem?_setIfInBounds_self_of_lt (by omega)]
    rfl
  | v :: r, cur, o, j + 1, h, hb => by
    unfold lay
    simp only [List.length_cons] at h hb
    have := lay_in r (cur.setIfInBounds o v) (o + 1) j (by omega) (by simp; omega)
    rw [show o + (j + 1) = o + 1 + j by omega, this]
    simp
theorem Bk.setCells {g : Nat} {t : TypeId} : ∀ (cs : List Value) {w : World} {cur : Array Value} (o : Nat), Bk w g t cur → Bk (w.setCells g o cs) g t (lay cur o cs)
  | [], _, _, _, h => h
  | v :: r, _, _, o, h => Bk.setCells r (o + 1) (h.set o v)
theorem Fr.setCells {g : Nat} {S : Nat → Prop} : ∀ (cs : List Value) {a w : World} (o : Nat), Fr S a w → (g < a.heap.size → S g) → Fr S a (w.setCells g o cs)
  | [], _, _, _, h, _ => h
  | v :: r, _, _, o, h, hs => Fr.setCells r (o + 1) (Fr.setCell (p := ⟨g, o, none⟩) h hs v) hs
theorem Bk.there {w : World} {g : Nat} {t : TypeId} {cs : Array Value} (h : Bk w g t cs) {i : Nat} (hi : i < cs.size) : (w.cell? ⟨g, i, none⟩).isSome = true := by
  rw [h.cell i, Array.getElem?_eq_getElem hi]; rfl

/-- n elements of k cells each, of type T, are at v. -/
def Row (w : World) (T : TypeId) (k : Nat) (v : Value) (n : Nat) (cs : List Value) : Prop :=
  cs.length = n * k ∧ ((v = .slice none 0 0 ∧ n = 0) ∨ ∃ b off cap cur, v = .slice (some ⟨b, off, none⟩) n cap ∧ Bk w b T cur ∧ n ≤ cap ∧ cap ≤ maxLen ∧ off + cap * k ≤ cur.size ∧ ∀ j, j < cs.length → cur[off + j]? = cs[j]?)
theorem Row.nil (w : World) (T : TypeId) (k : Nat) : Row w T k (.slice none 0 0) 0 [] := ⟨by simp, .inl ⟨rfl, rfl⟩⟩
theorem Row.bk {w : World} {T : TypeId} {k n : Nat} {v : Value} {cs : List Value} (h : Row w T k v n cs) {g : Nat} (hg : v.ownBlock = some g) : ∃ cur, Bk w g T cur := by
  rcases h.2 with ⟨rfl, _⟩ | ⟨b, off, cap, cur, rfl, hb, _⟩
  · simp [Value.ownBlock] at hg
  · have : b = g := by simpa [Value.ownBlock] using hg
    subst this; exact ⟨cur, hb⟩
theorem Row.lt {w : World} {T : TypeId} {k n : Nat} {v : Value} {cs : List Value} (h : Row w T k v n cs) {g : Nat} (hg : v.ownBlock = some g) : g < w.heap.size := by
  obtain ⟨cur, hb⟩ := h.bk hg
  exact hb.lt
theorem Row.fr {S : Nat → Prop} {w w' : World} {T : TypeId} {k n : Nat} {v : Value} {cs : List Value} (h : Row w T k v n cs) (hf : Fr S w w') (hS : ∀ g, v.ownBlock = some g → ¬ S g) : Row w' T k v n cs := by
  refine ⟨h.1, ?_⟩
  rcases h.2 with hn | ⟨b, off, cap, cur, rfl, hb, rest⟩
  · exact .inl hn
  · exact .inr ⟨b, off, cap, cur, rfl, hb.fr hf (hS b rfl), rest⟩
theorem Row.fr0 {w w' : World} {T : TypeId} {k n : Nat} {v : Value} {cs : List Value} (h : Row w T k v n cs) (hf : Fr (fun _ => False) w w') : Row w' T k v n cs := h.fr hf (fun _ _ h => h)
theorem Row.ne {w : World} {T t : TypeId} {k n : Nat} {v : Value} {cs : List Value} {g : Nat} {c : Array Value} (h : Row w T k v n cs) (hg : Bk w g t c) (hne : T ≠ t) : v.ownBlock ≠ some g := fun e => by
  obtain ⟨cur, hb⟩ := h.bk e
  exact Bk.ne hb hg hne rfl
theorem Row.form {w : World} {T : TypeId} {k n : Nat} {v : Value} {cs : List Value} (h : Row w T k v n cs) : ∃ A c, v = .slice A n c ∧ n ≤ c ∧ c ≤ maxLen ∧ (0 < n → ∃ b off, A = some ⟨b, off, none⟩) := by
  rcases h.2 with ⟨rfl, h0⟩ | ⟨b, off, cap, cur, rfl, _, h1, h2, _⟩
  · exact ⟨none, 0, by rw [h0], by omega, by unfold maxLen; omega, fun h => by omega⟩
  · exact ⟨_, cap, rfl, h1, h2, fun _ => ⟨b, off, rfl⟩⟩
theorem Row.cell {w : World} {T : TypeId} {k n m c b off : Nat} {cs : List Value} (h : Row w T k (.slice (some ⟨b, off, none⟩) m c) n cs) {j : Nat} {u : Value} (hj : cs[j]? = some u) : w.cell? ⟨b, off + j, none⟩ = some u := by
  rcases h.2 with ⟨e, _⟩ | ⟨b', off', cap, cur, e, hb, _, _, _, hc⟩
  · cases e
  · injection e with e1 e2 e3
    injection e1 with e1
    injection e1 with e1 e4
    subst e1 e4
    rw [hb.cell, hc j (List.getElem?_eq_some_iff.1 hj).1, hj]
theorem Row.len {w : World} {T : TypeId} {k n m c : Nat} {A : Option Addr} {cs : List Value} (h : Row w T k (.slice A m c) n cs) : m = n := by
  obtain ⟨A', c', e, _⟩ := h.form
  injection e

/-- n elements of k cells each, wherever they are: what reads alone. -/
def Sl (w : World) (k : Nat) (x : Value) (n : Nat) (cs : List Value) : Prop :=
  cs.length = n * k ∧ ∃ A c, x = .slice A n c ∧ (0 < n → ∃ b off, A = some ⟨b, off, none⟩ ∧ ∀ j u, cs[j]? = some u → w.cell? ⟨b, off + j, none⟩ = some u)
theorem Row.sl {w : World} {T : TypeId} {k n : Nat} {v : Value} {cs : List Value} (h : Row w T k v n cs) : Sl w k v n cs := by
  obtain ⟨A, c, rfl, _, _, hA⟩ := h.form
  refine ⟨h.1, A, c, rfl, fun h0 => ?_⟩
  obtain ⟨b, off, rfl⟩ := hA h0
  exact ⟨b, off, rfl, fun j u hu => h.cell hu⟩
theorem Sl.at {w : World} {k n b off m c : Nat} {cs : List Value} (hm : m = n) (hl : cs.length = n * k) (hc : ∀ j u, cs[j]? = some u → w.cell? ⟨b, off + j, none⟩ = some u) : Sl w k (.slice (some ⟨b, off, none⟩) m c) n cs :=
  ⟨hl, _, c, by rw [hm], fun _ => ⟨b, off, rfl, hc⟩⟩
theorem Sl.none {w : World} {k : Nat} {A : Option Addr} {c : Nat} : Sl w k (.slice A 0 c) 0 [] := ⟨by simp, A, c, rfl, fun h => by omega⟩
theorem Sl.fr {S : Nat → Prop} {w w' : World} {k n : Nat} {x : Value} {cs : List Value} (h : Sl w k x n cs) (hk : 0 < k) (hf : Fr S w w') (hS : ∀ g, x.ownBlock = some g → ¬ S g) : Sl w' k x n cs := by
  obtain ⟨hl, A, c, rfl, hA⟩ := h
  refine ⟨hl, A, c, rfl, fun h0 => ?_⟩
  obtain ⟨b, off, rfl, hc⟩ := hA h0
  exact ⟨b, off, rfl, fun j u hu => by
    have h1 := hc j u hu
    rw [← h1]
    exact hf.cell (p := ⟨b, off + j, .none⟩) (World.block_lt_of_cell? w _ h1) (hS b rfl)⟩
theorem Sl.src {P : Program} {w : World} {k n : Nat} {x : Value} {cs : List Value} (h : Sl w k x n cs) {tx e : TypeId} (hk : P.underlying tx = some (.slice e)) (h1 : ∀ u ∈ cs, u.oneCell' = true) : Src P k tx x n cs w := by
  obtain ⟨hl, A, c, rfl, hA⟩ := h
  by_cases h0 : 0 < n
  · obtain ⟨b, off, rfl, hc⟩ := hA h0
    exact Src.ofSlice w hk ⟨b, off, .none⟩ n c cs hl (fun j u hu => by rw [add_at]; exact hc j u hu) h1
  · obtain rfl : n = 0 := by omega
    have hl0 : cs = [] := List.eq_nil_of_length_eq_zero (by simpa using hl)
    subst hl0
    rcases A with _ | a
    · exact Src.ofNil w hk c
    · exact Src.ofSlice w hk a 0 c [] (by simp) (fun j u hu => by simp at hu) (fun u hu => by simp at hu)

/-- What the laws ask of the element type e, its slice t, k cells each. -/
structure TE (P : Program) (t e : TypeId) (k by' : Nat) (z : Value) : Prop where
  sl : P.underlying t = some (.slice e)
  info : (P.info? e).map (fun i => (i.zero, i.size, i.bytes)) = some (some z, k, by')
  zs : z.cells.size = k
  k0 : 0 < k

section
variable {P : Program} {w : World}

theorem run_appendR {t e : TypeId} {k by' : Nat} {z : Value} (hT : TE P t e k by' z) (ty : TypeId) {v : Value} {n : Nat} {cs : List Value} (h : Row w e k v n cs) {x : Value} {m : Nat} {xs : List Value} (hx : Sl w k x m xs) (h1 : ∀ u ∈ xs, u.oneCell' = true)
    (h63 : n + m ≤ maxLen) (hb : (n + m) * by' ≤ 140737488355328) :
    ∃ v' w', (Builtin.append_ #[t, t] ty #[v, x]).run P w = .ok v' w' ∧ Row w' e k v' (n + m) (cs ++ xs) ∧ Fr (fun g => v.ownBlock = some g) w w' ∧ Moved w v v' := by
  obtain ⟨i, hi, hz, hsz, hby⟩ := info_parts hT.info
  subst hsz
  subst hby
  have hs := hx.src hT.sl h1
  have hlen : (cs ++ xs).length = (n + m) * i.size := by rw [List.length_append, h.1, hx.1, Nat.add_mul]
  have h63' : ((n + m : Nat) : Int) ≤ 9223372036854775807 := by simp only [maxLen] at h63; omega
  have grown : ∀ (base : Option Addr) (old : Nat), old < n + m →
      (Builtin.firstCells i.size n (.slice base n old)).run P w.drew = .ok cs.toArray w.drew →
      ∃ v' w', (Builtin.append_ #[t, t] ty #[.slice base n old, x]).run P w = .ok v' w' ∧ Row w' e i.size v' (n + m) (cs ++ xs) ∧ Fr (fun g => (Value.slice base n old).ownBlock = some g) w w' ∧ Moved w (.slice base n old) v' := by
    intro base old ho hold
    have hr := run_append_grow_src (P := P) w t t ty e i z hT.sl hi hz base n old cs hold x m xs hs ho h63' (growslice_fits ho hb)
    have hge := grownCap_ge w (n + m) old e
    have hcm := grownCap_le_maxLen w (n + m) old e h63
    refine ⟨_, _, hr, ⟨hlen, .inr ⟨w.heap.size, 0, _, _, rfl, Bk.new _ _ _, hge, hcm, ?_, fun j hj => ?_⟩⟩, (Fr.refl _ _).drew.alloc _, .inr ⟨w.heap.size, rfl, Nat.le_refl _⟩⟩
    · simp only [Array.size_append, List.size_toArray, size_zeroCells, hT.zs, hlen, ← Nat.add_mul, Nat.zero_add]
      have : n + m + (grownCap w (n + m) old e - (n + m)) = grownCap w (n + m) old e := by omega
      rw [this]; exact Nat.le_refl _
    · rw [Nat.zero_add, Array.getElem?_append_left (by simpa using hj)]
      simp
  rcases h.2 with ⟨rfl, rfl⟩ | ⟨b, off, cap, cur, rfl, hbk, hnc, hcm, hsz, hc⟩
  · have hcs : cs = [] := List.eq_nil_of_length_eq_zero (by simpa using h.1)
    subst hcs
    by_cases hm : m = 0
    · subst hm
      have hx0 : xs = [] := List.eq_nil_of_length_eq_zero (by simpa using hx.1)
      subst hx0
      exact ⟨_, w, run_append_nothing w t t ty e i hT.sl hi none 0 0 (Nat.le_refl _) x hs, Row.nil _ _ _, Fr.refl _ _, Moved.refl _ _⟩
    · exact grown none 0 (by omega) (by simp [Builtin.firstCells])
  · by_cases hroom : n + m ≤ cap
    · have hfit : n * i.size + m * i.size ≤ cap * i.size := by rw [← Nat.add_mul]; exact Nat.mul_le_mul_right _ hroom
      have hxl := hx.1
      have hr := run_append_room_src (P := P) w t t ty e i hT.sl hi b off n cap x m xs hs hroom (fun j hj => hbk.there (by omega)) (fun j hj => hbk.frozen _)
      refine ⟨_, _, hr, ⟨hlen, .inr ⟨b, off, cap, _, rfl, hbk.setCells xs _, hroom, hcm, by rw [lay_size]; exact hsz, fun j hj => ?_⟩⟩, Fr.setCells xs _ (Fr.refl _ _) (fun _ => rfl), .inl rfl⟩
      have hl0 := h.1
      by_cases hj0 : j < cs.length
      · rw [lay_out _ _ _ _ (.inl (by omega)), hc j hj0, List.getElem?_append_left hj0]
      · rw [List.length_append] at hj
        rw [List.getElem?_append_right (by omega), ← lay_in xs cur (off + n * i.size) (j - cs.length) (by omega) (by omega)]
        congr 1; omega
    · refine grown (some ⟨b, off, none⟩) cap (by omega) ?_
      exact run_firstCells_some (P := P) w.drew i.size n ⟨b, off, none⟩ n cap cs h.1 (fun j u hu => by
        rw [add_at]
        show w.cell? _ = _
        rw [hbk.cell, hc j (List.getElem?_eq_some_iff.1 hu).1, hu])

theorem wpList_appendR {t e : TypeId} {k by' : Nat} {z : Value} (hT : TE P t e k by' z) {ops : Array Oper} {rest : List Oper} {o : Oper} {a : Go.Act} {Q : Exit → Go.Act → World → Prop} (hgd : o.guard = none) (s y : Operand)
    (ho : o.op = .call { callee := .builtin .append, args := #[s, y], argTypes := #[t, t] })
    (v : Value) (n : Nat) (cs : List Value) (hs : a.eval s = v) (h : Row w e k v n cs) (x : Value) (m : Nat) (xs : List Value) (hy : a.eval y = x) (hx : Sl w k x m xs) (h1 : ∀ u ∈ xs, u.oneCell' = true)
    (h63 : n + m ≤ maxLen) (hb : (n + m) * by' ≤ 140737488355328)
    (hK : ∀ A' c' w', Row w' e k (.slice A' (n + m) c') (n + m) (cs ++ xs) → Fr (fun g => v.ownBlock = some g) w w' → Moved w v (.slice A' (n + m) c') → wpList P ops Q rest (a.put o.dst (.slice A' (n + m) c')) w') :
    wpList P ops Q (o :: rest) a w := by
  refine wpList_plain hgd fun K hK' => ?_
  obtain ⟨v', w', hr, h2, h3, h4⟩ := run_appendR (P := P) hT o.type h hx h1 h63 hb
  obtain ⟨A', c', rfl, _⟩ := h2.form
  unfold Oper.wp execOp
  simp only [ho, resolve, invoke, builtin, Sem.run_bind, Sem.run_pure, Result.andThen_ok, List.map_toArray, List.map_cons, List.map_nil, hs, hy, hr]
  exact hK' _ _ (hK A' c' w' h2 h3 h4)
theorem stepOf_appendR {t e : TypeId} {k by' : Nat} {z : Value} (hT : TE P t e k by' z) {ops : Array Oper} {o : Oper} {a : Go.Act} {K' : Go.Act → World → Prop} {Q : Exit → Go.Act → World → Prop} (hgd : o.guard = none) (s y : Operand)
    (ho : o.op = .call { callee := .builtin .append, args := #[s, y], argTypes := #[t, t] })
    (v : Value) (n : Nat) (cs : List Value) (hs : a.eval s = v) (h : Row w e k v n cs) (x : Value) (m : Nat) (xs : List Value) (hy : a.eval y = x) (hx : Sl w k x m xs) (h1 : ∀ u ∈ xs, u.oneCell' = true)
    (h63 : n + m ≤ maxLen) (hb : (n + m) * by' ≤ 140737488355328)
    (hK : ∀ A' c' w', Row w' e k (.slice A' (n + m) c') (n + m) (cs ++ xs) → Fr (fun g => v.ownBlock = some g) w w' → Moved w v (.slice A' (n + m) c') → K' (a.put o.dst (.slice A' (n + m) c')) w') :
    if Region.wanted o (yielded ops a.tmps) = true then Oper.wp P o a w K' Q else K' (a.put o.dst undef) w := by
  rw [if_pos (by simp [Region.wanted, hgd])]
  obtain ⟨v', w', hr, h2, h3, h4⟩ := run_appendR (P := P) hT o.type h hx h1 h63 hb
  obtain ⟨A', c', rfl, _⟩ := h2.form
  unfold Oper.wp execOp
  simp only [ho, resolve, invoke, builtin, Sem.run_bind, Sem.run_pure, Result.andThen_ok, List.map_toArray, List.map_cons, List.map_nil, hs, hy, hr]
  exact hK A' c' w' h2 h3 h4

theorem run_copyR {t e : TypeId} {k by' : Nat} {z : Value} (hT : TE P t e k by' z) (ty : TypeId) {b off d dc : Nat} {cur : Array Value} (hbk : Bk w b e cur) {m sl sc : Nat} {A : Option Addr} {xs : List Value} (hm : m = Nat.min sl d)
    (hx : xs.length = m * k) (hc : 0 < m → ∃ b' o', A = some ⟨b', o', none⟩ ∧ ∀ j u, xs[j]? = some u → w.cell? ⟨b', o' + j, none⟩ = some u) (h1 : ∀ u ∈ xs, u.oneCell' = true) (hfit : off + m * k ≤ cur.size) :
    (Builtin.copy_ #[t, t] ty #[.slice (some ⟨b, off, none⟩) d dc, .slice A sl sc]).run P w = .ok (goInt m) (w.setCells b off xs) := by
  obtain ⟨i, hi, hz, hsz, hby⟩ := info_parts hT.info
  subst hsz
  have hst := run_storeCells_cells (P := P) b off xs 0 w (fun j hj => hbk.there (by omega)) (fun j hj => hbk.frozen _) h1
  simp only [Nat.add_zero] at hst
  have hf : (Builtin.firstCells i.size m (.slice A sl sc)).run P w = .ok xs.toArray w := by
    by_cases h0 : 0 < m
    · obtain ⟨b', o', rfl, hc'⟩ := hc h0
      exact run_firstCells_some (P := P) w i.size m ⟨b', o', none⟩ sl sc xs hx (fun j u hu => by rw [add_at]; exact hc' j u hu)
    · obtain rfl : m = 0 := by omega
      have hx0 : xs = [] := List.eq_nil_of_length_eq_zero (by simpa using hx)
      subst hx0
      rcases A with _ | a
      · simp [Builtin.firstCells]
      · exact run_firstCells_some (P := P) w i.size 0 a sl sc [] (by simp) (fun j u hu => by simp at hu)
  simp [Builtin.copy_, run_underlying hT.sl, Builtin.lenOf, sizeOf, typeInfo, hi, ← hm, hf, hst]

theorem wpList_copyR {t e : TypeId} {k by' : Nat} {z : Value} (hT : TE P t e k by' z) {ops : Array Oper} {rest : List Oper} {o : Oper} {a : Go.Act} {Q : Exit → Go.Act → World → Prop} (hgd : o.guard = none) (d s : Operand)
    (ho : o.op = .call { callee := .builtin .copy, args := #[d, s], argTypes := #[t, t] }) {b off dl dc : Nat} {cur : Array Value} (hbk : Bk w b e cur) (hd : a.eval d = .slice (some ⟨b, off, none⟩) dl dc) {m sl sc : Nat} {A : Option Addr} (hs : a.eval s = .slice A sl sc) (xs : List Value) (hm : m = Nat.min sl dl)
    (hx : xs.length = m * k) (hc : 0 < m → ∃ b' o', A = some ⟨b', o', none⟩ ∧ ∀ j u, xs[j]? = some u → w.cell? ⟨b', o' + j, none⟩ = some u) (h1 : ∀ u ∈ xs, u.oneCell' = true) (hfit : off + m * k ≤ cur.size)
    (hK : wpList P ops Q rest (a.put o.dst (goInt m)) (w.setCells b off xs)) : wpList P ops Q (o :: rest) a w := by
  refine wpList_plain hgd fun K hK' => ?_
  have hr := run_copyR (P := P) hT o.type hbk (dc := dc) (sc := sc) hm hx hc h1 hfit
  unfold Oper.wp execOp
  simp only [ho, resolve, invoke, builtin, Sem.run_bind, Sem.run_pure, Result.andThen_ok, List.map_toArray, List.map_cons, List.map_nil, hd, hs, hr]
  exact hK' _ _ hK
theorem stepOf_copyR {t e : TypeId} {k by' : Nat} {z : Value} (hT : TE P t e k by' z) {ops : Array Oper} {o : Oper} {a : Go.Act} {K' : Go.Act → World → Prop} {Q : Exit → Go.Act → World → Prop} {E : Prop} (hgd : o.guard = none) (d s : Operand)
    (ho : o.op = .call { callee := .builtin .copy, args := #[d, s], argTypes := #[t, t] }) {b off dl dc : Nat} {cur : Array Value} (hbk : Bk w b e cur) (hd : a.eval d = .slice (some ⟨b, off, none⟩) dl dc) {m sl sc : Nat} {A : Option Addr} (hs : a.eval s = .slice A sl sc) (xs : List Value) (hm : m = Nat.min sl dl)
    (hx : xs.length = m * k) (hc : 0 < m → ∃ b' o', A = some ⟨b', o', none⟩ ∧ ∀ j u, xs[j]? = some u → w.cell? ⟨b', o' + j, none⟩ = some u) (h1 : ∀ u ∈ xs, u.oneCell' = true) (hfit : off + m * k ≤ cur.size)
    (hK : K' (a.put o.dst (goInt m)) (w.setCells b off xs)) : if Region.wanted o (yielded ops a.tmps) = true then Oper.wp P o a w K' Q else E := by
  rw [if_pos (by simp [Region.wanted, hgd])]
  have hr := run_copyR (P := P) hT o.type hbk (dc := dc) (sc := sc) hm hx hc h1 hfit
  unfold Oper.wp execOp
  simp only [ho, resolve, invoke, builtin, Sem.run_bind, Sem.run_pure, Result.andThen_ok, List.map_toArray, List.map_cons, List.map_nil, hd, hs, hr]
  exact hK
end
end Go.Proofs.YtdfkoehcmgcoiaaGreatDoor

/- A table of answers in memory: a struct, a map of rows of ints, a map keyed by structs. -/
namespace Go.Proofs.YtdfkoehcmgcoiaaGreatDoor
open Go.RowKit Go.Maps

theorem laidOutD : laidOutB Tryz.prog = true := by kernel_rfl
theorem keyRow : (57 : TypeId) < Tryz.prog.types.size := of_decide_eq_true (by kernel_rfl)
theorem kKey : Keyed Tryz.prog 57 := Keyed.of_law (deep_law_laid laidOutD (m := 3) (by omega) keyRow (by kernel_rfl) (by kernel_rfl))
theorem keyType_key : Tryz.prog.keyType 57 = true := by kernel_rfl
theorem cells_key : Tryz.prog.cellsOf 57 = 2 := by kernel_rfl
theorem cells_int : Tryz.prog.cellsOf 3 = 1 := by kernel_rfl
theorem sizeT : Tryz.prog.types.size = 207 := by kernel_rfl
/-- A key as a value. -/
def kyV (c s : Int) : Value := .agg #[.int .i64 c, .int .i64 s]
def ky (c s : Int) : Lit := .string (keyBytes [.int .i64 c, .int .i64 s])
theorem ky_of {c s : Int} (hc : I64 c) (hs : I64 s) : keyOf Tryz.prog 57 (kyV c s) = some (ky c s) := by
  have h1 := hc.wf
  have h2 := hs.wf
  have hf : (kyV c s).formed Tryz.prog 57 = true := by simp [kyV, Value.formed, Tryz.underlying57, cells_key]
  have hi : ∀ d x, (Lit.int .i64 x).wf = true → Tryz.prog.keyLits (d + 1) 3 [.int .i64 x] = some [.int .i64 x] := fun d x hx => by
    simp [Program.keyLits, Tryz.underlying3, hx]
  have hk : Tryz.prog.keyLits (207 + 1) 57 [.int .i64 c, .int .i64 s] = some [.int .i64 c, .int .i64 s] := by
    unfold Program.keyLits
    simp [Tryz.underlying57, cells_key, cells_int, hi _ _ h1, hi _ _ h2]
  unfold keyOf
  simp only [Tryz.underlying57, keyType_key, hf, Bool.and_self, if_true, sizeT]
  rw [show (kyV c s).cells.toList = [.int .i64 c, .int .i64 s] from rfl, hk]
  rfl
theorem ky_inj {c s c' s' : Int} (hc : I64 c) (hs : I64 s) (hc' : I64 c') (hs' : I64 s') (h : ky c s = ky c' s') : c = c' ∧ s = s' := by
  have := kKey.inj (ky_of hc hs) (h ▸ ky_of hc' hs')
  unfold kyV at this
  simp at this
  exact this
theorem ky_key {c s : Int} (hc : I64 c) (hs : I64 s) : WideAt.IsKeyLit (ky c s) := kKey.key (ky_of hc hs)
theorem i_key (c : Int) : WideAt.IsKeyLit (.int .i64 c) := trivial

/-! ### maps whose values are told as they are -/
abbrev DV := DataW Value
def HV (v : Value) : Option (DV × List MemPlace) := some (.held v, [])
/-- Block b is a map that reads as D. -/
def MV (w : World) (k : TypeId) (b : Nat) (D : DV) : Prop := w.ownsMap Tryz.prog k HV b (Maps.size D) D
theorem MV.of {w : World} {k : TypeId} {b n : Nat} {D : DV} (h : w.ownsMap Tryz.prog k HV b n D) : MV w k b D := by
  obtain ⟨es, clock, hb, F, hs, rfl⟩ := h
  refine ⟨es, clock, hb, F, ?_, rfl⟩
  rw [Maps.size_eq, length_sorted]; simp
theorem MV.fr {S : Nat → Prop} {w w' : World} {k : TypeId} {b : Nat} {D : DV} (h : MV w k b D) (hf : Fr S w w') (hb : ¬ S b) : MV w' k b D := by
  obtain ⟨es, clock, h1, h2⟩ := h
  exact ⟨es, clock, (hf.block b (World.ownsMap.lt ⟨es, clock, h1, h2⟩) hb).trans h1, h2⟩
theorem MV.lt {w : World} {k : TypeId} {b : Nat} {D : DV} (h : MV w k b D) : b < w.heap.size := World.ownsMap.lt h
theorem MV.ne {w : World} {k : TypeId} {b g : Nat} {t : TypeId} {cs : Array Value} {D : DV} (h : MV w k b D) (hg : Bk w g t cs) : g ≠ b := by
  rintro rfl
  obtain ⟨es, clock, h1, _⟩ := h
  unfold Bk at hg
  rw [hg] at h1
  cases h1
theorem MV.new (w : World) (k : TypeId) : MV (w.alloc (.map #[] 0)) k w.heap.size (.map []) := MV.of (World.ownsMap_made w Tryz.prog k HV)
theorem MV.isMap {w : World} {k : TypeId} {b : Nat} {D : DV} (h : MV w k b D) : IsMap D := World.ownsMap.isMap h
theorem MV.tidy {w : World} {k : TypeId} {b : Nat} {D : DV} (h : MV w k b D) (K : Keyed Tryz.prog k) : Tidy D := World.ownsMap.tidy h K
/-- What stands at a key. -/
def At (D : DV) (l : Lit) (v : Value) : Prop := has D l = true ∧ ∀ z, D.atKey l z = .held v
theorem At.one {D : DV} {l : Lit} {v u : Value} (h : At D l v) (k : At D l u) : v = u := by
  have := (h.2 .nil).symm.trans (k.2 .nil)
  injection this
theorem At.not {D : DV} {l : Lit} {v : Value} (h : At D l v) (k : has D l = false) : False := by rw [h.1] at k; cases k
theorem At.put {w : World} {k : TypeId} {b : Nat} {D : DV} (h : MV w k b D) {l : Lit} (hl : WideAt.IsKeyLit l) (v : Value) : At (D.put l (.held v)) l v :=
  ⟨has_put_same h.isMap hl _, fun z => atKey_put_same h.isMap hl _ z⟩
theorem At.put_ne {D : DV} {l l' : Lit} {v u : Value} (h : At D l v) (hne : l ≠ l') : At (D.put l' (.held u)) l v :=
  ⟨(has_put_other hne _).trans h.1, fun z => (atKey_put_other hne _ z).trans (h.2 z)⟩
theorem At.del_ne {D : DV} {l l' : Lit} {v : Value} (h : At D l v) (hne : l ≠ l') : At (D.del l') l v :=
  ⟨(has_del_other hne).trans h.1, fun z => (atKey_del_other hne z).trans (h.2 z)⟩
end Go.Proofs.YtdfkoehcmgcoiaaGreatDoor
