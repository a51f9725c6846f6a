/- A table of answers in memory: a struct, a map of rows of ints, a map keyed by structs. -/
import Derived.Test.YtdfkoehcmgcoiaaJb
import Derived.Test.YtdfkoehcmgcoiaaMapI
import Derived.Test.YtdfkoehcmgcoiaaMemI
import Derived.Test.YtdfkoehcmgcoiaaNa
import Derived.DeepKeys4
namespace Go.Proofs.Ytdfkoehcmgcoiaa
open Go.RowKit Go.Maps

theorem laidOutD : laidOutB Try.prog = true := by kernel_rfl
theorem keyRow : (48 : TypeId) < Try.prog.types.size := of_decide_eq_true (by kernel_rfl)
theorem kKey : Keyed Try.prog 48 := Keyed.of_law (deep_law_laid laidOutD (m := 3) (by omega) keyRow (by kernel_rfl) (by kernel_rfl))
theorem keyType_key : Try.prog.keyType 48 = true := by kernel_rfl
theorem cells_key : Try.prog.cellsOf 48 = 2 := by kernel_rfl
theorem cells_int : Try.prog.cellsOf 3 = 1 := by kernel_rfl
theorem sizeT : Try.prog.types.size = 125 := by kernel_rfl
/-- A key as a value. -/
def kyV (c s : Int) : Value := .agg #[.int .i64 c, .int .i64 s]
def ky (c s : Int) : Lit := .string (keyBytes [.int .i64 c, .int .i64 s])
theorem ky_of {c s : Int} (hc : I64 c) (hs : I64 s) : keyOf Try.prog 48 (kyV c s) = some (ky c s) := by
  have h1 := hc.wf
  have h2 := hs.wf
  have hf : (kyV c s).formed Try.prog 48 = true := by simp [kyV, Value.formed, Try.underlying48, cells_key]
  have hi : ∀ d x, (Lit.int .i64 x).wf = true → Try.prog.keyLits (d + 1) 3 [.int .i64 x] = some [.int .i64 x] := fun d x hx => by
    simp [Program.keyLits, Try.underlying3, hx]
  have hk : Try.prog.keyLits (125 + 1) 48 [.int .i64 c, .int .i64 s] = some [.int .i64 c, .int .i64 s] := by
    unfold Program.keyLits
    simp [Try.underlying48, cells_key, cells_int, hi _ _ h1, hi _ _ h2]
  unfold keyOf
  simp only [Try.underlying48, keyType_key, hf, Bool.and_self, if_true, sizeT]
  rw [show (kyV c s).cells.toList = [.int .i64 c, .int .i64 s] from rfl, hk]
  rfl
theorem ky_inj {c s c' s' : Int} (hc : I64 c) (hs : I64 s) (hc' : I64 c') (hs' : I64 s') (h : ky c s = ky c' s') : c = c' ∧ s = s' := by
  have := kKey.inj (ky_of hc hs) (h ▸ ky_of hc' hs')
  unfold kyV at this
  simp at this
  exact this
theorem ky_key {c s : Int} (hc : I64 c) (hs : I64 s) : WideAt.IsKeyLit (ky c s) := kKey.key (ky_of hc hs)
theorem i_key (c : Int) : WideAt.IsKeyLit (.int .i64 c) := trivial

/-! ### maps whose values are told as they are -/
abbrev DV := DataW Value
def HV (v : Value) : Option (DV × List MemPlace) := some (.held v, [])
/-- Block b is a map that reads as D. -/
def MV (w : World) (k : TypeId) (b : Nat) (D : DV) : Prop := w.ownsMap Try.prog k HV b (Maps.size D) D
theorem MV.of {w : World} {k : TypeId} {b n : Nat} {D : DV} (h : w.ownsMap Try.prog k HV b n D) : MV w k b D := by
  obtain ⟨es, clock, hb, F, hs, rfl⟩ := h
  refine ⟨es, clock, hb, F, ?_, rfl⟩
  rw [Maps.size_eq, length_sorted]; simp
theorem MV.fr {S : Nat → Prop} {w w' : World} {k : TypeId} {b : Nat} {D : DV} (h : MV w k b D) (hf : Fr S w w') (hb : ¬ S b) : MV w' k b D := by
  obtain ⟨es, clock, h1, h2⟩ := h
  exact ⟨es, clock, (hf.block b (World.ownsMap.lt ⟨es, clock, h1, h2⟩) hb).trans h1, h2⟩
theorem MV.lt {w : World} {k : TypeId} {b : Nat} {D : DV} (h : MV w k b D) : b < w.heap.size := World.ownsMap.lt h
theorem MV.ne {w : World} {k : TypeId} {b g : Nat} {t : TypeId} {cs : Array Value} {D : DV} (h : MV w k b D) (hg : Bk w g t cs) : g ≠ b := by
  rintro rfl
  obtain ⟨es, clock, h1, _⟩ := h
  unfold Bk at hg
  rw [hg] at h1
  cases h1
theorem MV.new (w : World) (k : TypeId) : MV (w.alloc (.map #[] 0)) k w.heap.size (.map []) := MV.of (World.ownsMap_made w Try.prog k HV)
theorem MV.isMap {w : World} {k : TypeId} {b : Nat} {D : DV} (h : MV w k b D) : IsMap D := World.ownsMap.isMap h
theorem MV.tidy {w : World} {k : TypeId} {b : Nat} {D : DV} (h : MV w k b D) (K : Keyed Try.prog k) : Tidy D := World.ownsMap.tidy h K
/-- What stands at a key. -/
def At (D : DV) (l : Lit) (v : Value) : Prop := has D l = true ∧ ∀ z, D.atKey l z = .held v
theorem At.one {D : DV} {l : Lit} {v u : Value} (h : At D l v) (k : At D l u) : v = u := by
  have := (h.2 .nil).symm.trans (k.2 .nil)
  injection this
theorem At.not {D : DV} {l : Lit} {v : Value} (h : At D l v) (k : has D l = false) : False := by rw [h.1] at k; cases k
theorem At.put {w : World} {k : TypeId} {b : Nat} {D : DV} (h : MV w k b D) {l : Lit} (hl : WideAt.IsKeyLit l) (v : Value) : At (D.put l (.held v)) l v :=
  ⟨has_put_same h.isMap hl _, fun z => atKey_put_same h.isMap hl _ z⟩
theorem At.put_ne {D : DV} {l l' : Lit} {v u : Value} (h : At D l v) (hne : l ≠ l') : At (D.put l' (.held u)) l v :=
  ⟨(has_put_other hne _).trans h.1, fun z => (atKey_put_other hne _ z).trans (h.2 z)⟩
theorem At.del_ne {D : DV} {l l' : Lit} {v : Value} (h : At D l v) (hne : l ≠ l') : At (D.del l') l v :=
  ⟨(has_del_other hne).trans h.1, fun z => (atKey_del_other hne z).trans (h.2 z)⟩
end Go.Proofs.Ytdfkoehcmgcoiaa
