/- Maps told as they are; a book of a history in memory. -/
import Derived.Test.YtkinbcmnfpkncaaDoorMb
import Derived.Test.YtkinbcmnfpkncaaDoorMapI
import Derived.Test.YtkinbcmnfpkncaaDoorMemI
import Derived.DeepKeys4
import Derived.OpenShut
namespace Go.Proofs.YtkinbcmnfpkncaaDoor
open Go.RowKit Go.Maps

theorem laidOutM : laidOutB Tryd.prog = true := by kernel_rfl
theorem thgRow : (145 : TypeId) < Tryd.prog.types.size := of_decide_eq_true (by kernel_rfl)
theorem kThg : Keyed Tryd.prog 145 := Keyed.of_law (deep_law_laid laidOutM (m := 3) (by omega) thgRow (by kernel_rfl) (by kernel_rfl))
theorem keyType_thg : Tryd.prog.keyType 145 = true := by kernel_rfl
theorem cells_thg : Tryd.prog.cellsOf 145 = 2 := by kernel_rfl
theorem cells_int : Tryd.prog.cellsOf 3 = 1 := by kernel_rfl
theorem sizeT : Tryd.prog.types.size = 177 := by kernel_rfl
/-- A key as a value. -/
def thV (c s : Int) : Value := .agg #[.int .i64 c, .int .i64 s]
def th (c s : Int) : Lit := .string (keyBytes [.int .i64 c, .int .i64 s])
theorem th_of {c s : Int} (hc : I64 c) (hs : I64 s) : keyOf Tryd.prog 145 (thV c s) = some (th c s) := by
  have h1 := hc.wf
  have h2 := hs.wf
  have hf : (thV c s).formed Tryd.prog 145 = true := by simp [thV, Value.formed, Tryd.underlying145, cells_thg]
  have hi : ∀ d x, (Lit.int .i64 x).wf = true → Tryd.prog.keyLits (d + 1) 3 [.int .i64 x] = some [.int .i64 x] := fun d x hx => by
    simp [Program.keyLits, Tryd.underlying3, hx]
  have hk : Tryd.prog.keyLits (177 + 1) 145 [.int .i64 c, .int .i64 s] = some [.int .i64 c, .int .i64 s] := by
    unfold Program.keyLits
    simp [Tryd.underlying145, cells_thg, cells_int, hi _ _ h1, hi _ _ h2]
  unfold keyOf
  simp only [Tryd.underlying145, keyType_thg, hf, Bool.and_self, if_true, sizeT]
  rw [show (thV c s).cells.toList = [.int .i64 c, .int .i64 s] from rfl, hk]
  rfl
theorem th_inj {c s c' s' : Int} (hc : I64 c) (hs : I64 s) (hc' : I64 c') (hs' : I64 s') (h : th c s = th c' s') : c = c' ∧ s = s' := by
  have := kThg.inj (th_of hc hs) (h ▸ th_of hc' hs')
  unfold thV at this
  simp at this
  exact this
theorem th_key {c s : Int} (hc : I64 c) (hs : I64 s) : WideAt.IsKeyLit (th c s) := kThg.key (th_of hc hs)
theorem i_key (c : Int) : WideAt.IsKeyLit (.int .i64 c) := trivial

/-! ### maps whose values are told as they are -/
abbrev DV := DataW Value
def HV (v : Value) : Option (DV × List MemPlace) := some (.held v, [])
/-- Block b is a map that reads as D. -/
def MV (w : World) (k : TypeId) (b : Nat) (D : DV) : Prop := w.ownsMap Tryd.prog k HV b (Maps.size D) D
theorem MV.of {w : World} {k : TypeId} {b n : Nat} {D : DV} (h : w.ownsMap Tryd.prog k HV b n D) : MV w k b D := by
  obtain ⟨es, clock, hb, F, hs, rfl⟩ := h
  refine ⟨es, clock, hb, F, ?_, rfl⟩
  rw [Maps.size_eq, length_sorted]; simp
theorem MV.fr {S : Nat → Prop} {w w' : World} {k : TypeId} {b : Nat} {D : DV} (h : MV w k b D) (hf : Fr S w w') (hb : ¬ S b) : MV w' k b D := by
  obtain ⟨es, clock, h1, h2⟩ := h
  exact ⟨es, clock, (hf.block b (World.ownsMap.lt ⟨es, clock, h1, h2⟩) hb).trans h1, h2⟩
theorem MV.lt {w : World} {k : TypeId} {b : Nat} {D : DV} (h : MV w k b D) : b < w.heap.size := World.ownsMap.lt h
theorem MV.ne {w : World} {k : TypeId} {b g : Nat} {t : TypeId} {cs : Array Value} {D : DV} (h : MV w k b D) (hg : Bk w g t cs) : g ≠ b := by
  rintro rfl
  obtain ⟨es, clock, h1, _⟩ := h
  unfold Bk at hg
  rw [hg] at h1
  cases h1
theorem MV.new (w : World) (k : TypeId) : MV (w.alloc (.map #[] 0)) k w.heap.size (.map []) := MV.of (World.ownsMap_made w Tryd.prog k HV)
theorem MV.isMap {w : World} {k : TypeId} {b : Nat} {D : DV} (h : MV w k b D) : IsMap D := World.ownsMap.isMap h
theorem MV.tidy {w : World} {k : TypeId} {b : Nat} {D : DV} (h : MV w k b D) (K : Keyed Tryd.prog k) : Tidy D := World.ownsMap.tidy h K
/-- What stands at a key. -/
def At (D : DV) (l : Lit) (v : Value) : Prop := has D l = true ∧ ∀ z, D.atKey l z = .held v
theorem At.one {D : DV} {l : Lit} {v u : Value} (h : At D l v) (k : At D l u) : v = u := by
  have := (h.2 .nil).symm.trans (k.2 .nil)
  injection this
theorem At.not {D : DV} {l : Lit} {v : Value} (h : At D l v) (k : has D l = false) : False := by rw [h.1] at k; cases k
theorem At.put {w : World} {k : TypeId} {b : Nat} {D : DV} (h : MV w k b D) {l : Lit} (hl : WideAt.IsKeyLit l) (v : Value) : At (D.put l (.held v)) l v :=
  ⟨has_put_same h.isMap hl _, fun z => atKey_put_same h.isMap hl _ z⟩
theorem At.put_ne {D : DV} {l l' : Lit} {v u : Value} (h : At D l v) (hne : l ≠ l') : At (D.put l' (.held u)) l v :=
  ⟨(has_put_other hne _).trans h.1, fun z => (atKey_put_other hne _ z).trans (h.2 z)⟩
theorem At.del_ne {D : DV} {l l' : Lit} {v : Value} (h : At D l v) (hne : l ≠ l') : At (D.del l') l v :=
  ⟨(has_del_other hne).trans h.1, fun z => (atKey_del_other hne z).trans (h.2 z)⟩
section
variable {w : World} {k t e : TypeId} {b : Nat} {D : DV}
theorem MV.at1 (h : MV w k b D) (K : Keyed Tryd.prog k) (ht : Tryd.prog.underlying t = some (.map k e)) {z : Value} (hz : (zeroValue e).run Tryd.prog w = .ok z w) {key v : Value} {kl : Lit} (hkey : keyOf Tryd.prog k key = some kl) (ha : At D kl v) :
    (Instr.lookup t (.map (some b)) key true).run Tryd.prog w = .ok (.tuple #[v, .bool true]) w ∧ (Instr.lookup t (.map (some b)) key false).run Tryd.prog w = .ok v w := by
  obtain ⟨u, ps, h1, h2⟩ := World.ownsMap.look_ok h K ht hz (zd := .held z) (zp := []) rfl hkey
  obtain ⟨u', ps', h3, h4⟩ := World.ownsMap.lookup h K ht hz (zd := .held z) (zp := []) rfl hkey
  rw [ha.2] at h2 h4
  rw [ha.1] at h1
  have e1 : u = v := by unfold HV at h2; simp at h2; exact h2.1
  have e2 : u' = v := by unfold HV at h4; simp at h4; exact h4.1
  subst e1 e2
  exact ⟨h1, h3⟩
theorem MV.at0 (h : MV w k b D) (K : Keyed Tryd.prog k) (ht : Tryd.prog.underlying t = some (.map k e)) {z : Value} (hz : (zeroValue e).run Tryd.prog w = .ok z w) {key : Value} {kl : Lit} (hkey : keyOf Tryd.prog k key = some kl) (ha : has D kl = false) :
    (Instr.lookup t (.map (some b)) key true).run Tryd.prog w = .ok (.tuple #[z, .bool false]) w ∧ (Instr.lookup t (.map (some b)) key false).run Tryd.prog w = .ok z w := by
  obtain ⟨u, ps, h1, h2⟩ := World.ownsMap.look_ok h K ht hz (zd := .held z) (zp := []) rfl hkey
  obtain ⟨u', ps', h3, h4⟩ := World.ownsMap.lookup h K ht hz (zd := .held z) (zp := []) rfl hkey
  rw [atKey_of_not_has ha] at h2 h4
  rw [ha] at h1
  have e1 : u = z := by unfold HV at h2; simp at h2; exact h2.1
  have e2 : u' = z := by unfold HV at h4; simp at h4; exact h4.1
  subst e1 e2
  exact ⟨h1, h3⟩
end
theorem MV.update {w : World} {k t e : TypeId} {b : Nat} {D : DV} (h : MV w k b D) (K : Keyed Tryd.prog k) (ht : Tryd.prog.underlying t = some (.map k e)) (hn : Maps.size D < 9223372036854775807) {key val : Value} {kl : Lit} (hkey : keyOf Tryd.prog k key = some kl) :
    ∃ w', (Instr.mapUpdate t (.map (some b)) key val).run Tryd.prog w = .ok () w' ∧ MV w' k b (D.put kl (.held val)) ∧ Fr (fun x => x = b) w w' := by
  obtain ⟨w', h1, h2, h3⟩ := World.ownsMap.update h K ht (by unfold maxLen; exact hn) hkey (val := val) (d := .held val) (ps := []) rfl
  exact ⟨w', h1, MV.of h2, (Fr.of_grown h3).mono (fun _ _ e => (Option.some.inj e).symm)⟩

theorem MV.delete {w : World} {k t e : TypeId} {b : Nat} {D : DV} (h : MV w k b D) (K : Keyed Tryd.prog k) (ht : Tryd.prog.underlying t = some (.map k e)) {key : Value} {kl : Lit} (hkey : keyOf Tryd.prog k key = some kl) (ty : TypeId) :
    ∃ w', (Builtin.delete_ #[t, k] ty #[.map (some b), key]).run Tryd.prog w = .ok (.tuple #[]) w' ∧ MV w' k b (D.del kl) ∧ Fr (fun x => x = b) w w' := by
  obtain ⟨w', h1, h2, h3⟩ := World.ownsMap.drop h K ht hkey ty
  exact ⟨w', h1, MV.of h2, Fr.of_turned h3⟩
/-- What no key is. -/
theorem has_del_ne {D : DV} {l l' : Lit} (hne : l ≠ l') : has (D.del l') l = has D l := has_del_other hne
theorem lits_int {d : Nat} {a : Value} {ls : List Lit} (h : Tryd.prog.keyLits (d + 1) 3 [a] = some ls) : ∃ x, a = .int .i64 x ∧ I64 x := by
  unfold Program.keyLits at h
  simp only [Tryd.underlying3] at h
  cases a with
  | int q n =>
    simp only at h
    split at h
    · rename_i hc
      obtain ⟨rfl, hw⟩ := hc
      have := bounds_i64 hw
      exact ⟨n, rfl, this.1, this.2⟩
    · cases h
  | _ => cases h
theorem th_lits {a b : Value} {ls : List Lit} {d : Nat} (h : Tryd.prog.keyLits (d + 2) 145 [a, b] = some ls) : ∃ x y, a = .int .i64 x ∧ b = .int .i64 y ∧ I64 x ∧ I64 y := by
  unfold Program.keyLits at h
  simp [Tryd.underlying145, cells_thg, cells_int] at h
  have ha : ∃ l1, Tryd.prog.keyLits (d + 1) 3 [a] = some l1 := by
    cases hx : Tryd.prog.keyLits (d + 1) 3 [a] with
    | none => rw [hx] at h; simp at h
    | some l1 => exact ⟨l1, rfl⟩
  have hb : ∃ l1, Tryd.prog.keyLits (d + 1) 3 [b] = some l1 := by
    obtain ⟨l1, hl1⟩ := ha
    cases hx : Tryd.prog.keyLits (d + 1) 3 [b] with
    | none => rw [hl1, hx] at h; simp at h
    | some l1 => exact ⟨l1, rfl⟩
  obtain ⟨l1, h1⟩ := ha
  obtain ⟨l2, h2⟩ := hb
  obtain ⟨x, e1, i1⟩ := lits_int h1
  obtain ⟨y, e2, i2⟩ := lits_int h2
  exact ⟨x, y, e1, e2, i1, i2⟩
theorem list_two {l : List Value} (h : l.length = 2) : ∃ a b, l = [a, b] := by
  match l, h with
  | [a, b], _ => exact ⟨a, b, rfl⟩
theorem th_inv {v : Value} {kl : Lit} (h : keyOf Tryd.prog 145 v = some kl) : ∃ x : Int × Int, v = thV x.1 x.2 ∧ I64 x.1 ∧ I64 x.2 := by
  unfold keyOf at h
  simp only [Tryd.underlying145] at h
  split at h
  · rename_i hf
    simp only [Bool.and_eq_true] at hf
    have hf2 := hf.2
    clear hf
    obtain ⟨ls, hls, _⟩ := Option.map_eq_some_iff.1 h
    clear h
    cases v with
    | agg cs =>
      simp only [Value.formed, Tryd.underlying145, cells_thg, beq_iff_eq] at hf2
      obtain ⟨l⟩ := cs
      have hl : l.length = 2 := by simpa using hf2
      obtain ⟨a, b, rfl⟩ := list_two hl
      obtain ⟨d, hd⟩ : ∃ d, Tryd.prog.types.size + 1 = d + 2 := ⟨Tryd.prog.types.size - 1, by have := sizeT; omega⟩
      rw [hd] at hls
      obtain ⟨x, y, rfl, rfl, i1, i2⟩ := th_lits hls
      exact ⟨(x, y), rfl, i1, i2⟩
    | _ => simp [Value.formed, Tryd.underlying145] at hf2
  · cases h
end Go.Proofs.YtkinbcmnfpkncaaDoor
