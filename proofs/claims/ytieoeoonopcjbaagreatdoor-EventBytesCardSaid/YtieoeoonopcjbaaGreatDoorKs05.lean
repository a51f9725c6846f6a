import Derived.Test.YtieoeoonopcjbaaGreatDoorKs04
import Derived.Test.YtieoeoonopcjbaaGreatDoorChecked
import Derived.Maps.OwnOps
import Derived.Maps.OwnSet
import Derived.Maps.RangeWalk
import Derived.DeepKeys4
import Derived.OpenShut
import Derived.Deep.RegionHeld3
import Derived.Deep.QuietTactic
import Derived.BigQuiet
import Derived.StillTailTactics
import Derived.IntWalk
import Derived.Handy

/- Maps of ints that a call owns. -/
namespace Go.Proofs.YtieoeoonopcjbaaGreatDoor
open Go.RowKit Go.Maps

theorem kInt : Keyed Tryz.prog 3 := int_keyed Tryz.underlying3
theorem zeroInt (w : World) : (zeroValue 3).run Tryz.prog w = .ok (.int .i64 0) w := by kernel_rfl
/-- A number that an int holds. -/
def I64 (x : Int) : Prop := -9223372036854775808 ≤ x ∧ x ≤ 9223372036854775807
theorem I64.wf {x : Int} (h : I64 x) : (Lit.int .i64 x).wf = true := by
  have h1 := h.1
  have h2 := h.2
  exact WalkArith.wf_i64 (by omega)
theorem I64.key {x : Int} (h : I64 x) : keyOf Tryz.prog 3 (.int .i64 x) = some (.int .i64 x) := keyOf_int_mk Tryz.underlying3 h.wf

/-- Block b is a map of ints, of at most n entries, that reads as D. -/
def AM (w : World) (b n : Nat) (D : DataW Unit) : Prop := w.ownsMap Tryz.prog 3 (plainElem Tryz.prog 3) b n D
theorem AM.fr {S : Nat → Prop} {w w' : World} {b n : Nat} {D : DataW Unit} (h : AM w b n D) (hf : Fr S w w') (hb : ¬ S b) : AM w' b n D := by
  obtain ⟨es, clock, h1, h2⟩ := h
  exact ⟨es, clock, (hf.block b (World.ownsMap.lt ⟨es, clock, h1, h2⟩) hb).trans h1, h2⟩
theorem AM.lt {w : World} {b n : Nat} {D : DataW Unit} (h : AM w b n D) : b < w.heap.size := World.ownsMap.lt h
theorem AM.ne {w : World} {b n g : Nat} {t : TypeId} {cs : Array Value} {D : DataW Unit} (h : AM w b n D) (hg : Bk w g t cs) : g ≠ b := by
  rintro rfl
  obtain ⟨es, clock, h1, _⟩ := h
  unfold Bk at hg
  rw [hg] at h1
  cases h1
theorem Fr.of_turned {w w' : World} {b : Nat} (h : w.mapTurned w' b) : Fr (fun k => k = b) w w' := (Fr.of_grown h.grown).mono (fun _ _ e => (Option.some.inj e).symm)

end Go.Proofs.YtieoeoonopcjbaaGreatDoor

/- Rows of ints of the call's own; appends of one int. -/
namespace Go.Proofs.YtieoeoonopcjbaaGreatDoor
open Go.RowKit

theorem Tryz.infoInt : (Tryz.prog.info? 3).map (fun i => (i.zero, i.size, i.bytes)) = some (some (.int .i64 0), 1, 8) := by kernel_rfl
def IV (x : Int) : Value := .int .i64 x
theorem IV_one (xs : List Int) : ∀ u ∈ xs.map IV, u.oneCell' = true := by
  intro u hu
  obtain ⟨b, _, rfl⟩ := List.mem_map.1 hu
  rfl
/-- A row of ints of the call's own. -/
def OwnI (w : World) (v : Value) (xs : List Int) : Prop := w.ownsRow 0 3 1 v xs.length (xs.map IV)
theorem OwnI.nil (w : World) : OwnI w (.slice none 0 0) [] := World.ownsRow_nil w 0 3 1
theorem OwnI.lt {w : World} {v : Value} {xs : List Int} (h : OwnI w v xs) {k : Nat} (hk : v.ownBlock = some k) : k < w.heap.size := (World.ownsRow.lt h k hk).2
theorem OwnI.fr {S : Nat → Prop} {w w' : World} {v : Value} {xs : List Int} (h : OwnI w v xs) (hb : Fr S w w') (hS : ∀ k, v.ownBlock = some k → ¬ S k) : OwnI w' v xs := by
  refine ⟨h.1, ?_⟩
  rcases h.2 with hn | ⟨g, cap, cur, rfl, hb0, hgg, rest⟩
  · exact .inl hn
  · refine .inr ⟨g, cap, cur, rfl, hb0, ?_, rest⟩
    rw [hb.block g (Array.getElem?_eq_some_iff.1 hgg).1 (hS g rfl)]
    exact hgg
theorem OwnI.ne {w : World} {t : TypeId} {v : Value} {xs : List Int} {g : Nat} {cs : Array Value} (h : OwnI w v xs) (hg : Bk w g t cs) (hne : 3 ≠ t) : v.ownBlock ≠ some g := by
  rcases h.2 with ⟨rfl, _⟩ | ⟨g', cap, cur, rfl, _, hh, _⟩
  · simp [Value.ownBlock]
  · intro he
    have : g' = g := by simpa [Value.ownBlock] using he
    subst this
    exact Bk.ne (t := 3) hh hg hne rfl
/-- What it is: nil, or a slice at the head of a block whose cells are known. -/
theorem OwnI.form {w : World} {v : Value} {xs : List Int} (h : OwnI w v xs) : (v = .slice none 0 0 ∧ xs = []) ∨ ∃ g cap cur, v = .slice (some ⟨g, 0, none⟩) xs.length cap ∧ xs.length ≤ cap ∧ cap ≤ maxLen ∧ Bk w g 3 cur ∧ ∀ j (hj : j < xs.length), cur[j]? = some (IV xs[j]) := by
  rcases h.2 with ⟨rfl, h0⟩ | ⟨g, cap, cur, rfl, _, hh, h1, h2, h3, h4⟩
  · exact .inl ⟨rfl, List.eq_nil_of_length_eq_zero h0⟩
  · refine .inr ⟨g, cap, cur, rfl, h1, h2, hh, fun j hj => ?_⟩
    have h5 := congrArg (fun l => l[j]?) h4
    simp only [Nat.mul_one, List.getElem?_take, if_pos hj, List.getElem?_map, List.getElem?_eq_getElem hj, Option.map_some, Array.getElem?_toList] at h5
    exact h5
theorem OwnI.cell {w : World} {xs : List Int} {g n cap : Nat} (h : OwnI w (.slice (some ⟨g, 0, none⟩) n cap) xs) (j : Nat) (hj : j < xs.length) : w.cell? ⟨g, j, none⟩ = some (IV xs[j]) := by
  have := World.ownsRow.cells h (g := g) rfl j (IV xs[j]) (by simp [hj])
  have hadd : (⟨g, 0, none⟩ : Addr).add j = ⟨g, j, none⟩ := by unfold Addr.add; split <;> simp_all
  rw [hadd] at this
  exact this

section
variable (w : World)
/-- append(s, x): the int lies in a new block of its own. -/
theorem wpList_appendI {ops : Array Oper} {rest : List Oper} {o : Oper} {a : Act} {Q : Exit → Act → World → Prop} (hgd : o.guard = none) (s x : Operand)
    (ho : o.op = .call { callee := .builtin .append, args := #[s, x], argTypes := #[94, 94] })
    (v : Value) (xs : List Int) (hs : a.eval s = v) (n : Int) (hown : OwnI w v xs) (hx : a.eval x = .slice (some ⟨w.heap.size, 0, none⟩) 1 1) (hlen : xs.length ≤ 17592186044415)
    (h : ∀ g' c' w', OwnI w' (.slice (some ⟨g', 0, none⟩) (xs.length + 1) c') (xs ++ [n]) → Fr (fun k => v.ownBlock = some k) w w' → Moved w v (.slice (some ⟨g', 0, none⟩) (xs.length + 1) c') → wpList Tryz.prog ops Q rest (a.put o.dst (.slice (some ⟨g', 0, none⟩) (xs.length + 1) c')) w') :
    wpList Tryz.prog ops Q (o :: rest) a (w.alloc (.cells #[.int .i64 n] 3)) := by
  obtain ⟨i0, hi, hz0, hz1, hz2⟩ := info_parts Tryz.infoInt
  have hf : Fr (fun _ => False) w (w.alloc (.cells #[.int .i64 n] 3)) := (Fr.refl _ _).alloc _
  have hown' : OwnI (w.alloc (.cells #[.int .i64 n] 3)) v xs := hown.fr hf (fun _ _ h => h)
  refine wpList_append_own_at (P := Tryz.prog) _ hgd s x 94 ho 0 3 i0 (.int .i64 0) 1 8 Tryz.underlying94 hi hz0 hz1 hz2 rfl (by decide) v xs.length (xs.map IV) hs hown' ⟨w.heap.size, 0, none⟩ 1 1 [.int .i64 n] hx rfl
    (fun j u hu => ?_) (fun u hu => ?_) (by unfold maxLen; omega) (by omega) (Nat.zero_le _) (fun v' w' h1 h2 h3 h4 => ?_)
  · have : j = 0 ∧ u = .int .i64 n := by
      match j with
      | 0 => simpa [eq_comm] using hu
      | j + 1 => simp at hu
    obtain ⟨rfl, rfl⟩ := this
    exact (Bk.new w 3 #[.int .i64 n]).cell 0
  · simp at hu; subst hu; rfl
  · have ho' : OwnI w' v' (xs ++ [n]) := by unfold OwnI; simpa [IV] using h1
    rcases ho'.form with ⟨_, h0⟩ | ⟨g, cap, cur, rfl, _, _, _, _⟩
    · simp at h0
    · simp only [List.length_append, List.length_singleton] at *
      refine h g cap w' ho' ((hf.mono (fun _ _ h => h.elim)).trans (Fr.of_grown h2) (fun _ _ e => e.symm ▸ rfl)) (h4.imp id (fun e => ⟨_, e, by simp⟩))
end
end Go.Proofs.YtieoeoonopcjbaaGreatDoor

/- Maps told as they are; a book of a history in memory. -/
namespace Go.Proofs.YtieoeoonopcjbaaGreatDoor
open Go.RowKit Go.Maps

theorem laidOutM : laidOutB Tryz.prog = true := by kernel_rfl
theorem thgRow : (211 : TypeId) < Tryz.prog.types.size := of_decide_eq_true (by kernel_rfl)
theorem kThg : Keyed Tryz.prog 211 := Keyed.of_law (deep_law_laid laidOutM (m := 3) (by omega) thgRow (by kernel_rfl) (by kernel_rfl))
theorem keyType_thg : Tryz.prog.keyType 211 = true := by kernel_rfl
theorem cells_thg : Tryz.prog.cellsOf 211 = 2 := by kernel_rfl
theorem cells_int : Tryz.prog.cellsOf 3 = 1 := by kernel_rfl
theorem sizeT : Tryz.prog.types.size = 299 := by kernel_rfl
/-- A key as a value. -/
def thV (c s : Int) : Value := .agg #[.int .i64 c, .int .i64 s]
def th (c s : Int) : Lit := .string (keyBytes [.int .i64 c, .int .i64 s])
theorem th_of {c s : Int} (hc : I64 c) (hs : I64 s) : keyOf Tryz.prog 211 (thV c s) = some (th c s) := by
  have h1 := hc.wf
  have h2 := hs.wf
  have hf : (thV c s).formed Tryz.prog 211 = true := by simp [thV, Value.formed, Tryz.underlying211, cells_thg]
  have hi : ∀ d x, (Lit.int .i64 x).wf = true → Tryz.prog.keyLits (d + 1) 3 [.int .i64 x] = some [.int .i64 x] := fun d x hx => by
    simp [Program.keyLits, Tryz.underlying3, hx]
  have hk : Tryz.prog.keyLits (299 + 1) 211 [.int .i64 c, .int .i64 s] = some [.int .i64 c, .int .i64 s] := by
    unfold Program.keyLits
    simp [Tryz.underlying211, cells_thg, cells_int, hi _ _ h1, hi _ _ h2]
  unfold keyOf
  simp only [Tryz.underlying211, keyType_thg, hf, Bool.and_self, if_true, sizeT]
  rw [show (thV c s).cells.toList = [.int .i64 c, .int .i64 s] from rfl, hk]
  rfl
theorem th_inj {c s c' s' : Int} (hc : I64 c) (hs : I64 s) (hc' : I64 c') (hs' : I64 s') (h : th c s = th c' s') : c = c' ∧ s = s' := by
  have := kThg.inj (th_of hc hs) (h ▸ th_of hc' hs')
  unfold thV at this
  simp at this
  exact this
theorem th_key {c s : Int} (hc : I64 c) (hs : I64 s) : WideAt.IsKeyLit (th c s) := kThg.key (th_of hc hs)
theorem i_key (c : Int) : WideAt.IsKeyLit (.int .i64 c) := trivial

/-! ### maps whose values are told as they are -/
abbrev DV := DataW Value
def HV (v : Value) : Option (DV × List MemPlace) := some (.held v, [])
/-- Block b is a map that reads as D. -/
def MV (w : World) (k : TypeId) (b : Nat) (D : DV) : Prop := w.ownsMap Tryz.prog k HV b (Maps.size D) D
theorem MV.of {w : World} {k : TypeId} {b n : Nat} {D : DV} (h : w.ownsMap Tryz.prog k HV b n D) : MV w k b D := by
  obtain ⟨es, clock, hb, F, hs, rfl⟩ := h
  refine ⟨es, clock, hb, F, ?_, rfl⟩
  rw [Maps.size_eq, length_sorted]; simp
theorem MV.fr {S : Nat → Prop} {w w' : World} {k : TypeId} {b : Nat} {D : DV} (h : MV w k b D) (hf : Fr S w w') (hb : ¬ S b) : MV w' k b D := by
  obtain ⟨es, clock, h1, h2⟩ := h
  exact ⟨es, clock, (hf.block b (World.ownsMap.lt ⟨es, clock, h1, h2⟩) hb).trans h1, h2⟩
theorem MV.lt {w : World} {k : TypeId} {b : Nat} {D : DV} (h : MV w k b D) : b < w.heap.size := World.ownsMap.lt h
theorem MV.ne {w : World} {k : TypeId} {b g : Nat} {t : TypeId} {cs : Array Value} {D : DV} (h : MV w k b D) (hg : Bk w g t cs) : g ≠ b := by
  rintro rfl
  obtain ⟨es, clock, h1, _⟩ := h
  unfold Bk at hg
  rw [hg] at h1
  cases h1
theorem MV.new (w : World) (k : TypeId) : MV (w.alloc (.map #[] 0)) k w.heap.size (.map []) := MV.of (World.ownsMap_made w Tryz.prog k HV)
theorem MV.isMap {w : World} {k : TypeId} {b : Nat} {D : DV} (h : MV w k b D) : IsMap D := World.ownsMap.isMap h
theorem MV.tidy {w : World} {k : TypeId} {b : Nat} {D : DV} (h : MV w k b D) (K : Keyed Tryz.prog k) : Tidy D := World.ownsMap.tidy h K
/-- What stands at a key. -/
def At (D : DV) (l : Lit) (v : Value) : Prop := has D l = true ∧ ∀ z, D.atKey l z = .held v
theorem At.one {D : DV} {l : Lit} {v u : Value} (h : At D l v) (k : At D l u) : v = u := by
  have := (h.2 .nil).symm.trans (k.2 .nil)
  injection this
theorem At.not {D : DV} {l : Lit} {v : Value} (h : At D l v) (k : has D l = false) : False := by rw [h.1] at k; cases k
theorem At.put {w : World} {k : TypeId} {b : Nat} {D : DV} (h : MV w k b D) {l : Lit} (hl : WideAt.IsKeyLit l) (v : Value) : At (D.put l (.held v)) l v :=
  ⟨has_put_same h.isMap hl _, fun z => atKey_put_same h.isMap hl _ z⟩
theorem At.put_ne {D : DV} {l l' : Lit} {v u : Value} (h : At D l v) (hne : l ≠ l') : At (D.put l' (.held u)) l v :=
  ⟨(has_put_other hne _).trans h.1, fun z => (atKey_put_other hne _ z).trans (h.2 z)⟩
theorem At.del_ne {D : DV} {l l' : Lit} {v : Value} (h : At D l v) (hne : l ≠ l') : At (D.del l') l v :=
  ⟨(has_del_other hne).trans h.1, fun z => (atKey_del_other hne z).trans (h.2 z)⟩
section
variable {w : World} {k t e : TypeId} {b : Nat} {D : DV}
theorem MV.at1 (h : MV w k b D) (K : Keyed Tryz.prog k) (ht : Tryz.prog.underlying t = some (.map k e)) {z : Value} (hz : (zeroValue e).run Tryz.prog w = .ok z w) {key v : Value} {kl : Lit} (hkey : keyOf Tryz.prog k key = some kl) (ha : At D kl v) :
    (Instr.lookup t (.map (some b)) key true).run Tryz.prog w = .ok (.tuple #[v, .bool true]) w ∧ (Instr.lookup t (.map (some b)) key false).run Tryz.prog w = .ok v w := by
  obtain ⟨u, ps, h1, h2⟩ := World.ownsMap.look_ok h K ht hz (zd := .held z) (zp := []) rfl hkey
  obtain ⟨u', ps', h3, h4⟩ := World.ownsMap.lookup h K ht hz (zd := .held z) (zp := []) rfl hkey
  rw [ha.2] at h2 h4
  rw [ha.1] at h1
  have e1 : u = v := by unfold HV at h2; simp at h2; exact h2.1
  have e2 : u' = v := by unfold HV at h4; simp at h4; exact h4.1
  subst e1 e2
  exact ⟨h1, h3⟩
theorem MV.at0 (h : MV w k b D) (K : Keyed Tryz.prog k) (ht : Tryz.prog.underlying t = some (.map k e)) {z : Value} (hz : (zeroValue e).run Tryz.prog w = .ok z w) {key : Value} {kl : Lit} (hkey : keyOf Tryz.prog k key = some kl) (ha : has D kl = false) :
    (Instr.lookup t (.map (some b)) key true).run Tryz.prog w = .ok (.tuple #[z, .bool false]) w ∧ (Instr.lookup t (.map (some b)) key false).run Tryz.prog w = .ok z w := by
  obtain ⟨u, ps, h1, h2⟩ := World.ownsMap.look_ok h K ht hz (zd := .held z) (zp := []) rfl hkey
  obtain ⟨u', ps', h3, h4⟩ := World.ownsMap.lookup h K ht hz (zd := .held z) (zp := []) rfl hkey
  rw [atKey_of_not_has ha] at h2 h4
  rw [ha] at h1
  have e1 : u = z := by unfold HV at h2; simp at h2; exact h2.1
  have e2 : u' = z := by unfold HV at h4; simp at h4; exact h4.1
  subst e1 e2
  exact ⟨h1, h3⟩
end
theorem MV.update {w : World} {k t e : TypeId} {b : Nat} {D : DV} (h : MV w k b D) (K : Keyed Tryz.prog k) (ht : Tryz.prog.underlying t = some (.map k e)) (hn : Maps.size D < 9223372036854775807) {key val : Value} {kl : Lit} (hkey : keyOf Tryz.prog k key = some kl) :
    ∃ w', (Instr.mapUpdate t (.map (some b)) key val).run Tryz.prog w = .ok () w' ∧ MV w' k b (D.put kl (.held val)) ∧ Fr (fun x => x = b) w w' := by
  obtain ⟨w', h1, h2, h3⟩ := World.ownsMap.update h K ht (by unfold maxLen; exact hn) hkey (val := val) (d := .held val) (ps := []) rfl
  exact ⟨w', h1, MV.of h2, (Fr.of_grown h3).mono (fun _ _ e => (Option.some.inj e).symm)⟩

theorem MV.delete {w : World} {k t e : TypeId} {b : Nat} {D : DV} (h : MV w k b D) (K : Keyed Tryz.prog k) (ht : Tryz.prog.underlying t = some (.map k e)) {key : Value} {kl : Lit} (hkey : keyOf Tryz.prog k key = some kl) (ty : TypeId) :
    ∃ w', (Builtin.delete_ #[t, k] ty #[.map (some b), key]).run Tryz.prog w = .ok (.tuple #[]) w' ∧ MV w' k b (D.del kl) ∧ Fr (fun x => x = b) w w' := by
  obtain ⟨w', h1, h2, h3⟩ := World.ownsMap.drop h K ht hkey ty
  exact ⟨w', h1, MV.of h2, Fr.of_turned h3⟩
/-- What no key is. -/
theorem has_del_ne {D : DV} {l l' : Lit} (hne : l ≠ l') : has (D.del l') l = has D l := has_del_other hne
theorem lits_int {d : Nat} {a : Value} {ls : List Lit} (h : Tryz.prog.keyLits (d + 1) 3 [a] = some ls) : ∃ x, a = .int .i64 x ∧ I64 x := by
  unfold Program.keyLits at h
  simp only [Tryz.underlying3] at h
  cases a with
  | int q n =>
    simp only at h
    split at h
    · rename_i hc
      obtain ⟨rfl, hw⟩ := hc
      have := bounds_i64 hw
      exact ⟨n, rfl, this.1, this.2⟩
    · cases h
  | _ => cases h
theorem th_lits {a b : Value} {ls : List Lit} {d : Nat} (h : Tryz.prog.keyLits (d + 2) 211 [a, b] = some ls) : ∃ x y, a = .int .i64 x ∧ b = .int .i64 y ∧ I64 x ∧ I64 y := by
  unfold Program.keyLits at h
  simp [Tryz.underlying211, cells_thg, cells_int] at h
  have ha : ∃ l1, Tryz.prog.keyLits (d + 1) 3 [a] = some l1 := by
    cases hx : Tryz.prog.keyLits (d + 1) 3 [a] with
    | none => rw [hx] at h; simp at h
    | some l1 => exact ⟨l1, rfl⟩
  have hb : ∃ l1, Tryz.prog.keyLits (d + 1) 3 [b] = some l1 := by
    obtain ⟨l1, hl1⟩ := ha
    cases hx : Tryz.prog.keyLits (d + 1) 3 [b] with
    | none => rw [hl1, hx] at h; simp at h
    | some l1 => exact ⟨l1, rfl⟩
  obtain ⟨l1, h1⟩ := ha
  obtain ⟨l2, h2⟩ := hb
  obtain ⟨x, e1, i1⟩ := lits_int h1
  obtain ⟨y, e2, i2⟩ := lits_int h2
  exact ⟨x, y, e1, e2, i1, i2⟩
theorem list_two {l : List Value} (h : l.length = 2) : ∃ a b, l = [a, b] := by
  match l, h with
  | [a, b], _ => exact ⟨a, b, rfl⟩
theorem th_inv {v : Value} {kl : Lit} (h : keyOf Tryz.prog 211 v = some kl) : ∃ x : Int × Int, v = thV x.1 x.2 ∧ I64 x.1 ∧ I64 x.2 := by
  unfold keyOf at h
  simp only [Tryz.underlying211] at h
  split at h
  · rename_i hf
    simp only [Bool.and_eq_true] at hf
    have hf2 := hf.2
    clear hf
    obtain ⟨ls, hls, _⟩ := Option.map_eq_some_iff.1 h
    clear h
    cases v with
    | agg cs =>
      simp only [Value.formed, Tryz.underlying211, cells_thg, beq_iff_eq] at hf2
      obtain ⟨l⟩ := cs
      have hl : l.length = 2 := by simpa using hf2
      obtain ⟨a, b, rfl⟩ := list_two hl
      obtain ⟨d, hd⟩ : ∃ d, Tryz.prog.types.size + 1 = d + 2 := ⟨Tryz.prog.types.size - 1, by have := sizeT; omega⟩
      rw [hd] at hls
      obtain ⟨x, y, rfl, rfl, i1, i2⟩ := th_lits hls
      exact ⟨(x, y), rfl, i1, i2⟩
    | _ => simp [Value.formed, Tryz.underlying211] at hf2
  · cases h
end Go.Proofs.YtieoeoonopcjbaaGreatDoor

/- A region that draws its order: what is held of the world is held only till an operation of a given list has come (the last append, the store behind it): whatever leans on it has come by then. -/
namespace Go.Proofs.YtieoeoonopcjbaaGreatDoor

section
variable {P : Program} {ops : Array Oper} {Q : Exit → Act → World → Prop} {md : Region.Mode} {S : World → Prop} {zs : List Nat}

/-- None of the list has come. -/
def yetZ (zs : List Nat) (L : Array Bool) : Bool := zs.all fun z => !(L.getD z true)
/-- Whatever order is picked; S holds as long as none of the list has come. -/
def anyZ (P : Program) (md : Region.Mode) (ops : Array Oper) (Q : Exit → Act → World → Prop) (S : World → Prop) (zs : List Nat) : Nat → Array Bool → Act → World → Prop
  | 0, L, a, w => Region.ready md ops L = [] ∧ Q .normal a w
  | f + 1, L, a, w => (Region.ready md ops L = [] → Q .normal a w) ∧
      ∀ i ∈ Region.ready md ops L, wpOp P ops Q i (fun a' w' => (yetZ zs (L.setIfInBounds i true) = true → S w') ∧ anyZ P md ops Q S zs f (L.setIfInBounds i true) a' w') a w
theorem anyZ.any : ∀ (f : Nat) (L : Array Bool) (a : Act) (w : World), anyZ P md ops Q S zs f L a w → wpAny P md ops Q f L a w
  | 0, _, _, _, h => h
  | f + 1, L, a, w, h => ⟨h.1, fun i hi => wpOp_mono (fun a' w' k => anyZ.any f _ a' w' k.2) (h.2 i hi)⟩
/-- All of B wait for i, straight or by others of B. -/
def waitZ (md : Region.Mode) (ops : Array Oper) (L : Array Bool) (i : Nat) (B : List Nat) : Bool :=
  B.all fun b => b != i && !(L.getD b true) && match ops[b]? with
    | some o => o.after.any fun e => Region.binds md e && (e.on == i || B.contains e.on)
    | none => false
theorem unlisted {L : Array Bool} {i : Nat} (h : L.getD i true = false) : L.getD i false = false := by
  by_cases hi : i < L.size
  · simp [hi] at h ⊢; exact h
  · simp [hi] at h
theorem waitZ_at {L : Array Bool} {i : Nat} {B : List Nat} (h : waitZ md ops L i B = true) {b : Nat} (hb : b ∈ B) : b ≠ i ∧ L.getD b true = false ∧ ∃ o, ops[b]? = some o ∧ ∃ e ∈ o.after, Region.binds md e = true ∧ (e.on = i ∨ e.on ∈ B) := by
  have h1 := List.all_eq_true.1 h b hb
  rw [Bool.and_eq_true, Bool.and_eq_true] at h1
  obtain ⟨⟨h2, h3⟩, h4⟩ := h1
  refine ⟨by simpa using h2, by simpa using h3, ?_⟩
  cases ho : ops[b]? with
  | none => rw [ho] at h4; cases h4
  | some o =>
    rw [ho] at h4
    obtain ⟨e, he, h5⟩ := Array.any_eq_true'.1 h4
    rw [Bool.and_eq_true, Bool.or_eq_true] at h5
    exact ⟨o, rfl, e, he, h5.1, h5.2.imp (fun x => by simpa using x) (fun x => by simpa using x)⟩
theorem waitZ_not {L : Array Bool} {i : Nat} {B : List Nat} (h : waitZ md ops L i B = true) (hi : L.getD i true = false) {j : Nat} (hj : j ∈ Region.ready md ops L) : j ∉ B := fun hb => by
  obtain ⟨_, _, o, ho, e, he, hbd, hon⟩ := waitZ_at h hb
  obtain ⟨_, o', ho', hall⟩ := mem_ready.1 hj
  rw [ho] at ho'
  cases ho'
  have h1 := hall e he hbd
  rcases hon with e1 | e1
  · rw [e1, unlisted hi] at h1; cases h1
  · rw [unlisted (waitZ_at h e1).2.1] at h1; cases h1
theorem waitZ_set {L : Array Bool} {i j : Nat} {B : List Nat} (h : waitZ md ops L i B = true) (hj : j ∉ B) : waitZ md ops (L.setIfInBounds j true) i B = true := by
  refine List.all_eq_true.2 fun b hb => ?_
  have h1 := List.all_eq_true.1 h b hb
  rw [getD_set_ne true (fun e => by subst e; exact hj hb)]
  exact h1
/-- On what a taken operation may lean: on nothing, or on S, all of the list waiting for it. -/
def Leans (md : Region.Mode) (ops : Array Oper) (S T : World → Prop) (zs B : List Nat) (L : Array Bool) (i : Nat) : Prop := (∀ w, T w) ∨ ((∀ w, S w → T w) ∧ waitZ md ops L i B = true ∧ ∀ z ∈ zs, z ∈ B)

theorem anyZ.first {i : Nat} {oi : Oper} {v : Value} {T : World → Prop} {B : List Nat} (hi : ops[i]? = some oi) (hiz : i ∉ zs) (hsel : ∀ (j : Nat) (o : Oper) cs b, ops[j]? = some o → o.op ≠ .select cs b) (hQ : ∀ c a w, Q (.panic c) (a.put oi.dst v) w → Q (.panic c) a w) :
    ∀ (f : Nat) (L : Array Bool) (a : Act) (w : World), (∀ j oj, ops[j]? = some oj → j ≠ i → L.getD j true = false → (∀ e ∈ oj.after, Region.binds md e = true → e.on ≠ i) → oi.apart ops oj = true) → i ∈ Region.ready md ops L → YieldsIf P ops T oi v a → T w → (yetZ zs L = true → S w) → Leans md ops S T zs B L i →
      anyZ P md ops Q S zs f (L.setIfInBounds i true) (a.put oi.dst v) w → anyZ P md ops Q S zs (f + 1) L a w := by
  intro f
  have back : ∀ {L : Array Bool} {j : Nat}, yetZ zs (L.setIfInBounds j true) = true → yetZ zs L = true := fun {L j} h => List.all_eq_true.2 fun z hz => by
    have h1 := List.all_eq_true.1 h z hz
    by_cases e : j = z
    · subst e
      by_cases hl : j < L.size
      · simp [hl] at h1
      · simp [hl] at h1
    · rw [getD_set_ne true e] at h1; exact h1
  induction f with
  | zero =>
    intro L a w _ hr hy hT hS _ H
    refine ⟨fun h => (by rw [h] at hr; cases hr), fun j hj => ?_⟩
    by_cases e : j = i
    · subst e; exact hy.wpOp hi hT ⟨fun h => hS (back h), H⟩
    · have h1 := ready_mono hj e
      rw [H.1] at h1; cases h1
  | succ f ih =>
    intro L a w hfree hr hy hT hS hl H
    refine ⟨fun h => (by rw [h] at hr; cases hr), fun j hj => ?_⟩
    by_cases e : j = i
    · subst e; exact hy.wpOp hi hT ⟨fun h => hS (back h), H⟩
    · have hiu := (mem_ready.1 hr).1
      obtain ⟨hju, oj, hoj, hall⟩ := mem_ready.1 hj
      have hnot : ∀ e ∈ oj.after, Region.binds md e = true → e.on ≠ i := fun e he hb heq => by
        have h1 := hall e he hb
        rw [heq, unlisted hiu] at h1; cases h1
      have h2 := wpOp_putIf hoj (hfree j oj hoj e hju hnot) (fun cs b => hsel i oi cs b hi) (fun cs b => hsel j oj cs b hoj) hQ hy (H.2 j (ready_mono hj e))
      refine wpOp_mono (fun a' w' k => ?_) h2
      rw [Array.setIfInBounds_comm _ _ (Ne.symm e)] at k
      have hS' : yetZ zs (L.setIfInBounds j true) = true → S w' := fun h => k.2.1 (List.all_eq_true.2 fun z hz => by
        rw [getD_set_ne true (fun e2 => hiz (by rw [e2]; exact hz))]
        exact List.all_eq_true.1 h z hz)
      have hl' : Leans md ops S T zs B (L.setIfInBounds j true) i ∧ T w' := by
        rcases hl with hl | ⟨h3, h4, h5⟩
        · exact ⟨.inl hl, hl w'⟩
        · have hjB := waitZ_not h4 hiu hj
          refine ⟨.inr ⟨h3, waitZ_set h4 hjB, h5⟩, h3 _ (hS' (List.all_eq_true.2 fun z hz => ?_))⟩
          rw [getD_set_ne true (fun e2 => hjB (by rw [e2]; exact h5 z hz)), (waitZ_at h4 (h5 z hz)).2.1]
          rfl
      refine ⟨hS', ih (L.setIfInBounds j true) a' w' (fun m om hm hmi hmu hmn => ?_) (ready_mono hr (Ne.symm e)) k.1 hl'.2 hS' hl'.1 k.2.2⟩
      refine hfree m om hm hmi ?_ hmn
      by_cases hjm : j = m
      · subst hjm; exact hju
      · rw [getD_set_ne true hjm] at hmu; exact hmu

/-- The beginning. -/
theorem wp_region_Z {id : Nat} {a : Go.Act} {w : World} (zs : List Nat) (S : World → Prop) (hm : P.follows .mixedOrders = true) (hS : S w.drew)
    (h : S w.drew → anyZ P .any ops Q S zs ops.size (Array.replicate ops.size false) a w.drew) : (Code.region id ops true).wp P Q a w :=
  wp_region_any hm (anyZ.any _ _ _ _ (h hS))
/-- What yields in whatever world is taken first. -/
theorem anyZ_pure {i : Nat} {oi : Oper} {v : Value} {f : Nat} {L : Array Bool} {a : Go.Act} {w : World} (d : Option Tmp) (hi : ops[i]? = some oi) (hd : oi.dst = d) (hiz : zs.contains i = false)
    (hs : Region.noSelect ops = true) (hf : Region.free md ops L i = true) (hr : (Region.ready md ops L).contains i = true)
    (hQ : ∀ c a w, Q (.panic c) (a.put oi.dst v) w → Q (.panic c) a w) (hy : YieldsIf P ops (fun _ => True) oi v a) (hS : yetZ zs L = true → S w)
    (h : anyZ P md ops Q S zs f (L.setIfInBounds i true) (a.put d v) w) : anyZ P md ops Q S zs (f + 1) L a w := by
  subst hd
  exact anyZ.first (B := []) hi (by simpa using hiz) (Region.noSelect_spec hs) hQ f L a w (Region.free_spec hi hf) (by simpa using hr) hy trivial hS (.inl fun _ => trivial) h
/-- What yields wherever S holds is taken first, all of the list waiting for it. -/
theorem anyZ_read {i : Nat} {oi : Oper} {v : Value} {f : Nat} {L : Array Bool} {a : Go.Act} {w : World} (d : Option Tmp) (B : List Nat) (hi : ops[i]? = some oi) (hd : oi.dst = d) (hiz : zs.contains i = false)
    (hs : Region.noSelect ops = true) (hf : Region.free md ops L i = true) (hr : (Region.ready md ops L).contains i = true) (hw : waitZ md ops L i B = true) (hz : (zs.all fun z => B.contains z) = true)
    (hQ : ∀ c a w, Q (.panic c) (a.put oi.dst v) w → Q (.panic c) a w) (hy : YieldsIf P ops S oi v a) (hS : S w)
    (h : anyZ P md ops Q S zs f (L.setIfInBounds i true) (a.put d v) w) : anyZ P md ops Q S zs (f + 1) L a w := by
  subst hd
  refine anyZ.first (B := B) hi (by simpa using hiz) (Region.noSelect_spec hs) hQ f L a w (Region.free_spec hi hf) (by simpa using hr) hy hS (fun _ => hS) (.inr ⟨fun _ h => h, hw, fun z hzz => ?_⟩) h
  simpa using List.all_eq_true.1 hz z hzz
theorem anyZ_done {L : Array Bool} {a : Go.Act} {w : World} (hr : Region.ready md ops L = []) (h : Q .normal a w) : ∀ f, anyZ P md ops Q S zs f L a w
  | 0 => ⟨hr, h⟩
  | _ + 1 => ⟨fun _ => h, by rw [hr]; simp⟩
/-- The one that comes next, or each of those that may. -/
def AllZ (P : Program) (md : Region.Mode) (ops : Array Oper) (Q : Exit → Go.Act → World → Prop) (S : World → Prop) (zs : List Nat) (f : Nat) (L : Array Bool) (a : Go.Act) (w : World) (rs : List Nat) : Prop :=
  ∀ i ∈ rs, wpOp P ops Q i (fun a' w' => (yetZ zs (L.setIfInBounds i true) = true → S w') ∧ anyZ P md ops Q S zs f (L.setIfInBounds i true) a' w') a w
theorem AllZ.nil {f : Nat} {L : Array Bool} {a : Go.Act} {w : World} : AllZ P md ops Q S zs f L a w [] := fun _ h => by cases h
theorem anyZ_ready {rs : List Nat} {f : Nat} {L : Array Bool} {a : Go.Act} {w : World} (hr : Region.ready md ops L = rs) (hne : rs ≠ []) (h : AllZ P md ops Q S zs f L a w rs) : anyZ P md ops Q S zs (f + 1) L a w :=
  ⟨fun h0 => absurd (hr ▸ h0) hne, hr ▸ h⟩
/-- One that is not of the list: S is shown anew behind it. -/
theorem AllZ.step {f : Nat} {L : Array Bool} {a : Go.Act} {w : World} {i : Nat} {o : Oper} {rs : List Nat} (ho : ops[i]? = some o)
    (h : ∀ K' : Go.Act → World → Prop, Shut (∀ a w, S w → (S w → anyZ P md ops Q S zs f (L.setIfInBounds i true) a w) → K' a w) → if Region.wanted o (yielded ops a.tmps) = true then Oper.wp P o a w K' Q else K' (a.put o.dst undef) w)
    (hs : AllZ P md ops Q S zs f L a w rs) : AllZ P md ops Q S zs f L a w (i :: rs) := fun j hj => by
  rcases List.mem_cons.1 hj with rfl | hj
  · exact wpOp_step ho (fun K' hK => h K' (fun a w hS hW => hK a w ⟨fun _ => hS, hW hS⟩))
  · exact hs j hj
/-- One of the list: behind it S is asked no more. -/
theorem AllZ.last {f : Nat} {L : Array Bool} {a : Go.Act} {w : World} {i : Nat} {o : Oper} {rs : List Nat} (ho : ops[i]? = some o) (hy : yetZ zs (L.setIfInBounds i true) = false)
    (h : ∀ K' : Go.Act → World → Prop, Shut (∀ a w, anyZ P md ops Q S zs f (L.setIfInBounds i true) a w → K' a w) → if Region.wanted o (yielded ops a.tmps) = true then Oper.wp P o a w K' Q else K' (a.put o.dst undef) w)
    (hs : AllZ P md ops Q S zs f L a w rs) : AllZ P md ops Q S zs f L a w (i :: rs) := fun j hj => by
  rcases List.mem_cons.1 hj with rfl | hj
  · exact wpOp_step ho (fun K' hK => h K' (fun a w hW => hK a w ⟨fun e => (by rw [hy] at e; cases e), hW⟩))
  · exact hs j hj
theorem notYet {L : Array Bool} {p : Prop} (h : yetZ zs L = false) : yetZ zs L = true → p := fun e => by rw [h] at e; cases e
end
end Go.Proofs.YtieoeoonopcjbaaGreatDoor

/- event: a book in memory; newBook, opened, taken. -/
namespace Go.Proofs.YtieoeoonopcjbaaGreatDoor
open Go.RowKit Go.Maps

def stV (s : Sta) : Value := .agg #[.int .i64 s.tk, .int .i64 s.ti, .int .i64 s.k]
theorem tOpen : Tryz.prog.underlying 154 = some (.map 3 213) := Tryz.underlying154
theorem tUsed : Tryz.prog.underlying 155 = some (.map 211 215) := Tryz.underlying155
theorem zeroSta (w : World) : (zeroValue 213).run Tryz.prog w = .ok (stV Sta.none) w := by kernel_rfl
theorem zeroUnit (w : World) : (zeroValue 215).run Tryz.prog w = .ok (.agg #[]) w := by kernel_rfl

/-- A book at block g; its maps at bo and bu. -/
structure BoM (w : World) (g bo bu : Nat) (b : Bo) (Do Du : DV) : Prop where
  blk : Bk w g 157 #[.int .i64 (b.count : Int), .int .i64 b.now, .bool b.closed, .map (some bo), .map (some bu)]
  mo : MV w 3 bo Do
  mu : MV w 211 bu Du
  opn : ∀ p, I64 p → (has Do (.int .i64 p) = false ∧ b.opn p = Sta.none) ∨ At Do (.int .i64 p) (stV (b.opn p))
  used : ∀ t i, I64 t → I64 i → ((t, i) ∈ b.used → At Du (th t i) (.agg #[])) ∧ ((t, i) ∉ b.used → has Du (th t i) = false)
  ne : bo ≠ bu
  us : ∀ x ∈ b.used, I64 x.1 ∧ I64 x.2
  op : ∀ p, I64 (b.opn p).tk ∧ I64 (b.opn p).ti
  nd : b.used.Nodup
  so : Maps.size Do ≤ b.count
  su : Maps.size Du ≤ b.count
theorem BoM.fr {S : Nat → Prop} {w w' : World} {g bo bu : Nat} {b : Bo} {Do Du : DV} (h : BoM w g bo bu b Do Du) (hf : Fr S w w') (h0 : ¬ S g) (h1 : ¬ S bo) (h2 : ¬ S bu) : BoM w' g bo bu b Do Du :=
  { h with blk := h.blk.fr hf h0, mo := h.mo.fr hf h1, mu := h.mu.fr hf h2 }
theorem BoM.fr0 {w w' : World} {g bo bu : Nat} {b : Bo} {Do Du : DV} (h : BoM w g bo bu b Do Du) (hf : Fr (fun _ => False) w w') : BoM w' g bo bu b Do Du := h.fr hf (fun h => h) (fun h => h) (fun h => h)
/-- What a look at a place tells. -/
theorem BoM.look {w : World} {g bo bu : Nat} {b : Bo} {Do Du : DV} (h : BoM w g bo bu b Do Du) {p : Int} (hp : I64 p) :
    (Instr.lookup 154 (.map (some bo)) (.int .i64 p) false).run Tryz.prog w = .ok (stV (b.opn p)) w := by
  rcases h.opn p hp with ⟨h1, h2⟩ | h1
  · rw [h2]; exact (h.mo.at0 kInt tOpen (zeroSta w) hp.key h1).2
  · exact (h.mo.at1 kInt tOpen (zeroSta w) hp.key h1).2
/-- A book within three blocks. -/
def Book (w : World) (g bo bu : Nat) (b : Bo) : Prop := ∃ Do Du, BoM w g bo bu b Do Du
def BS (g bo bu : Nat) (k : Nat) : Prop := k = g ∨ k = bo ∨ k = bu
theorem Book.fr0 {w w' : World} {g bo bu : Nat} {b : Bo} (h : Book w g bo bu b) (hf : Fr (fun _ => False) w w') : Book w' g bo bu b := by
  obtain ⟨Do, Du, h⟩ := h; exact ⟨Do, Du, h.fr0 hf⟩

set_option maxRecDepth 100000 in
theorem opened_any (p : VL) (w : World) : Calls Tryz.prog 157 #[p.val] w fun e w' => e = .returned (thV (thingOf p.e).1 (thingOf p.e).2) ∧ Fr (fun _ => False) w w' := by
  have HF : Hid (∀ o, Fr (fun _ => False) w ((w.alloc (.cells p.cells.toArray 68)).alloc o)) := Lib.hid (fun o => ((Fr.refl _ _).alloc _).alloc _)
  obtain ⟨⟨k, a, r, i, l, n, d⟩, A, c⟩ := p
  unfold VL.val VL.cells VL.bv thingOf thV at *
  simp only at *
  by_cases hk : k = 2
  · subst hk
    go_enter Tryz.func157, Tryz.ntmps157
    go_wp2
    refine bodyPost_ret (v := .agg #[.int .i64 2, .int .i64 0]) (by simp [results, Tryz.results157, go_sem]) rfl ⟨rfl, HF.out _⟩
  · rw [if_neg hk]
    have d0 : (k == 2) = false := by simp [hk]
    clear hk
    go_enter Tryz.func157, Tryz.ntmps157
    go_wp2
    refine bodyPost_ret (v := .agg #[.int .i64 k, .int .i64 i]) (by simp [results, Tryz.results157, go_sem]) rfl ⟨rfl, HF.out _⟩

theorem bookNew {w w1 : World} {o1 o2 : Obj} (h1 : o1 = .map #[] 0) (h2 : o2 = .map #[] 0) (hw : w1 = (w.alloc o1).alloc o2) :
    Book (w1.alloc (.cells #[.int .i64 0, .int .i64 0, .bool false, .map (some w.heap.size), .map (some (w.heap.size + 1))] 157)) w1.heap.size w.heap.size (w.heap.size + 1) Bo.new := by
  subst h1 h2 hw
  have m1 := MV.new w 3
  have m2 := MV.new (w.alloc (.map #[] 0)) 211
  rw [show (w.alloc (.map #[] 0)).heap.size = w.heap.size + 1 by simp] at m2
  have f1 : Fr (fun _ => False) (w.alloc (.map #[] 0)) ((w.alloc (.map #[] 0)).alloc (.map #[] 0)) := (Fr.refl _ _).alloc _
  have f2 : ∀ o, Fr (fun _ => False) ((w.alloc (.map #[] 0)).alloc (.map #[] 0)) (((w.alloc (.map #[] 0)).alloc (.map #[] 0)).alloc o) := fun o => (Fr.refl _ _).alloc _
  exact ⟨_, _, {
    blk := Bk.new _ _ _
    mo := (m1.fr f1 (fun h => h)).fr (f2 _) (fun h => h)
    mu := m2.fr (f2 _) (fun h => h)
    opn := fun p _ => .inl ⟨rfl, rfl⟩
    used := fun t i _ _ => ⟨fun h => absurd h List.not_mem_nil, fun _ => rfl⟩
    ne := by omega
    us := fun x h => absurd h List.not_mem_nil
    op := fun p => ⟨show I64 0 from ⟨by decide, by decide⟩, show I64 0 from ⟨by decide, by decide⟩⟩
    nd := List.nodup_nil
    so := Nat.le_refl _
    su := Nat.le_refl _ }⟩
set_option maxRecDepth 100000 in
theorem newBook_any (w : World) : Calls Tryz.prog 96 #[] w fun e w' => ∃ g bo bu, e = .returned (.pointer (some ⟨g, 0, none⟩)) ∧ Book w' g bo bu Bo.new ∧ Fr (fun _ => False) w w' ∧ ∀ k, BS g bo bu k → w.heap.size ≤ k := by
  have hmm := @run_makeMap Tryz.prog
  have HB := Lib.hid (bookNew (w := w) rfl rfl rfl)
  have HF : Hid (∀ o, Fr (fun _ => False) w (((w.alloc (.map #[] 0)).alloc (.map #[] 0)).alloc o)) := Lib.hid (fun o => (((Fr.refl _ _).alloc _).alloc _).alloc _)
  go_enter Tryz.func96, Tryz.ntmps96
  go_wp2
  go_ret
  have hb := HB.out
  rw [show ((w.alloc (.map #[] 0)).alloc (.map #[] 0)).heap.size = w.heap.size + 1 + 1 by simp] at hb
  refine ⟨_, _, _, rfl, hb, HF.out _, ?_⟩
  rintro k (rfl | rfl | rfl) <;> omega

/-- The words. -/
def wTask : ByteArray := ⟨#[116, 97, 115, 107]⟩
def wId : ByteArray := ⟨#[105, 100]⟩
set_option maxRecDepth 100000 in
set_option maxHeartbeats 4000000 in
theorem taken_any {w : World} {g bo bu : Nat} {b : Bo} (h : Book w g bo bu b) {t i : Int} (ht : I64 t) (hi : I64 i) :
    Calls Tryz.prog 178 #[.pointer (some ⟨g, 0, none⟩), thV t i] w fun e w' => e = .returned (.string (if (t, i) ∈ b.used then (if t = 2 then wTask else wId) else ⟨#[]⟩)) ∧ Fr (fun _ => False) w w' := by
  obtain ⟨Do, Du, h⟩ := h
  obtain ⟨hu1, hu2⟩ := h.used t i ht hi
  obtain ⟨W, hW⟩ : ∃ W, w.alloc (.cells #[.int .i64 t, .int .i64 i] 211) = W := ⟨_, rfl⟩
  obtain ⟨g0, hg0⟩ : ∃ g0, w.heap.size = g0 := ⟨_, rfl⟩
  have FW : Hid (Fr (fun _ => False) w W) := Lib.hid (by rw [← hW]; exact (Fr.refl _ _).alloc _)
  have KW : Hid (Bk W g0 211 #[.int .i64 t, .int .i64 i]) := Lib.hid (by rw [← hW, ← hg0]; exact Bk.new _ _ _)
  have HB := Lib.hid (h.blk.fr FW.out (fun h => h))
  have HL : Hid (∀ w', Fr (fun _ => False) W w' → (Instr.lookup 155 (.map (some bu)) (thV t i) true).run Tryz.prog w' = .ok (.tuple #[.agg #[], .bool (decide ((t, i) ∈ b.used))]) w') := Lib.hid (fun w' hf => by
    have hm := h.mu.fr (FW.out.trans hf (fun _ _ h => h)) (fun h => h)
    by_cases hm2 : (t, i) ∈ b.used
    · rw [decide_eq_true hm2]; exact (hm.at1 kThg tUsed (zeroUnit w') (th_of ht hi) (hu1 hm2)).1
    · rw [decide_eq_false hm2]; exact (hm.at0 kThg tUsed (zeroUnit w') (th_of ht hi) (hu2 hm2)).1)
  have HD : Hid (∀ x : Bool, decide ((t, i) ∈ b.used) = x → (if (t, i) ∈ b.used then (if t = 2 then wTask else wId) else ⟨#[]⟩) = (if x = true then (if t = 2 then wTask else wId) else (⟨#[]⟩ : ByteArray))) := Lib.hid (fun x hx => by
    subst hx; simp)
  obtain ⟨u, hu⟩ : ∃ u, decide ((t, i) ∈ b.used) = u := ⟨_, rfl⟩
  rw [HD.out u hu]
  rw [hu] at HL
  unfold thV at *
  clear h hu1 hu2 HD hu ht hi
  go_enter Tryz.func178, Tryz.ntmps178
  go_wp2_with fail
  refine wp_region_held_drew (S := (fun w' => Fr (fun _ => False) W w')) (by kernel_rfl) ((Fr.refl _ _).drew) (fun hHeld => ?_)
  refine wpAnyH_takeD (i := 0) (v := ?_) (some 8) rfl rfl (by kernel_rfl) (by kernel_rfl) (by kernel_rfl) (fun _ _ _ h => h) (Or.inl ⟨by rfl, ?_⟩) (by assumption) ?_
  rotate_left
  · intro w' hSw
    go_simp
    first | done | with_reducible rfl
  try simp only [Go.Act.put, List.setIfInBounds_toArray, List.set_cons_zero, List.set_cons_succ]
  refine wpAnyH_takeD (i := 1) (v := ?_) (some 9) rfl rfl (by kernel_rfl) (by kernel_rfl) (by kernel_rfl) (fun _ _ _ h => h) (Or.inl ⟨by rfl, ?_⟩) (by assumption) ?_
  rotate_left
  · intro w' hSw
    go_simp
    first | done | with_reducible rfl
  try simp only [Go.Act.put, List.setIfInBounds_toArray, List.set_cons_zero, List.set_cons_succ]
  refine wpAnyH_takeD (i := 2) (v := ?_) (some 10) rfl rfl (by kernel_rfl) (by kernel_rfl) (by kernel_rfl) (fun _ _ _ h => h) (Or.inl ⟨by rfl, ?_⟩) (by assumption) ?_
  rotate_left
  · intro w' hSw
    go_simp
    first | done | with_reducible rfl
  try simp only [Go.Act.put, List.setIfInBounds_toArray, List.set_cons_zero, List.set_cons_succ]
  refine wpAnyH_takeD (i := 3) (v := ?_) (some 11) rfl rfl (by kernel_rfl) (by kernel_rfl) (by kernel_rfl) (fun _ _ _ h => h) (Or.inl ⟨by rfl, ?_⟩) (by assumption) ?_
  rotate_left
  · intro w' hSw
    have c4 := (HB.out.fr hSw (fun h => h)).cell 4
    go_simp
    first | done | with_reducible rfl
  try simp only [Go.Act.put, List.setIfInBounds_toArray, List.set_cons_zero, List.set_cons_succ]
  refine wpAnyH_takeD (i := 4) (v := ?_) (some 12) rfl rfl (by kernel_rfl) (by kernel_rfl) (by kernel_rfl) (fun _ _ _ h => h) (Or.inl ⟨by rfl, ?_⟩) (by assumption) ?_
  rotate_left
  · intro w' hSw
    have k0 := (KW.out.fr hSw (fun h => h)).cell 0; have k1 := (KW.out.fr hSw (fun h => h)).cell 1
    go_simp
    first | done | with_reducible rfl
  try simp only [Go.Act.put, List.setIfInBounds_toArray, List.set_cons_zero, List.set_cons_succ]
  refine wpAnyH_takeD (i := 5) (v := ?_) (some 13) rfl rfl (by kernel_rfl) (by kernel_rfl) (by kernel_rfl) (fun _ _ _ h => h) (Or.inl ⟨by rfl, ?_⟩) (by assumption) ?_
  rotate_left
  · intro w' hSw
    have hlk := HL.out w' hSw
    go_simp
    first | done | with_reducible rfl
  try simp only [Go.Act.put, List.setIfInBounds_toArray, List.set_cons_zero, List.set_cons_succ]
  refine wpAnyH_takeD (i := 6) (v := ?_) (some 7) rfl rfl (by kernel_rfl) (by kernel_rfl) (by kernel_rfl) (fun _ _ _ h => h) (Or.inl ⟨by rfl, ?_⟩) (by assumption) ?_
  rotate_left
  · intro w' hSw
    go_simp
    first | done | with_reducible rfl
  try simp only [Go.Act.put, List.setIfInBounds_toArray, List.set_cons_zero, List.set_cons_succ]
  refine wpAnyH_takeD (i := 7) (v := ?_) (some 14) rfl rfl (by kernel_rfl) (by kernel_rfl) (by kernel_rfl) (fun _ _ _ h => h) (Or.inl ⟨by rfl, ?_⟩) (by assumption) ?_
  rotate_left
  · intro w' hSw
    go_simp
    first | done | with_reducible rfl
  try simp only [Go.Act.put, List.setIfInBounds_toArray, List.set_cons_zero, List.set_cons_succ]
  refine wpAnyH_takeD (i := 8) (v := ?_) (some 15) rfl rfl (by kernel_rfl) (by kernel_rfl) (by kernel_rfl) (fun _ _ _ h => h) (Or.inl ⟨by rfl, ?_⟩) (by assumption) ?_
  rotate_left
  · intro w' hSw
    go_simp
    first | done | with_reducible rfl
  try simp only [Go.Act.put, List.setIfInBounds_toArray, List.set_cons_zero, List.set_cons_succ]
  refine wpAnyH_ready (rs := [9]) (by kernel_rfl) (by simp) ?_
  refine AllReadyH.cons rfl (fun K hK => ?_) AllReadyH.nil
  go_simp
  refine hK.out _ _ (hHeld.alloc _) (fun hHeld => ?_)
  clear hK K
  try change wpAnyH _ _ _ _ _ _ _ (Go.Act.put _ (some 5) _) _
  try simp only [Go.Act.put, List.setIfInBounds_toArray, List.set_cons_zero, List.set_cons_succ]
  refine wpAnyH_ready (rs := [10]) (by kernel_rfl) (by simp) ?_
  refine AllReadyH.cons rfl (fun K hK => ?_) AllReadyH.nil
  go_simp
  refine hK.out _ _ (hHeld) (fun hHeld => ?_)
  clear hK K
  try change wpAnyH _ _ _ _ _ _ _ (Go.Act.put _ none _) _
  try simp only [Go.Act.put, List.setIfInBounds_toArray, List.set_cons_zero, List.set_cons_succ]
  refine wpAnyH_takeD (i := 11) (v := ?_) (some 6) rfl rfl (by kernel_rfl) (by kernel_rfl) (by kernel_rfl) (fun _ _ _ h => h) (Or.inl ⟨by rfl, ?_⟩) (by assumption) ?_
  rotate_left
  · intro w' hSw
    go_simp
    first | done | with_reducible rfl
  try simp only [Go.Act.put, List.setIfInBounds_toArray, List.set_cons_zero, List.set_cons_succ]
  refine wpAnyH_done (by kernel_rfl) ?_ _
  have HF := Lib.hid (FW.out.trans hHeld (fun _ _ h => h))
  have k0 := (KW.out.fr hHeld (fun h => h)).cell 0
  clear hHeld HL HB KW FW
  cases u with
  | false =>
    go_wp2
    go_ret
    exact ⟨rfl, HF.out⟩
  | true =>
    by_cases ht2 : t = 2
    · subst ht2
      go_wp2
      go_ret
      exact ⟨rfl, HF.out⟩
    · have d2 : (t == 2) = false := by simp [ht2]
      have HT2 := Lib.hid ht2
      clear ht2
      go_wp2
      go_ret
      exact ⟨by first | rfl | (rw [if_pos rfl, if_neg HT2.out]; rfl), HF.out⟩
end Go.Proofs.YtieoeoonopcjbaaGreatDoor

/- event: lacks. -/
namespace Go.Proofs.YtieoeoonopcjbaaGreatDoor
open Go.RowKit Go.Maps

def wordW : Nat → ByteArray
  | 0 => ⟨#[]⟩
  | 1 => ⟨#[101, 118, 101, 110, 116]⟩
  | 2 => ⟨#[116, 105, 109, 101]⟩
  | 3 => ⟨#[102, 105, 114, 115, 116]⟩
  | 4 => ⟨#[99, 108, 111, 115, 101, 100]⟩
  | 5 => ⟨#[114, 101, 102]⟩
  | 6 => wTask
  | _ => wId
theorem fieldK (tk ti sk : Int) (w : World) : (Instr.field 213 (.agg #[.int .i64 tk, .int .i64 ti, .int .i64 sk]) 1).run Tryz.prog w = .ok (.int .i64 sk) w := by kernel_rfl
theorem fieldT (tk ti sk : Int) (w : World) : (Instr.field 213 (.agg #[.int .i64 tk, .int .i64 ti, .int .i64 sk]) 0).run Tryz.prog w = .ok (.agg #[.int .i64 tk, .int .i64 ti]) w := by kernel_rfl
theorem lacks_ask {b : Bo} {e : Ev} {q : Int} (h : askK e.k = q) (hq : q ≠ 0) : b.lacks e = if (b.opn e.r).k = q then 0 else 5 := by
  unfold Bo.lacks; rw [h, if_pos hq]
theorem lacks_no {b : Bo} {e : Ev} (h : askK e.k = 0) : b.lacks e = if e.r ≠ 0 then 5 else if opensK e.k = true then (if thingOf e ∈ b.used then (if e.k = 2 then 6 else 7) else 0) else 0 := by
  unfold Bo.lacks; rw [h]; simp

set_option maxRecDepth 100000 in
set_option maxHeartbeats 8000000 in
theorem lacks_any {w : World} {g bo bu : Nat} {b : Bo} (h : Book w g bo bu b) (p : VL) (ok : p.ok) :
    Calls Tryz.prog 156 #[.pointer (some ⟨g, 0, none⟩), p.val] w fun e w' => e = .returned (.string (wordW (b.lacks p.e))) ∧ Fr (fun _ => False) w w' := by
  obtain ⟨W, hW⟩ : ∃ W, w.alloc (.cells p.cells.toArray 68) = W := ⟨_, rfl⟩
  obtain ⟨g0, hg0⟩ : ∃ g0, w.heap.size = g0 := ⟨_, rfl⟩
  have FW : Hid (Fr (fun _ => False) w W) := Lib.hid (by rw [← hW]; exact (Fr.refl _ _).alloc _)
  have KW : Hid (Bk W g0 68 p.cells.toArray) := Lib.hid (by rw [← hW, ← hg0]; exact Bk.new _ _ _)
  have CO := Lib.hid (fun w' => opened_any p w')
  have HTh : Hid (I64 (thingOf p.e).1 ∧ I64 (thingOf p.e).2) := Lib.hid (by
    unfold thingOf; split
    · exact ⟨⟨by decide, by decide⟩, ⟨by decide, by decide⟩⟩
    · exact ⟨ok.k, ok.i⟩)
  have CT := Lib.hid (fun w' (hf : Fr (fun _ => False) w w') => taken_any (h.fr0 hf) HTh.out.1 HTh.out.2)
  obtain ⟨Do, Du, hb⟩ := h
  have HB := Lib.hid (hb.blk.fr FW.out (fun h => h))
  have HL : Hid (∀ n, (Instr.lookup 154 (.map (some bo)) (.int .i64 p.e.r) false).run Tryz.prog (W.drewN n) = .ok (stV (b.opn p.e.r)) (W.drewN n)) := Lib.hid (fun n => (hb.fr0 (FW.out.drewN n)).look ok.r)
  obtain ⟨⟨k, a, r, i, l, m, d⟩, A, c⟩ := p
  unfold VL.val VL.cells VL.bv stV thV at *
  simp only at *
  have K0 : W.cell? ⟨g0, 0, none⟩ = some (.int .i64 k) := KW.out.cell 0
  have K2 : ∀ n, (W.drewN n).cell? ⟨g0, 2, none⟩ = some (.int .i64 r) := fun n => (KW.out.fr ((Fr.refl (fun _ => False) _).drewN n) (fun h => h)).cell 2
  have KL : W.cell? ⟨g0, 1, none⟩ = some (.int .i64 a) ∧ W.cell? ⟨g0, 2, none⟩ = some (.int .i64 r) ∧ W.cell? ⟨g0, 3, none⟩ = some (.int .i64 i) ∧ W.cell? ⟨g0, 4, none⟩ = some (.int .i64 l) ∧ W.cell? ⟨g0, 5, none⟩ = some (.int .i64 m) ∧ W.cell? ⟨g0, 6, none⟩ = some (.slice A d.length c) := ⟨KW.out.cell 1, KW.out.cell 2, KW.out.cell 3, KW.out.cell 4, KW.out.cell 5, KW.out.cell 6⟩
  have HKL := Lib.hid KL
  have B3 : ∀ n, (W.drewN n).cell? ⟨g, 3, none⟩ = some (.map (some bo)) := fun n => (HB.out.fr ((Fr.refl (fun _ => False) _).drewN n) (fun h => h)).cell 3
  have HK2 := Lib.hid K2
  have HB3 := Lib.hid B3
  clear hb ok KL K2 B3
  obtain ⟨s, hs⟩ : ∃ s, b.opn r = s := ⟨_, rfl⟩
  rw [hs] at HL
  have HS := Lib.hid hs
  clear hs
  by_cases hk3 : k = 3
  · subst hk3
    have HR := Lib.hid (lacks_ask (b := b) (e := ⟨3, a, r, i, l, m, d⟩) (q := 2) (by simp [askK]) (by decide))
    obtain ⟨tk, ti, sk⟩ := s
    clear CO CT HTh HKL
    have hfk := fieldK tk ti sk
    have hlk := HL.out
    simp only at hlk
    have q2 := HK2.out
    have q3 := HB3.out
    clear HL HK2 HB3
    by_cases hq : sk = 2
    · subst hq
      go_enter Tryz.func156, Tryz.ntmps156
      go_wp2_with fail
      go_quiet (fail)
      go_wp2
      go_ret
      exact ⟨by rw [HR.out, HS.out, if_pos rfl]; rfl, FW.out.drewN _⟩
    · have d0 : (sk != 2) = true := by simp [hq]
      have HQ := Lib.hid hq
      clear hq
      go_enter Tryz.func156, Tryz.ntmps156
      go_wp2_with fail
      go_quiet (fail)
      go_wp2
      go_ret
      exact ⟨by rw [HR.out, HS.out, if_neg HQ.out]; rfl, FW.out.drewN _⟩
  by_cases hk4 : k = 4
  · subst hk4
    have HR := Lib.hid (lacks_ask (b := b) (e := ⟨4, a, r, i, l, m, d⟩) (q := 3) (by simp [askK]) (by decide))
    obtain ⟨tk, ti, sk⟩ := s
    clear CO CT HTh HKL
    have hfk := fieldK tk ti sk
    have hlk := HL.out
    simp only at hlk
    have q2 := HK2.out
    have q3 := HB3.out
    clear HL HK2 HB3
    by_cases hq : sk = 3
    · subst hq
      go_enter Tryz.func156, Tryz.ntmps156
      go_wp2_with fail
      go_quiet (fail)
      go_wp2
      go_ret
      exact ⟨by rw [HR.out, HS.out, if_pos rfl]; rfl, FW.out.drewN _⟩
    · have d0 : (sk != 3) = true := by simp [hq]
      have HQ := Lib.hid hq
      clear hq
      go_enter Tryz.func156, Tryz.ntmps156
      go_wp2_with fail
      go_quiet (fail)
      go_wp2
      go_ret
      exact ⟨by rw [HR.out, HS.out, if_neg HQ.out]; rfl, FW.out.drewN _⟩
  by_cases hk5 : k = 5
  · subst hk5
    have HR := Lib.hid (lacks_ask (b := b) (e := ⟨5, a, r, i, l, m, d⟩) (q := 3) (by simp [askK]) (by decide))
    obtain ⟨tk, ti, sk⟩ := s
    clear CO CT HTh HKL
    have hfk := fieldK tk ti sk
    have hlk := HL.out
    simp only at hlk
    have q2 := HK2.out
    have q3 := HB3.out
    clear HL HK2 HB3
    by_cases hq : sk = 3
    · subst hq
      go_enter Tryz.func156, Tryz.ntmps156
      go_wp2_with fail
      go_quiet (fail)
      go_wp2
      go_ret
      exact ⟨by rw [HR.out, HS.out, if_pos rfl]; rfl, FW.out.drewN _⟩
    · have d0 : (sk != 3) = true := by simp [hq]
      have HQ := Lib.hid hq
      clear hq
      go_enter Tryz.func156, Tryz.ntmps156
      go_wp2_with fail
      go_quiet (fail)
      go_wp2
      go_ret
      exact ⟨by rw [HR.out, HS.out, if_neg HQ.out]; rfl, FW.out.drewN _⟩
  by_cases hk6 : k = 6
  · subst hk6
    have HR := Lib.hid (lacks_ask (b := b) (e := ⟨6, a, r, i, l, m, d⟩) (q := 3) (by simp [askK]) (by decide))
    obtain ⟨tk, ti, sk⟩ := s
    clear CO CT HTh HKL
    have hfk := fieldK tk ti sk
    have hlk := HL.out
    simp only at hlk
    have q2 := HK2.out
    have q3 := HB3.out
    clear HL HK2 HB3
    by_cases hq : sk = 3
    · subst hq
      go_enter Tryz.func156, Tryz.ntmps156
      go_wp2_with fail
      go_quiet (fail)
      go_wp2
      go_ret
      exact ⟨by rw [HR.out, HS.out, if_pos rfl]; rfl, FW.out.drewN _⟩
    · have d0 : (sk != 3) = true := by simp [hq]
      have HQ := Lib.hid hq
      clear hq
      go_enter Tryz.func156, Tryz.ntmps156
      go_wp2_with fail
      go_quiet (fail)
      go_wp2
      go_ret
      exact ⟨by rw [HR.out, HS.out, if_neg HQ.out]; rfl, FW.out.drewN _⟩
  by_cases hk8 : k = 8
  · subst hk8
    have HR := Lib.hid (lacks_ask (b := b) (e := ⟨8, a, r, i, l, m, d⟩) (q := 7) (by simp [askK]) (by decide))
    obtain ⟨tk, ti, sk⟩ := s
    clear CO CT HTh HKL
    have hfk := fieldK tk ti sk
    have hlk := HL.out
    simp only at hlk
    have q2 := HK2.out
    have q3 := HB3.out
    clear HL HK2 HB3
    by_cases hq : sk = 7
    · subst hq
      go_enter Tryz.func156, Tryz.ntmps156
      go_wp2_with fail
      go_quiet (fail)
      go_wp2
      go_ret
      exact ⟨by rw [HR.out, HS.out, if_pos rfl]; rfl, FW.out.drewN _⟩
    · have d0 : (sk != 7) = true := by simp [hq]
      have HQ := Lib.hid hq
      clear hq
      go_enter Tryz.func156, Tryz.ntmps156
      go_wp2_with fail
      go_quiet (fail)
      go_wp2
      go_ret
      exact ⟨by rw [HR.out, HS.out, if_neg HQ.out]; rfl, FW.out.drewN _⟩
  by_cases hk9 : k = 9
  · subst hk9
    have HR := Lib.hid (lacks_ask (b := b) (e := ⟨9, a, r, i, l, m, d⟩) (q := 8) (by simp [askK]) (by decide))
    obtain ⟨tk, ti, sk⟩ := s
    clear CO CT HTh HKL
    have hfk := fieldK tk ti sk
    have hlk := HL.out
    simp only at hlk
    have q2 := HK2.out
    have q3 := HB3.out
    clear HL HK2 HB3
    by_cases hq : sk = 8
    · subst hq
      go_enter Tryz.func156, Tryz.ntmps156
      go_wp2_with fail
      go_quiet (fail)
      go_wp2
      go_ret
      exact ⟨by rw [HR.out, HS.out, if_pos rfl]; rfl, FW.out.drewN _⟩
    · have d0 : (sk != 8) = true := by simp [hq]
      have HQ := Lib.hid hq
      clear hq
      go_enter Tryz.func156, Tryz.ntmps156
      go_wp2_with fail
      go_quiet (fail)
      go_wp2
      go_ret
      exact ⟨by rw [HR.out, HS.out, if_neg HQ.out]; rfl, FW.out.drewN _⟩
  by_cases hk10 : k = 10
  · subst hk10
    have HR := Lib.hid (lacks_ask (b := b) (e := ⟨10, a, r, i, l, m, d⟩) (q := 8) (by simp [askK]) (by decide))
    obtain ⟨tk, ti, sk⟩ := s
    clear CO CT HTh HKL
    have hfk := fieldK tk ti sk
    have hlk := HL.out
    simp only at hlk
    have q2 := HK2.out
    have q3 := HB3.out
    clear HL HK2 HB3
    by_cases hq : sk = 8
    · subst hq
      go_enter Tryz.func156, Tryz.ntmps156
      go_wp2_with fail
      go_quiet (fail)
      go_wp2
      go_ret
      exact ⟨by rw [HR.out, HS.out, if_pos rfl]; rfl, FW.out.drewN _⟩
    · have d0 : (sk != 8) = true := by simp [hq]
      have HQ := Lib.hid hq
      clear hq
      go_enter Tryz.func156, Tryz.ntmps156
      go_wp2_with fail
      go_quiet (fail)
      go_wp2
      go_ret
      exact ⟨by rw [HR.out, HS.out, if_neg HQ.out]; rfl, FW.out.drewN _⟩
  by_cases hk11 : k = 11
  · subst hk11
    have HR := Lib.hid (lacks_ask (b := b) (e := ⟨11, a, r, i, l, m, d⟩) (q := 8) (by simp [askK]) (by decide))
    obtain ⟨tk, ti, sk⟩ := s
    clear CO CT HTh HKL
    have hfk := fieldK tk ti sk
    have hlk := HL.out
    simp only at hlk
    have q2 := HK2.out
    have q3 := HB3.out
    clear HL HK2 HB3
    by_cases hq : sk = 8
    · subst hq
      go_enter Tryz.func156, Tryz.ntmps156
      go_wp2_with fail
      go_quiet (fail)
      go_wp2
      go_ret
      exact ⟨by rw [HR.out, HS.out, if_pos rfl]; rfl, FW.out.drewN _⟩
    · have d0 : (sk != 8) = true := by simp [hq]
      have HQ := Lib.hid hq
      clear hq
      go_enter Tryz.func156, Tryz.ntmps156
      go_wp2_with fail
      go_quiet (fail)
      go_wp2
      go_ret
      exact ⟨by rw [HR.out, HS.out, if_neg HQ.out]; rfl, FW.out.drewN _⟩
  by_cases hk13 : k = 13
  · subst hk13
    have HR := Lib.hid (lacks_ask (b := b) (e := ⟨13, a, r, i, l, m, d⟩) (q := 12) (by simp [askK]) (by decide))
    obtain ⟨tk, ti, sk⟩ := s
    clear CO CT HTh HKL
    have hfk := fieldK tk ti sk
    have hlk := HL.out
    simp only at hlk
    have q2 := HK2.out
    have q3 := HB3.out
    clear HL HK2 HB3
    by_cases hq : sk = 12
    · subst hq
      go_enter Tryz.func156, Tryz.ntmps156
      go_wp2_with fail
      go_quiet (fail)
      go_wp2
      go_ret
      exact ⟨by rw [HR.out, HS.out, if_pos rfl]; rfl, FW.out.drewN _⟩
    · have d0 : (sk != 12) = true := by simp [hq]
      have HQ := Lib.hid hq
      clear hq
      go_enter Tryz.func156, Tryz.ntmps156
      go_wp2_with fail
      go_quiet (fail)
      go_wp2
      go_ret
      exact ⟨by rw [HR.out, HS.out, if_neg HQ.out]; rfl, FW.out.drewN _⟩
  by_cases hk14 : k = 14
  · subst hk14
    have HR := Lib.hid (lacks_ask (b := b) (e := ⟨14, a, r, i, l, m, d⟩) (q := 12) (by simp [askK]) (by decide))
    obtain ⟨tk, ti, sk⟩ := s
    clear CO CT HTh HKL
    have hfk := fieldK tk ti sk
    have hlk := HL.out
    simp only at hlk
    have q2 := HK2.out
    have q3 := HB3.out
    clear HL HK2 HB3
    by_cases hq : sk = 12
    · subst hq
      go_enter Tryz.func156, Tryz.ntmps156
      go_wp2_with fail
      go_quiet (fail)
      go_wp2
      go_ret
      exact ⟨by rw [HR.out, HS.out, if_pos rfl]; rfl, FW.out.drewN _⟩
    · have d0 : (sk != 12) = true := by simp [hq]
      have HQ := Lib.hid hq
      clear hq
      go_enter Tryz.func156, Tryz.ntmps156
      go_wp2_with fail
      go_quiet (fail)
      go_wp2
      go_ret
      exact ⟨by rw [HR.out, HS.out, if_neg HQ.out]; rfl, FW.out.drewN _⟩
  by_cases hk18 : k = 18
  · subst hk18
    have HR := Lib.hid (lacks_ask (b := b) (e := ⟨18, a, r, i, l, m, d⟩) (q := 17) (by simp [askK]) (by decide))
    obtain ⟨tk, ti, sk⟩ := s
    clear CO CT HTh HKL
    have hfk := fieldK tk ti sk
    have hlk := HL.out
    simp only at hlk
    have q2 := HK2.out
    have q3 := HB3.out
    clear HL HK2 HB3
    by_cases hq : sk = 17
    · subst hq
      go_enter Tryz.func156, Tryz.ntmps156
      go_wp2_with fail
      go_quiet (fail)
      go_wp2
      go_ret
      exact ⟨by rw [HR.out, HS.out, if_pos rfl]; rfl, FW.out.drewN _⟩
    · have d0 : (sk != 17) = true := by simp [hq]
      have HQ := Lib.hid hq
      clear hq
      go_enter Tryz.func156, Tryz.ntmps156
      go_wp2_with fail
      go_quiet (fail)
      go_wp2
      go_ret
      exact ⟨by rw [HR.out, HS.out, if_neg HQ.out]; rfl, FW.out.drewN _⟩
  by_cases hk2 : k = 2
  · subst hk2
    have HR := Lib.hid (lacks_no (b := b) (e := ⟨2, a, r, i, l, m, d⟩) (by simp [askK]))
    clear HL HB3
    have HTK : Hid (thingOf ⟨2, a, r, i, l, m, d⟩ = (2, 0)) := Lib.hid (by simp [thingOf])
    have CT2 : Hid (∀ w', Fr (fun _ => False) w w' → Calls Tryz.prog 178 #[.pointer (some ⟨g, 0, none⟩), .agg #[.int .i64 2, .int .i64 0]] w' fun e w2 => e = .returned (.string (if (2, 0) ∈ b.used then wTask else ⟨#[]⟩)) ∧ Fr (fun _ => False) w' w2) := Lib.hid (fun w' hf => by
      have := CT.out w' hf
      rw [HTK.out] at this
      simpa using this)
    have CO2 : Hid (∀ w', Calls Tryz.prog 157 #[.agg #[.int .i64 2, .int .i64 a, .int .i64 r, .int .i64 i, .int .i64 l, .int .i64 m, .slice A d.length c]] w' fun e w2 => e = .returned (.agg #[.int .i64 2, .int .i64 0]) ∧ Fr (fun _ => False) w' w2) := Lib.hid (fun w' => by
      have := CO.out w'
      rw [HTK.out] at this
      exact this)
    clear CO CT HTh
    obtain ⟨sx, hsx⟩ : ∃ sx : ByteArray, (if (2, 0) ∈ b.used then wTask else ⟨#[]⟩) = sx := ⟨_, rfl⟩
    rw [hsx] at CT2
    have HSX := Lib.hid hsx
    clear hsx
    obtain ⟨k1, k2, k3, k4, k5, k6⟩ := HKL.out
    by_cases hr : r = 0
    · subst hr
      go_enter Tryz.func156, Tryz.ntmps156
      go_wp2_with fail
      clear hW hg0
      refine (CO2.out _).mono ?_; rintro e w1 ⟨rfl, hf1⟩
      have HF1 := Lib.hid hf1
      clear hf1 CO2
      go_wp2_with fail
      refine (CT2.out _ (FW.out.trans HF1.out (fun _ _ h => h))).mono ?_; rintro e w2 ⟨rfl, hf2⟩
      have HF2 := Lib.hid (HF1.out.trans hf2 (fun _ _ h => h))
      clear hf2 CT2
      have q2 : w2.cell? ⟨g0, 2, none⟩ = some (.int .i64 0) := (KW.out.fr HF2.out (fun h => h)).cell 2
      clear K0 k1 k2 k3 k4 k5 k6
      go_wp2
      go_ret
      refine ⟨?_, FW.out.trans HF2.out (fun _ _ h => h)⟩
      rw [HR.out, HTK.out, show sx = _ from HSX.out.symm]
      by_cases hu : (2, 0) ∈ b.used
      · simp [hu, opensK, wordW]
      · simp [hu, opensK, wordW]
    · have d0 : (r != 0) = true := by simp [hr]
      have HRR := Lib.hid hr
      clear hr
      go_enter Tryz.func156, Tryz.ntmps156
      go_wp2_with fail
      clear hW hg0
      refine (CO2.out _).mono ?_; rintro e w1 ⟨rfl, hf1⟩
      have HF1 := Lib.hid hf1
      clear hf1 CO2
      go_wp2_with fail
      refine (CT2.out _ (FW.out.trans HF1.out (fun _ _ h => h))).mono ?_; rintro e w2 ⟨rfl, hf2⟩
      have HF2 := Lib.hid (HF1.out.trans hf2 (fun _ _ h => h))
      clear hf2 CT2
      have q2 : w2.cell? ⟨g0, 2, none⟩ = some (.int .i64 r) := (KW.out.fr HF2.out (fun h => h)).cell 2
      clear K0 k1 k2 k3 k4 k5 k6
      go_wp2
      go_ret
      refine ⟨?_, FW.out.trans HF2.out (fun _ _ h => h)⟩
      rw [HR.out, if_pos HRR.out]; rfl
  by_cases hk7 : k = 7
  · subst hk7
    have HR := Lib.hid (lacks_no (b := b) (e := ⟨7, a, r, i, l, m, d⟩) (by simp [askK]))
    clear HL HB3
    have HTK : Hid (thingOf ⟨7, a, r, i, l, m, d⟩ = (7, i)) := Lib.hid (by simp [thingOf])
    have CT2 : Hid (∀ w', Fr (fun _ => False) w w' → Calls Tryz.prog 178 #[.pointer (some ⟨g, 0, none⟩), .agg #[.int .i64 7, .int .i64 i]] w' fun e w2 => e = .returned (.string (if (7, i) ∈ b.used then wId else ⟨#[]⟩)) ∧ Fr (fun _ => False) w' w2) := Lib.hid (fun w' hf => by
      have := CT.out w' hf
      rw [HTK.out] at this
      simpa using this)
    have CO2 : Hid (∀ w', Calls Tryz.prog 157 #[.agg #[.int .i64 7, .int .i64 a, .int .i64 r, .int .i64 i, .int .i64 l, .int .i64 m, .slice A d.length c]] w' fun e w2 => e = .returned (.agg #[.int .i64 7, .int .i64 i]) ∧ Fr (fun _ => False) w' w2) := Lib.hid (fun w' => by
      have := CO.out w'
      rw [HTK.out] at this
      exact this)
    clear CO CT HTh
    obtain ⟨sx, hsx⟩ : ∃ sx : ByteArray, (if (7, i) ∈ b.used then wId else ⟨#[]⟩) = sx := ⟨_, rfl⟩
    rw [hsx] at CT2
    have HSX := Lib.hid hsx
    clear hsx
    obtain ⟨k1, k2, k3, k4, k5, k6⟩ := HKL.out
    by_cases hr : r = 0
    · subst hr
      go_enter Tryz.func156, Tryz.ntmps156
      go_wp2_with fail
      clear hW hg0
      refine (CO2.out _).mono ?_; rintro e w1 ⟨rfl, hf1⟩
      have HF1 := Lib.hid hf1
      clear hf1 CO2
      go_wp2_with fail
      refine (CT2.out _ (FW.out.trans HF1.out (fun _ _ h => h))).mono ?_; rintro e w2 ⟨rfl, hf2⟩
      have HF2 := Lib.hid (HF1.out.trans hf2 (fun _ _ h => h))
      clear hf2 CT2
      have q2 : w2.cell? ⟨g0, 2, none⟩ = some (.int .i64 0) := (KW.out.fr HF2.out (fun h => h)).cell 2
      clear K0 k1 k2 k3 k4 k5 k6
      go_wp2
      go_ret
      refine ⟨?_, FW.out.trans HF2.out (fun _ _ h => h)⟩
      rw [HR.out, HTK.out, show sx = _ from HSX.out.symm]
      by_cases hu : (7, i) ∈ b.used
      · simp [hu, opensK, wordW]
      · simp [hu, opensK, wordW]
    · have d0 : (r != 0) = true := by simp [hr]
      have HRR := Lib.hid hr
      clear hr
      go_enter Tryz.func156, Tryz.ntmps156
      go_wp2_with fail
      clear hW hg0
      refine (CO2.out _).mono ?_; rintro e w1 ⟨rfl, hf1⟩
      have HF1 := Lib.hid hf1
      clear hf1 CO2
      go_wp2_with fail
      refine (CT2.out _ (FW.out.trans HF1.out (fun _ _ h => h))).mono ?_; rintro e w2 ⟨rfl, hf2⟩
      have HF2 := Lib.hid (HF1.out.trans hf2 (fun _ _ h => h))
      clear hf2 CT2
      have q2 : w2.cell? ⟨g0, 2, none⟩ = some (.int .i64 r) := (KW.out.fr HF2.out (fun h => h)).cell 2
      clear K0 k1 k2 k3 k4 k5 k6
      go_wp2
      go_ret
      refine ⟨?_, FW.out.trans HF2.out (fun _ _ h => h)⟩
      rw [HR.out, if_pos HRR.out]; rfl
  by_cases hk12 : k = 12
  · subst hk12
    have HR := Lib.hid (lacks_no (b := b) (e := ⟨12, a, r, i, l, m, d⟩) (by simp [askK]))
    clear HL HB3
    have HTK : Hid (thingOf ⟨12, a, r, i, l, m, d⟩ = (12, i)) := Lib.hid (by simp [thingOf])
    have CT2 : Hid (∀ w', Fr (fun _ => False) w w' → Calls Tryz.prog 178 #[.pointer (some ⟨g, 0, none⟩), .agg #[.int .i64 12, .int .i64 i]] w' fun e w2 => e = .returned (.string (if (12, i) ∈ b.used then wId else ⟨#[]⟩)) ∧ Fr (fun _ => False) w' w2) := Lib.hid (fun w' hf => by
      have := CT.out w' hf
      rw [HTK.out] at this
      simpa using this)
    have CO2 : Hid (∀ w', Calls Tryz.prog 157 #[.agg #[.int .i64 12, .int .i64 a, .int .i64 r, .int .i64 i, .int .i64 l, .int .i64 m, .slice A d.length c]] w' fun e w2 => e = .returned (.agg #[.int .i64 12, .int .i64 i]) ∧ Fr (fun _ => False) w' w2) := Lib.hid (fun w' => by
      have := CO.out w'
      rw [HTK.out] at this
      exact this)
    clear CO CT HTh
    obtain ⟨sx, hsx⟩ : ∃ sx : ByteArray, (if (12, i) ∈ b.used then wId else ⟨#[]⟩) = sx := ⟨_, rfl⟩
    rw [hsx] at CT2
    have HSX := Lib.hid hsx
    clear hsx
    obtain ⟨k1, k2, k3, k4, k5, k6⟩ := HKL.out
    by_cases hr : r = 0
    · subst hr
      go_enter Tryz.func156, Tryz.ntmps156
      go_wp2_with fail
      clear hW hg0
      refine (CO2.out _).mono ?_; rintro e w1 ⟨rfl, hf1⟩
      have HF1 := Lib.hid hf1
      clear hf1 CO2
      go_wp2_with fail
      refine (CT2.out _ (FW.out.trans HF1.out (fun _ _ h => h))).mono ?_; rintro e w2 ⟨rfl, hf2⟩
      have HF2 := Lib.hid (HF1.out.trans hf2 (fun _ _ h => h))
      clear hf2 CT2
      have q2 : w2.cell? ⟨g0, 2, none⟩ = some (.int .i64 0) := (KW.out.fr HF2.out (fun h => h)).cell 2
      clear K0 k1 k2 k3 k4 k5 k6
      go_wp2
      go_ret
      refine ⟨?_, FW.out.trans HF2.out (fun _ _ h => h)⟩
      rw [HR.out, HTK.out, show sx = _ from HSX.out.symm]
      by_cases hu : (12, i) ∈ b.used
      · simp [hu, opensK, wordW]
      · simp [hu, opensK, wordW]
    · have d0 : (r != 0) = true := by simp [hr]
      have HRR := Lib.hid hr
      clear hr
      go_enter Tryz.func156, Tryz.ntmps156
      go_wp2_with fail
      clear hW hg0
      refine (CO2.out _).mono ?_; rintro e w1 ⟨rfl, hf1⟩
      have HF1 := Lib.hid hf1
      clear hf1 CO2
      go_wp2_with fail
      refine (CT2.out _ (FW.out.trans HF1.out (fun _ _ h => h))).mono ?_; rintro e w2 ⟨rfl, hf2⟩
      have HF2 := Lib.hid (HF1.out.trans hf2 (fun _ _ h => h))
      clear hf2 CT2
      have q2 : w2.cell? ⟨g0, 2, none⟩ = some (.int .i64 r) := (KW.out.fr HF2.out (fun h => h)).cell 2
      clear K0 k1 k2 k3 k4 k5 k6
      go_wp2
      go_ret
      refine ⟨?_, FW.out.trans HF2.out (fun _ _ h => h)⟩
      rw [HR.out, if_pos HRR.out]; rfl
  by_cases hk17 : k = 17
  · subst hk17
    have HR := Lib.hid (lacks_no (b := b) (e := ⟨17, a, r, i, l, m, d⟩) (by simp [askK]))
    clear HL HB3
    have HTK : Hid (thingOf ⟨17, a, r, i, l, m, d⟩ = (17, i)) := Lib.hid (by simp [thingOf])
    have CT2 : Hid (∀ w', Fr (fun _ => False) w w' → Calls Tryz.prog 178 #[.pointer (some ⟨g, 0, none⟩), .agg #[.int .i64 17, .int .i64 i]] w' fun e w2 => e = .returned (.string (if (17, i) ∈ b.used then wId else ⟨#[]⟩)) ∧ Fr (fun _ => False) w' w2) := Lib.hid (fun w' hf => by
      have := CT.out w' hf
      rw [HTK.out] at this
      simpa using this)
    have CO2 : Hid (∀ w', Calls Tryz.prog 157 #[.agg #[.int .i64 17, .int .i64 a, .int .i64 r, .int .i64 i, .int .i64 l, .int .i64 m, .slice A d.length c]] w' fun e w2 => e = .returned (.agg #[.int .i64 17, .int .i64 i]) ∧ Fr (fun _ => False) w' w2) := Lib.hid (fun w' => by
      have := CO.out w'
      rw [HTK.out] at this
      exact this)
    clear CO CT HTh
    obtain ⟨sx, hsx⟩ : ∃ sx : ByteArray, (if (17, i) ∈ b.used then wId else ⟨#[]⟩) = sx := ⟨_, rfl⟩
    rw [hsx] at CT2
    have HSX := Lib.hid hsx
    clear hsx
    obtain ⟨k1, k2, k3, k4, k5, k6⟩ := HKL.out
    by_cases hr : r = 0
    · subst hr
      go_enter Tryz.func156, Tryz.ntmps156
      go_wp2_with fail
      clear hW hg0
      refine (CO2.out _).mono ?_; rintro e w1 ⟨rfl, hf1⟩
      have HF1 := Lib.hid hf1
      clear hf1 CO2
      go_wp2_with fail
      refine (CT2.out _ (FW.out.trans HF1.out (fun _ _ h => h))).mono ?_; rintro e w2 ⟨rfl, hf2⟩
      have HF2 := Lib.hid (HF1.out.trans hf2 (fun _ _ h => h))
      clear hf2 CT2
      have q2 : w2.cell? ⟨g0, 2, none⟩ = some (.int .i64 0) := (KW.out.fr HF2.out (fun h => h)).cell 2
      clear K0 k1 k2 k3 k4 k5 k6
      go_wp2
      go_ret
      refine ⟨?_, FW.out.trans HF2.out (fun _ _ h => h)⟩
      rw [HR.out, HTK.out, show sx = _ from HSX.out.symm]
      by_cases hu : (17, i) ∈ b.used
      · simp [hu, opensK, wordW]
      · simp [hu, opensK, wordW]
    · have d0 : (r != 0) = true := by simp [hr]
      have HRR := Lib.hid hr
      clear hr
      go_enter Tryz.func156, Tryz.ntmps156
      go_wp2_with fail
      clear hW hg0
      refine (CO2.out _).mono ?_; rintro e w1 ⟨rfl, hf1⟩
      have HF1 := Lib.hid hf1
      clear hf1 CO2
      go_wp2_with fail
      refine (CT2.out _ (FW.out.trans HF1.out (fun _ _ h => h))).mono ?_; rintro e w2 ⟨rfl, hf2⟩
      have HF2 := Lib.hid (HF1.out.trans hf2 (fun _ _ h => h))
      clear hf2 CT2
      have q2 : w2.cell? ⟨g0, 2, none⟩ = some (.int .i64 r) := (KW.out.fr HF2.out (fun h => h)).cell 2
      clear K0 k1 k2 k3 k4 k5 k6
      go_wp2
      go_ret
      refine ⟨?_, FW.out.trans HF2.out (fun _ _ h => h)⟩
      rw [HR.out, if_pos HRR.out]; rfl
  have HR := Lib.hid (lacks_no (b := b) (e := ⟨k, a, r, i, l, m, d⟩) (by simp only [askK]; rw [if_neg (by omega), if_neg (by omega), if_neg (by omega), if_neg (by omega), if_neg (by omega), if_neg (by omega)]))
  have HO : Hid (opensK k = false) := Lib.hid (by simp [opensK]; omega)
  have e2 : (k == 2) = false := by simp; omega
  have e3 : (k == 3) = false := by simp; omega
  have e4 : (k == 4) = false := by simp; omega
  have e5 : (k == 5) = false := by simp; omega
  have e6 : (k == 6) = false := by simp; omega
  have e7 : (k == 7) = false := by simp; omega
  have e8 : (k == 8) = false := by simp; omega
  have e9 : (k == 9) = false := by simp; omega
  have e10 : (k == 10) = false := by simp; omega
  have e11 : (k == 11) = false := by simp; omega
  have e12 : (k == 12) = false := by simp; omega
  have e13 : (k == 13) = false := by simp; omega
  have e14 : (k == 14) = false := by simp; omega
  have e17 : (k == 17) = false := by simp; omega
  have e18 : (k == 18) = false := by simp; omega
  obtain ⟨k1, k2, k3, k4, k5, k6⟩ := HKL.out
  clear CO CT HTh HL HB3 HKL HK2
  clear hk2 hk3 hk4 hk5 hk6 hk7 hk8 hk9 hk10 hk11 hk12 hk13 hk14 hk17 hk18
  by_cases hr : r = 0
  · subst hr
    go_enter Tryz.func156, Tryz.ntmps156
    go_wp2
    go_ret
    refine ⟨?_, FW.out⟩
    rw [HR.out, HO.out]; rfl
  · have d0 : (r != 0) = true := by simp [hr]
    have HRR := Lib.hid hr
    clear hr
    go_enter Tryz.func156, Tryz.ntmps156
    go_wp2
    go_ret
    refine ⟨?_, FW.out⟩
    rw [HR.out, if_pos HRR.out]; rfl
end Go.Proofs.YtieoeoonopcjbaaGreatDoor

/- event: isKind, Closes, Right, a thing's opening; a book in memory. -/
namespace Go.Proofs.YtieoeoonopcjbaaGreatDoor
open Go.RowKit Go.Maps

def isKindB (k : Int) : Bool := decide (1 ≤ k) && decide (k ≤ 23)
set_option maxRecDepth 100000 in
theorem isKind_any (k : Int) (w : World) : Calls Tryz.prog 108 #[.int .i64 k] w fun e w' => e = .returned (.bool (isKindB k)) ∧ w = w' := by
  unfold isKindB
  obtain ⟨p, hp⟩ : ∃ p, decide (1 ≤ k) = p := ⟨_, rfl⟩
  obtain ⟨q, hq⟩ : ∃ q, decide (k ≤ 23) = q := ⟨_, rfl⟩
  rw [hp, hq]
  cases p <;> cases q <;>
  · go_enter Tryz.func108, Tryz.ntmps108
    go_wp2
    go_ret
    exact ⟨rfl, rfl⟩
set_option maxRecDepth 100000 in
theorem closes_any (k : Int) (w : World) : Calls Tryz.prog 120 #[.int .i64 k] w fun e w' => e = .returned (.bool (closesK k)) ∧ w = w' := by
  unfold closesK
  obtain ⟨p, hp⟩ : ∃ p, decide (19 ≤ k) = p := ⟨_, rfl⟩
  obtain ⟨q, hq⟩ : ∃ q, decide (k ≤ 23) = q := ⟨_, rfl⟩
  rw [hp, hq]
  cases p <;> cases q <;>
  · go_enter Tryz.func120, Tryz.ntmps120
    go_wp2
    go_ret
    exact ⟨rfl, rfl⟩

theorem inE_no {v : Int} (h : inE v = false) : v < 0 ∨ (0 ≤ v ∧ 1099511627776 < v) := by
  unfold inE at h; simp at h; omega
theorem inE_yes {v : Int} (h : inE v = true) : 0 ≤ v ∧ v ≤ 1099511627776 := by
  unfold inE at h; simp at h; omega
set_option maxRecDepth 100000 in
set_option maxHeartbeats 4000000 in
theorem right_any (p : VL) (w : World) : Calls Tryz.prog 155 #[p.val] w fun e w' => e = .returned (.bool p.e.right) ∧ Fr (fun _ => False) w w' := by
  have HF : Hid (Fr (fun _ => False) w (w.alloc (.cells p.cells.toArray 68))) := Lib.hid ((Fr.refl _ _).alloc _)
  obtain ⟨⟨k, a, r, i, l, n, d⟩, A, c⟩ := p
  unfold VL.val VL.cells VL.bv at *
  have HR : Hid ((⟨k, a, r, i, l, n, d⟩ : Ev).right = (isKindB k && inE a && inE r && inE i && inE l && inE n && decide (d.length ≤ 4096))) := Lib.hid rfl
  generalize (⟨k, a, r, i, l, n, d⟩ : Ev).right = RR at *
  simp only at *
  have x0 : ∀ w, (Instr.index 247 (.agg #[Value.int .i64 a, .int .i64 r, .int .i64 i, .int .i64 l, .int .i64 n]) (.int .i64 0)).run Tryz.prog w = .ok (.int .i64 a) w := fun _ => by kernel_rfl
  have x1 : ∀ w, (Instr.index 247 (.agg #[Value.int .i64 a, .int .i64 r, .int .i64 i, .int .i64 l, .int .i64 n]) (.int .i64 1)).run Tryz.prog w = .ok (.int .i64 r) w := fun _ => by kernel_rfl
  have x2 : ∀ w, (Instr.index 247 (.agg #[Value.int .i64 a, .int .i64 r, .int .i64 i, .int .i64 l, .int .i64 n]) (.int .i64 2)).run Tryz.prog w = .ok (.int .i64 i) w := fun _ => by kernel_rfl
  have x3 : ∀ w, (Instr.index 247 (.agg #[Value.int .i64 a, .int .i64 r, .int .i64 i, .int .i64 l, .int .i64 n]) (.int .i64 3)).run Tryz.prog w = .ok (.int .i64 l) w := fun _ => by kernel_rfl
  have x4 : ∀ w, (Instr.index 247 (.agg #[Value.int .i64 a, .int .i64 r, .int .i64 i, .int .i64 l, .int .i64 n]) (.int .i64 4)).run Tryz.prog w = .ok (.int .i64 n) w := fun _ => by kernel_rfl
  cases ha : inE a with
  | false =>
    have hres : RR = false := by rw [HR.out, ha]; simp
    clear HR
    rcases inE_no ha with b0 | ⟨b0, b1⟩
    all_goals
      clear ha
      go_enter Tryz.func155, Tryz.ntmps155
      go_wp2
      refine wp_loop_rounds 1 ?_
      rw [rounds_succ]
      go_wp2
      go_ret
      exact ⟨by rw [hres]; rfl, HF.out⟩
  | true =>
    obtain ⟨ga0, ga1⟩ := inE_yes ha
    cases hr : inE r with
    | false =>
      have hres : RR = false := by rw [HR.out, hr]; simp
      clear HR
      rcases inE_no hr with b0 | ⟨b0, b1⟩
      all_goals
        clear hr
        go_enter Tryz.func155, Tryz.ntmps155
        go_wp2
        refine wp_loop_rounds 2 ?_
        rw [rounds_succ]
        go_wp2
        rw [rounds_succ]
        go_wp2
        go_ret
        exact ⟨by rw [hres]; rfl, HF.out⟩
    | true =>
      obtain ⟨gr0, gr1⟩ := inE_yes hr
      cases hi : inE i with
      | false =>
        have hres : RR = false := by rw [HR.out, hi]; simp
        clear HR
        rcases inE_no hi with b0 | ⟨b0, b1⟩
        all_goals
          clear hi
          go_enter Tryz.func155, Tryz.ntmps155
          go_wp2
          refine wp_loop_rounds 3 ?_
          rw [rounds_succ]
          go_wp2
          rw [rounds_succ]
          go_wp2
          rw [rounds_succ]
          go_wp2
          go_ret
          exact ⟨by rw [hres]; rfl, HF.out⟩
      | true =>
        obtain ⟨gi0, gi1⟩ := inE_yes hi
        cases hl : inE l with
        | false =>
          have hres : RR = false := by rw [HR.out, hl]; simp
          clear HR
          rcases inE_no hl with b0 | ⟨b0, b1⟩
          all_goals
            clear hl
            go_enter Tryz.func155, Tryz.ntmps155
            go_wp2
            refine wp_loop_rounds 4 ?_
            rw [rounds_succ]
            go_wp2
            rw [rounds_succ]
            go_wp2
            rw [rounds_succ]
            go_wp2
            rw [rounds_succ]
            go_wp2
            go_ret
            exact ⟨by rw [hres]; rfl, HF.out⟩
        | true =>
          obtain ⟨gl0, gl1⟩ := inE_yes hl
          cases hn : inE n with
          | false =>
            have hres : RR = false := by rw [HR.out, hn]; simp
            clear HR
            rcases inE_no hn with b0 | ⟨b0, b1⟩
            all_goals
              clear hn
              go_enter Tryz.func155, Tryz.ntmps155
              go_wp2
              refine wp_loop_rounds 5 ?_
              rw [rounds_succ]
              go_wp2
              rw [rounds_succ]
              go_wp2
              rw [rounds_succ]
              go_wp2
              rw [rounds_succ]
              go_wp2
              rw [rounds_succ]
              go_wp2
              go_ret
              exact ⟨by rw [hres]; rfl, HF.out⟩
          | true =>
            obtain ⟨gn0, gn1⟩ := inE_yes hn
            have hres : RR = (isKindB k && decide (d.length ≤ 4096)) := by rw [HR.out, ha, hr, hi, hl, hn]; simp
            clear HR ha hr hi hl hn
            have HRES := Lib.hid hres
            clear hres
            have CK := Lib.hid (isKind_any k)
            obtain ⟨q, hq⟩ : ∃ q, decide (d.length ≤ 4096) = q := ⟨_, rfl⟩
            obtain ⟨x, hx⟩ : ∃ x, isKindB k = x := ⟨_, rfl⟩
            rw [hx] at CK
            rw [hx, hq] at HRES
            have hq2 : decide ((d.length : Int) ≤ 4096) = q := by rw [← hq]; exact decide_eq_decide.2 (by omega)
            clear hx
            go_enter Tryz.func155, Tryz.ntmps155
            go_wp2
            refine wp_loop_rounds 6 ?_
            rw [rounds_succ]
            go_wp2
            rw [rounds_succ]
            go_wp2
            rw [rounds_succ]
            go_wp2
            rw [rounds_succ]
            go_wp2
            rw [rounds_succ]
            go_wp2
            rw [rounds_succ]
            go_wp2_with fail
            refine (CK.out _).mono ?_; rintro e w1 ⟨rfl, rfl⟩
            cases x <;> cases q <;>
            · go_wp2
              go_ret
              exact ⟨by rw [HRES.out]; rfl, HF.out⟩
end Go.Proofs.YtieoeoonopcjbaaGreatDoor

/- event: misfit. -/
namespace Go.Proofs.YtieoeoonopcjbaaGreatDoor
open Go.RowKit Go.Maps

set_option maxRecDepth 100000 in
set_option maxHeartbeats 8000000 in
theorem misfit_any {w : World} {g bo bu : Nat} {b : Bo} (h : Book w g bo bu b) (p : VL) (ok : p.ok) :
    Calls Tryz.prog 97 #[.pointer (some ⟨g, 0, none⟩), p.val] w fun e w' => e = .returned (.string (wordW (b.misfit p.e))) ∧ Fr (fun _ => False) w w' := by
  obtain ⟨W, hW⟩ : ∃ W, w.alloc (.cells p.cells.toArray 68) = W := ⟨_, rfl⟩
  obtain ⟨g0, hg0⟩ : ∃ g0, w.heap.size = g0 := ⟨_, rfl⟩
  have FW : Hid (Fr (fun _ => False) w W) := Lib.hid (by rw [← hW]; exact (Fr.refl _ _).alloc _)
  have KW : Hid (Bk W g0 68 p.cells.toArray) := Lib.hid (by rw [← hW, ← hg0]; exact Bk.new _ _ _)
  have CR := Lib.hid (fun w' => right_any p w')
  have CL := Lib.hid (fun w' (hf : Fr (fun _ => False) w w') => lacks_any (h.fr0 hf) p ok)
  have HB : Hid (∀ w', Fr (fun _ => False) w w' → w'.cell? ⟨g, 0, none⟩ = some (.int .i64 (b.count : Int)) ∧ w'.cell? ⟨g, 1, none⟩ = some (.int .i64 b.now) ∧ w'.cell? ⟨g, 2, none⟩ = some (.bool b.closed)) := Lib.hid (fun w' hf => by
    obtain ⟨Do, Du, hb⟩ := h
    have := hb.blk.fr hf (fun h => h)
    exact ⟨this.cell 0, this.cell 1, this.cell 2⟩)
  have HM : Hid (b.misfit p.e = if p.e.right = false then 1 else if p.e.a < b.now then 2 else if (b.count == 0) != (p.e.k == 1) then 3 else if b.closed = true then 4 else b.lacks p.e) := Lib.hid rfl
  generalize b.misfit p.e = R at *
  generalize b.lacks p.e = L at *
  obtain ⟨x, hx⟩ : ∃ x, p.e.right = x := ⟨_, rfl⟩
  rw [hx] at HM CR
  clear hx
  obtain ⟨⟨k, a, r, i, l, m, d⟩, A, c⟩ := p
  unfold VL.val VL.cells VL.bv at *
  have K0 : W.cell? ⟨g0, 0, none⟩ = some (.int .i64 k) := KW.out.cell 0
  have K1 : W.cell? ⟨g0, 1, none⟩ = some (.int .i64 a) := KW.out.cell 1
  have K2 : W.cell? ⟨g0, 2, none⟩ = some (.int .i64 r) := KW.out.cell 2
  have K3 : W.cell? ⟨g0, 3, none⟩ = some (.int .i64 i) := KW.out.cell 3
  have K4 : W.cell? ⟨g0, 4, none⟩ = some (.int .i64 l) := KW.out.cell 4
  have K5 : W.cell? ⟨g0, 5, none⟩ = some (.int .i64 m) := KW.out.cell 5
  have K6 : W.cell? ⟨g0, 6, none⟩ = some (.slice A d.length c) := KW.out.cell 6
  have b0 := (HB.out W FW.out).1
  have hcnt : (((b.count : Int) == 0) : Bool) = (b.count == 0) := by
    by_cases h0 : b.count = 0
    · rw [h0]; rfl
    · rw [show ((b.count : Int) == 0) = false by simp; omega, show (b.count == 0) = false by simp; omega]
  obtain ⟨y, hy⟩ : ∃ y, (b.count == 0) = y := ⟨_, rfl⟩
  rw [hy] at hcnt HM
  clear hy
  obtain ⟨z, hz⟩ : ∃ z, (k == 1) = z := ⟨_, rfl⟩
  rw [hz] at HM
  clear ok h
  go_enter Tryz.func97, Tryz.ntmps97
  go_wp2_with fail
  clear hW hg0
  refine (CR.out _).mono ?_; rintro e w1 ⟨rfl, hf1⟩
  have HF1 := Lib.hid hf1
  clear hf1 CR b0 K0 K1 K2 K3 K4 K5 K6
  cases x with
  | false =>
    go_wp2
    go_ret
    exact ⟨by rw [HM.out]; rfl, FW.out.trans HF1.out (fun _ _ h => h)⟩
  | true =>
    have KK : Hid (∀ w', Fr (fun _ => False) w1 w' → w'.cell? ⟨g0, 0, none⟩ = some (.int .i64 k) ∧ w'.cell? ⟨g0, 1, none⟩ = some (.int .i64 a) ∧ w'.cell? ⟨g0, 2, none⟩ = some (.int .i64 r) ∧ w'.cell? ⟨g0, 3, none⟩ = some (.int .i64 i) ∧ w'.cell? ⟨g0, 4, none⟩ = some (.int .i64 l) ∧ w'.cell? ⟨g0, 5, none⟩ = some (.int .i64 m) ∧ w'.cell? ⟨g0, 6, none⟩ = some (.slice A d.length c)) := Lib.hid (fun w' hf => by
      have := KW.out.fr (HF1.out.trans hf (fun _ _ h => h)) (fun h => h)
      exact ⟨this.cell 0, this.cell 1, this.cell 2, this.cell 3, this.cell 4, this.cell 5, this.cell 6⟩)
    have HBB : Hid (∀ w', Fr (fun _ => False) w1 w' → w'.cell? ⟨g, 1, none⟩ = some (.int .i64 b.now) ∧ w'.cell? ⟨g, 2, none⟩ = some (.bool b.closed)) := Lib.hid (fun w' hf => (HB.out w' ((FW.out.trans HF1.out (fun _ _ h => h)).trans hf (fun _ _ h => h))).2)
    have q1 : ∀ n, (w1.drewN n).cell? ⟨g0, 1, none⟩ = some (.int .i64 a) := fun n => (KK.out _ ((Fr.refl _ _).drewN n)).2.1
    have q2 : ∀ n, (w1.drewN n).cell? ⟨g, 1, none⟩ = some (.int .i64 b.now) := fun n => (HBB.out _ ((Fr.refl _ _).drewN n)).1
    by_cases ht : a < b.now
    · go_wp2_with fail
      go_quiet (fail)
      clear q1 q2
      go_wp2
      go_ret
      exact ⟨by rw [HM.out, if_neg (by simp), if_pos ht]; rfl, (FW.out.trans HF1.out (fun _ _ h => h)).drewN _⟩
    · have d1 : decide (a < b.now) = false := decide_eq_false ht
      have HT := Lib.hid ht
      clear ht
      go_wp2_with fail
      go_quiet (fail)
      obtain ⟨w2, hw2⟩ : ∃ w2, w1.drewN nq = w2 := ⟨_, rfl⟩
      have HF2 : Hid (Fr (fun _ => False) w1 w2) := Lib.hid (by rw [← hw2]; exact (Fr.refl _ _).drewN _)
      rw [hw2]
      clear q1 q2 hw2
      obtain ⟨k0, k1, k2, k3, k4, k5, k6⟩ := KK.out _ HF2.out
      obtain ⟨-, k7⟩ := HBB.out _ HF2.out
      obtain ⟨cl, hcl⟩ : ∃ cl, b.closed = cl := ⟨_, rfl⟩
      rw [hcl] at HM k7
      have HFA := Lib.hid ((FW.out.trans HF1.out (fun _ _ h => h)).trans HF2.out (fun _ _ h => h))
      have CLL := Lib.hid (CL.out _ HFA.out)
      clear hcl CL KK HBB HB KW
      cases y <;> cases z <;> cases cl <;> first
        | (go_wp2
           go_ret
           exact ⟨by rw [HM.out, if_neg (by simp), if_neg (Int.not_lt.2 HT.out)]; rfl, HFA.out⟩)
        | (go_wp2_with fail
           refine CLL.out.mono ?_; rintro e w3 ⟨rfl, hf3⟩
           have HF3 := Lib.hid (HFA.out.trans hf3 (fun _ _ h => h))
           clear hf3 CLL
           go_wp2
           go_ret
           exact ⟨by rw [HM.out, if_neg (by simp), if_neg (Int.not_lt.2 HT.out)]; simp, HF3.out⟩)
end Go.Proofs.YtieoeoonopcjbaaGreatDoor
