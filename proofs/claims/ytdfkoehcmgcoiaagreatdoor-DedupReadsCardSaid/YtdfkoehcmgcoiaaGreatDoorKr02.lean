import Derived.Test.YtdfkoehcmgcoiaaGreatDoorKr01
import Derived.Shelf.Slices.SearchI
import Derived.Shelf.Slices.Delete
import Derived.Shelf.Slices.Empties
import Derived.Shelf.Spec.SlicesInsertGrow
import Derived.Test.YtdfkoehcmgcoiaaGreatDoorProg
import Derived.IntWalk
import Derived.Handy
import Derived.Deep.RegionHeld3
import Derived.Deep.QuietTactic
import Derived.BigQuiet
import Derived.StillTailTactics

/- A table of answers in memory: what it is, what stays. -/
namespace Go.Proofs.YtdfkoehcmgcoiaaGreatDoor
open Go.RowKit Go.Maps

section
variable {w : World} {k t e : TypeId} {b : Nat} {D : DV}
theorem MV.at1 (h : MV w k b D) (K : Keyed Tryz.prog k) (ht : Tryz.prog.underlying t = some (.map k e)) {z : Value} (hz : (zeroValue e).run Tryz.prog w = .ok z w) {key v : Value} {kl : Lit} (hkey : keyOf Tryz.prog k key = some kl) (ha : At D kl v) :
    (Instr.lookup t (.map (some b)) key true).run Tryz.prog w = .ok (.tuple #[v, .bool true]) w ∧ (Instr.lookup t (.map (some b)) key false).run Tryz.prog w = .ok v w := by
  obtain ⟨u, ps, h1, h2⟩ := World.ownsMap.look_ok h K ht hz (zd := .held z) (zp := []) rfl hkey
  obtain ⟨u', ps', h3, h4⟩ := World.ownsMap.lookup h K ht hz (zd := .held z) (zp := []) rfl hkey
  rw [ha.2] at h2 h4
  rw [ha.1] at h1
  have e1 : u = v := by unfold HV at h2; simp at h2; exact h2.1
  have e2 : u' = v := by unfold HV at h4; simp at h4; exact h4.1
  subst e1 e2
  exact ⟨h1, h3⟩
theorem MV.at0 (h : MV w k b D) (K : Keyed Tryz.prog k) (ht : Tryz.prog.underlying t = some (.map k e)) {z : Value} (hz : (zeroValue e).run Tryz.prog w = .ok z w) {key : Value} {kl : Lit} (hkey : keyOf Tryz.prog k key = some kl) (ha : has D kl = false) :
    (Instr.lookup t (.map (some b)) key true).run Tryz.prog w = .ok (.tuple #[z, .bool false]) w ∧ (Instr.lookup t (.map (some b)) key false).run Tryz.prog w = .ok z w := by
  obtain ⟨u, ps, h1, h2⟩ := World.ownsMap.look_ok h K ht hz (zd := .held z) (zp := []) rfl hkey
  obtain ⟨u', ps', h3, h4⟩ := World.ownsMap.lookup h K ht hz (zd := .held z) (zp := []) rfl hkey
  rw [atKey_of_not_has ha] at h2 h4
  rw [ha] at h1
  have e1 : u = z := by unfold HV at h2; simp at h2; exact h2.1
  have e2 : u' = z := by unfold HV at h4; simp at h4; exact h4.1
  subst e1 e2
  exact ⟨h1, h3⟩
end
theorem zeroRow (w : World) : (zeroValue 64).run Tryz.prog w = .ok (.slice none 0 0) w := by kernel_rfl
theorem zeroAns (w : World) : (zeroValue 32).run Tryz.prog w = .ok (.slice none 0 0) w := by kernel_rfl

/-- A row of ints, at whatever place of a block. -/
def RI (w : World) (v : Value) (r : List Int) : Prop := Row w 3 1 v r.length (r.map IV)
theorem tKey : Tryz.prog.underlying 77 = some (.map 57 32) := Tryz.underlying77
theorem tRow : Tryz.prog.underlying 78 = some (.map 3 64) := Tryz.underlying78

/-- A table: its struct at block g, its answers' map at ba, its rows' map at br; all of it within F. -/
structure TabM (w : World) (g ba br : Nat) (F : Nat → Prop) (t : DT) (Da Dr : DV) : Prop where
  blk : Bk w g 80 #[.int .i64 t.win, .map (some ba), .map (some br)]
  ma : MV w 57 ba Da
  mr : MV w 3 br Dr
  noRow : ∀ c, I64 c → t.row c = [] → has Dr (.int .i64 c) = false
  row : ∀ c, I64 c → t.row c ≠ [] → ∃ v, At Dr (.int .i64 c) v ∧ RI w v (t.row c) ∧ ∀ k, v.ownBlock = some k → F k
  apart : ∀ c c' v v' k, I64 c → I64 c' → At Dr (.int .i64 c) v → At Dr (.int .i64 c') v' → v.ownBlock = some k → v'.ownBlock = some k → c = c'
  noAns : ∀ c s, I64 c → I64 s → s ∉ t.row c → has Da (ky c s) = false
  ans : ∀ c s, I64 c → I64 s → s ∈ t.row c → ∃ A cap, At Da (ky c s) (.slice A (t.ans c s).length cap) ∧ Rd8 w A (t.ans c s) ∧ ∀ ad, A = some ad → 0 < (t.ans c s).length → F ad.block ∧ ∃ cs, Bk w ad.block 5 cs
  ab : ba ≠ br
  sr : Maps.size Dr = t.cs.length
  sa : Maps.size Da = t.n
  fg : F g
  fa : F ba
  fb : F br
  flt : ∀ k, F k → k < w.heap.size

theorem TabM.fr {S F : Nat → Prop} {w w' : World} {g ba br : Nat} {t : DT} {Da Dr : DV} (h : TabM w g ba br F t Da Dr) (hf : Fr S w w') (hS : ∀ k, F k → ¬ S k) : TabM w' g ba br F t Da Dr where
  blk := h.blk.fr hf (hS _ h.fg)
  ma := h.ma.fr hf (hS _ h.fa)
  mr := h.mr.fr hf (hS _ h.fb)
  noRow := h.noRow
  row c hc hr := by
    obtain ⟨v, h1, h2, h3⟩ := h.row c hc hr
    exact ⟨v, h1, Row.fr h2 hf (fun k hk => hS k (h3 k hk)), h3⟩
  apart := h.apart
  noAns := h.noAns
  ans c s hc hs hm := by
    obtain ⟨A, cap, h1, h2, h3⟩ := h.ans c s hc hs hm
    exact ⟨A, cap, h1, h2.fr hf (fun ad e h0 => hS _ (h3 ad e h0).1), fun ad e h0 => by
      obtain ⟨h4, cs, h5⟩ := h3 ad e h0
      exact ⟨h4, cs, h5.fr hf (hS _ h4)⟩⟩
  ab := h.ab
  sr := h.sr
  sa := h.sa
  fg := h.fg
  fa := h.fa
  fb := h.fb
  flt k hk := Nat.lt_of_lt_of_le (h.flt k hk) hf.size
theorem TabM.mono {F F' : Nat → Prop} {w : World} {g ba br : Nat} {t : DT} {Da Dr : DV} (h : TabM w g ba br F t Da Dr) (hF : ∀ k, F k → F' k) (hl : ∀ k, F' k → k < w.heap.size) : TabM w g ba br F' t Da Dr :=
  ⟨h.blk, h.ma, h.mr, h.noRow, fun c hc hr => by
      obtain ⟨v, h1, h2, h3⟩ := h.row c hc hr
      exact ⟨v, h1, h2, fun k hk => hF k (h3 k hk)⟩, h.apart, h.noAns, fun c s hc hs hm => by
      obtain ⟨A, cap, h1, h2, h3⟩ := h.ans c s hc hs hm
      exact ⟨A, cap, h1, h2, fun ad e h0 => ⟨hF _ (h3 ad e h0).1, (h3 ad e h0).2⟩⟩, h.ab, h.sr, h.sa, hF _ h.fg, hF _ h.fa, hF _ h.fb, hl⟩

/-- A table at block g, within F. -/
def Tab (w : World) (g : Nat) (F : Nat → Prop) (t : DT) : Prop := ∃ ba br Da Dr, TabM w g ba br F t Da Dr
theorem Tab.fr {S F : Nat → Prop} {w w' : World} {g : Nat} {t : DT} (h : Tab w g F t) (hf : Fr S w w') (hS : ∀ k, F k → ¬ S k) : Tab w' g F t := by
  obtain ⟨ba, br, Da, Dr, h1⟩ := h
  exact ⟨ba, br, Da, Dr, h1.fr hf hS⟩
theorem Tab.fr0 {F : Nat → Prop} {w w' : World} {g : Nat} {t : DT} (h : Tab w g F t) (hf : Fr (fun _ => False) w w') : Tab w' g F t := h.fr hf (fun _ _ h => h)
theorem Tab.lt {F : Nat → Prop} {w : World} {g : Nat} {t : DT} (h : Tab w g F t) {k : Nat} (hk : F k) : k < w.heap.size := by
  obtain ⟨_, _, _, _, h1⟩ := h
  exact h1.flt k hk
/-- From a table within F to a table. -/
def TabTo (w : World) (g : Nat) (F : Nat → Prop) (w' : World) (t' : DT) : Prop := ∃ F', Tab w' g F' t' ∧ Fr F w w' ∧ ∀ k, F' k → F k ∨ w.heap.size ≤ k
theorem Tab.to {F : Nat → Prop} {w w' : World} {g : Nat} {t : DT} (h : Tab w g F t) (hf : Fr (fun _ => False) w w') : TabTo w g F w' t :=
  ⟨F, h.fr0 hf, hf.mono (fun _ _ h => h.elim), fun _ hk => .inl hk⟩
theorem TabTo.trans {F : Nat → Prop} {w w1 w2 : World} {g : Nat} {t1 t2 : DT} (h : TabTo w g F w1 t1) (k : ∀ F', Tab w1 g F' t1 → TabTo w1 g F' w2 t2) : TabTo w g F w2 t2 := by
  obtain ⟨F1, h1, h2, h3⟩ := h
  obtain ⟨F2, k1, k2, k3⟩ := k F1 h1
  refine ⟨F2, k1, h2.trans k2 (fun x hx hF => ?_), fun x hx => ?_⟩
  · rcases h3 x hF with h | h
    · exact h
    · omega
  · rcases k3 x hx with h | h
    · exact h3 x h
    · have := h2.size; exact .inr (by omega)
end Go.Proofs.YtdfkoehcmgcoiaaGreatDoor

/- The library's contracts of BinarySearch, Insert and Delete at []int, laid over this program. -/
namespace Go.Proofs.YtdfkoehcmgcoiaaGreatDoor
open Go.Shelf Go.RowKit Go.Lib
def Tryz.layD25r : Go.Shelf.Ren := ⟨fun | 25 => 48 | 31 => 66 | 32 => 67 | 37 => 78 | n => n, fun | 22 => 64 | 3 => 3 | 4 => 4 | 40 => 116 | 0 => 0 | n => n, fun | n => n⟩
theorem Tryz.layD25 : Go.Proofs.Lays2.n25 Tryz.prog Tryz.layD25r := {
  mixed := by kernel_rfl
  f25 := Tryz.func48.trans (congrArg some (by kernel_rfl))
  f31 := Tryz.func66.trans (congrArg some (by kernel_rfl))
  f32 := Tryz.func67.trans (congrArg some (by kernel_rfl))
  f37 := Tryz.func78.trans (congrArg some (by kernel_rfl))
  t22 := Tryz.underlying64
  a22 := Tryz.isAgg64
  z22 := Tryz.sizeOf64
  v22 := Tryz.zeroValue64
  t3 := Tryz.underlying3
  a3 := Tryz.isAgg3
  z3 := Tryz.sizeOf3
  v3 := Tryz.zeroValue3
  t4 := Tryz.underlying4
  a4 := Tryz.isAgg4
  z4 := Tryz.sizeOf4
  v4 := Tryz.zeroValue4
  t40 := Tryz.underlying116
  a40 := Tryz.isAgg116
  z40 := Tryz.sizeOf116
  v40 := Tryz.zeroValue116
  t0 := Tryz.underlying0
  a0 := Tryz.isAgg0
  z0 := Tryz.sizeOf0
  v0 := Tryz.zeroValue0
}
def Tryz.layD23r : Go.Shelf.Ren := ⟨fun | 23 => 50 | n => n, fun | 22 => 64 | 3 => 3 | 4 => 4 | 0 => 0 | n => n, fun | n => n⟩
theorem Tryz.layD23 : Go.Proofs.Lays2.n23 Tryz.prog Tryz.layD23r := {
  mixed := by kernel_rfl
  f23 := Tryz.func50.trans (congrArg some (by kernel_rfl))
  t22 := Tryz.underlying64
  a22 := Tryz.isAgg64
  z22 := Tryz.sizeOf64
  v22 := Tryz.zeroValue64
  t3 := Tryz.underlying3
  a3 := Tryz.isAgg3
  z3 := Tryz.sizeOf3
  v3 := Tryz.zeroValue3
  t4 := Tryz.underlying4
  a4 := Tryz.isAgg4
  z4 := Tryz.sizeOf4
  v4 := Tryz.zeroValue4
  t0 := Tryz.underlying0
  a0 := Tryz.isAgg0
  z0 := Tryz.sizeOf0
  v0 := Tryz.zeroValue0
  i3 := by kernel_rfl
}
def Tryz.layD21r : Go.Shelf.Ren := ⟨fun | 21 => 49 | 27 => 68 | 28 => 69 | 35 => 79 | 39 => 89 | n => n, fun | 22 => 64 | 3 => 3 | 4 => 4 | 0 => 0 | n => n, fun | n => n⟩
theorem Tryz.layD21 : Go.Proofs.Lays2.n21 Tryz.prog Tryz.layD21r := {
  mixed := by kernel_rfl
  f21 := Tryz.func49.trans (congrArg some (by kernel_rfl))
  f27 := Tryz.func68.trans (congrArg some (by kernel_rfl))
  f28 := Tryz.func69.trans (congrArg some (by kernel_rfl))
  f35 := Tryz.func79.trans (congrArg some (by kernel_rfl))
  f39 := Tryz.func89.trans (congrArg some (by kernel_rfl))
  t22 := Tryz.underlying64
  a22 := Tryz.isAgg64
  z22 := Tryz.sizeOf64
  v22 := Tryz.zeroValue64
  t3 := Tryz.underlying3
  a3 := Tryz.isAgg3
  z3 := Tryz.sizeOf3
  v3 := Tryz.zeroValue3
  t4 := Tryz.underlying4
  a4 := Tryz.isAgg4
  z4 := Tryz.sizeOf4
  v4 := Tryz.zeroValue4
  t0 := Tryz.underlying0
  a0 := Tryz.isAgg0
  z0 := Tryz.sizeOf0
  v0 := Tryz.zeroValue0
  i3 := by kernel_rfl
}

theorem search_nil (c : Nat) (A : Option Addr) (x : Int) (w : World) :
    Calls Tryz.prog 48 #[.slice A 0 c, .int .i64 x] w fun e w' => e = .returned (.tuple #[.int .i64 0, .bool false]) ∧ w' = w := Any.slices_BinarySearch_int_empty Tryz.layD25 A c x w
/-- BinarySearch of a rising row: where the number stands or would, and whether it is there; nothing turns. -/
theorem search_any {w : World} {v : Value} {r : List Int} (x : Int) (h : RI w v r) (hr : Rise r) (hl : r.length < 4611686018427387904) :
    Calls Tryz.prog 48 #[v, .int .i64 x] w fun e w' => e = .returned (.tuple #[.int .i64 (posR r x : Nat), .bool (r.contains x)]) ∧ Fr (fun _ => False) w w' := by
  rcases h.2 with ⟨rfl, h0⟩ | ⟨b, off, cap, cur, rfl, hb, hc1, hc2, hc3, hc4⟩
  · have : r = [] := List.eq_nil_of_length_eq_zero h0
    subst this
    refine (search_nil 0 none x w).mono ?_
    rintro e w' ⟨rfl, rfl⟩
    exact ⟨rfl, Fr.refl _ _⟩
  · refine (Any.slices_BinarySearch_int Tryz.layD25 b off r.length cap r x w (Nat.le_refl _) hl (fun j hj => ?_) ?_).mono ?_
    · rw [hb.cell, hc4 j (by simpa using hj)]
      simp [IV, hj, List.getD_eq_getElem?_getD]
    · rw [List.take_length]
      exact hr.imp (fun h => by omega)
    · rintro e w' ⟨rfl, q, rfl⟩
      rw [List.take_length]
      exact ⟨rfl, (Fr.refl _ _).drewN q⟩
end Go.Proofs.YtdfkoehcmgcoiaaGreatDoor

/- Insert and Delete of a row of ints, as they are wanted here. -/
namespace Go.Proofs.YtdfkoehcmgcoiaaGreatDoor
open Go.Shelf Go.RowKit Go.Lib

theorem IV_one' (r : List Int) : ∀ u ∈ r.map IV, u.oneCell' = true := IV_one r
theorem Bk.shape {w : World} {g : Nat} {t : TypeId} {cs : Array Value} (h : Bk w g t cs) : w.shape? g = some (t, cs.size) := by
  unfold Bk at h; simp [World.shape?, h]
theorem zero_size (n : Nat) : (Builtin.zeroCells (Value.int .i64 0).cells n).size = n := by simp [Builtin.zeroCells, Value.cells]
/-- What a row is told by. -/
theorem RI.mk {w : World} {r : List Int} {b off cap n : Nat} {cur : Array Value} (hb : Bk w b 3 cur) (hn : n = r.length) (hc1 : r.length ≤ cap) (hc2 : cap ≤ maxLen) (hc3 : off + cap ≤ cur.size) (hc4 : ∀ j (h : j < r.length), cur[off + j]? = some (IV r[j])) :
    RI w (.slice (some ⟨b, off, none⟩) n cap) r := by
  subst hn
  refine ⟨by simp, .inr ⟨b, off, cap, cur, rfl, hb, hc1, hc2, by omega, fun j hj => ?_⟩⟩
  have hj' : j < r.length := by simpa using hj
  rw [hc4 j hj']; simp [hj']
theorem RI.cases {w : World} {v : Value} {r : List Int} (h : RI w v r) : (v = .slice none 0 0 ∧ r = []) ∨ ∃ b off cap cur, v = .slice (some ⟨b, off, none⟩) r.length cap ∧ Bk w b 3 cur ∧ r.length ≤ cap ∧ cap ≤ 9223372036854775807 ∧ off + cap ≤ cur.size ∧ ∀ j (h : j < r.length), cur[off + j]? = some (IV r[j]) := by
  rcases h.2 with ⟨rfl, h0⟩ | ⟨b, off, cap, cur, rfl, hb, hc1, hc2, hc3, hc4⟩
  · exact .inl ⟨rfl, List.eq_nil_of_length_eq_zero h0⟩
  · refine .inr ⟨b, off, cap, cur, rfl, hb, hc1, by unfold maxLen at hc2; omega, by omega, fun j hj => ?_⟩
    rw [hc4 j (by simpa using hj)]; simp [hj]
theorem ins_at (r : List Int) (s : Int) (j : Nat) : (insS r s)[j]? = if j < posR r s then r[j]? else if j = posR r s then some s else r[j - 1]? := by
  have hp := posR_le r s
  unfold insS
  by_cases h1 : j < posR r s
  · rw [if_pos h1, List.getElem?_append_left (by simp; omega), List.getElem?_take, if_pos h1]
  · rw [if_neg h1, List.getElem?_append_right (by simp; omega)]
    have e : (r.take (posR r s)).length = posR r s := by simp; omega
    rw [e]
    by_cases h2 : j = posR r s
    · subst h2; simp
    · rw [if_neg h2]
      obtain ⟨k, rfl⟩ : ∃ k, j = posR r s + 1 + k := ⟨j - posR r s - 1, by omega⟩
      rw [show posR r s + 1 + k - posR r s = k + 1 by omega, List.getElem?_cons_succ, List.getElem?_drop]
      congr 1; omega
theorem ins_end (r : List Int) (s : Int) (h : posR r s = r.length) : insS r s = r ++ [s] := by
  unfold insS; rw [h]; simp

/-- Insert of one number, that lies in a block of its own. -/
theorem insert_any {w : World} {v : Value} {r : List Int} {vb : Nat} {s : Int} (h : RI w v r) (hvb : Bk w vb 3 #[.int .i64 s]) (hne : v.ownBlock ≠ some vb) (hl : r.length ≤ 1048576) :
    Calls Tryz.prog 49 #[v, .int .i64 (posR r s : Nat), .slice (some ⟨vb, 0, none⟩) 1 1] w fun e w' => ∃ v', e = .returned v' ∧ RI w' v' (insS r s) ∧ Fr (fun k => v.ownBlock = some k) w w' ∧ Moved w v v' := by
  have hp := posR_le r s
  have hvs : ∀ (j : Nat) (u : Value), [IV s][j]? = some u → w.cell? ⟨vb, 0 + j, none⟩ = some u := fun j u hu => by
    match j with
    | 0 => rw [hvb.cell]; simpa [IV] using hu
    | j + 1 => simp at hu
  have h1v : ∀ u ∈ [IV s], u.oneCell' = true := IV_one [s]
  rcases h.cases with ⟨rfl, rfl⟩ | ⟨b, off, cap, cur, rfl, hb, hc1, hc2, hc3, hc4⟩
  · refine (Any2.slices_Insert_int_end_grow Tryz.layD21 none 0 0 vb 0 1 1 [] [IV s] w (by omega) (by omega) (by omega) (by omega) rfl rfl (fun _ => rfl) (fun _ h => by cases h) hvs h1v).mono ?_
    rintro e w' ⟨rfl, rfl⟩
    have hg := grownCap_ge w (0 + 1) 0 3
    have hm := grownCap_le_maxLen w (0 + 1) 0 3 (by unfold maxLen; omega)
    refine ⟨_, rfl, RI.mk (Bk.new w.drew 3 _) rfl (by rw [ins_len]; exact hg) hm (by simp [zero_size]; omega) (fun j hj => ?_), ((Fr.refl _ _).drew).alloc _, .inr ⟨_, rfl, Nat.le_refl _⟩⟩
    have : j = 0 := by rw [ins_len] at hj; simp at hj; omega
    subst this
    simp only [insS, posR, List.countP_nil, List.take_nil, List.drop_nil, List.nil_append, List.getElem_cons_zero, Nat.zero_add]
    rw [Array.getElem?_append_left (by simp)]
    rfl
  · have hcs : ∀ (j : Nat) (u : Value), (r.map IV)[j]? = some u → w.cell? ⟨b, off + j, none⟩ = some u := fun j u hu => by
      have hj : j < r.length := by have := (List.getElem?_eq_some_iff.1 hu).1; simpa using this
      rw [hb.cell, hc4 j hj]
      simp [hj] at hu
      rw [← hu]
    have hbv : vb ≠ b := fun e => hne (by rw [e]; rfl)
    by_cases hend : posR r s = r.length
    · by_cases hroom : r.length + 1 ≤ cap
      · rw [hend]
        refine (Any2.slices_Insert_int_end_room Tryz.layD21 b off r.length cap vb 0 1 1 [IV s] w (by omega) hroom hc2 rfl (fun j hj => hb.there (by omega)) (fun j hj => hb.frozen _) hvs h1v).mono ?_
        rintro e w' ⟨rfl, rfl⟩
        refine ⟨_, rfl, RI.mk (cur := lay cur (off + r.length) [IV s]) (Bk.setCells _ _ hb) (ins_len _ _).symm (by rw [ins_len]; exact hroom) (by unfold maxLen; omega) (by rw [lay_size]; omega) (fun j hj => ?_), Fr.setCells _ _ (Fr.refl _ _) (fun _ => rfl), .inl rfl⟩
        rw [ins_len] at hj
        have hq := ins_end r s hend
        by_cases hjr : j < r.length
        · rw [lay_out _ _ _ _ (.inl (by omega)), hc4 j hjr]
          simp only [hq, List.getElem_append_left hjr]
        · have : j = r.length := by omega
          subst this
          rw [show off + r.length = off + r.length + 0 by omega, lay_in _ _ _ 0 (by simp) (by simp; omega)]
          simp [hq]
      · rw [hend]
        refine (Any2.slices_Insert_int_end_grow Tryz.layD21 (some ⟨b, off, none⟩) r.length cap vb 0 1 1 (r.map IV) [IV s] w (by omega) hc1 (by omega) (by omega) (by simp) rfl (fun h => by cases h) (fun a ha j u hu => ?_) hvs h1v).mono ?_
        · cases ha; rw [add_at]; exact hcs j u hu
        · rintro e w' ⟨rfl, rfl⟩
          have hg := grownCap_ge w (r.length + 1) cap 3
          have hm := grownCap_le_maxLen w (r.length + 1) cap 3 (by unfold maxLen; omega)
          refine ⟨_, rfl, RI.mk (Bk.new w.drew 3 _) (ins_len _ _).symm (by rw [ins_len]; exact hg) hm (by simp [zero_size]; omega) (fun j hj => ?_), ((Fr.refl _ _).drew).alloc _, .inr ⟨_, rfl, Nat.le_refl _⟩⟩
          rw [ins_len] at hj
          have hq := ins_end r s hend
          rw [Nat.zero_add, Array.getElem?_append_left (by simp; omega)]
          have : (r.map IV ++ [IV s]) = (insS r s).map IV := by rw [hq]; simp
          simp only [this, List.getElem?_toArray, List.getElem?_map]
          rw [List.getElem?_eq_getElem (by rw [ins_len]; omega)]
          rfl
    · by_cases hroom : r.length + 1 ≤ cap
      · refine (Any2.slices_Insert_int_shift Tryz.layD21 b off r.length cap (posR r s) vb 0 1 1 (r.map IV) [IV s] w (by omega) (by omega) hroom hc2 hbv (by simp) rfl hcs (fun j hj => hb.there (by omega)) (fun j hj => hb.frozen _) hvs (IV_one r) h1v _ _ _ _ hvb.shape hb.shape (by omega) (hvb.frozen _) (hvb.frozen _)).mono ?_
        rintro e w' ⟨rfl, rfl⟩
        refine ⟨_, rfl, RI.mk (cur := lay (lay cur (off + (posR r s + 1)) ((r.map IV).drop (posR r s))) (off + posR r s) [IV s]) (Bk.setCells _ _ (Bk.setCells _ _ hb.drew)) (ins_len _ _).symm (by rw [ins_len]; exact hroom) (by unfold maxLen; omega) (by rw [lay_size, lay_size]; omega) (fun j hj => ?_),
          Fr.setCells _ _ (Fr.setCells _ _ (Fr.refl _ _).drew (fun _ => rfl)) (fun _ => rfl), .inl rfl⟩
        have hat := ins_at r s j
        rw [List.getElem?_eq_getElem hj] at hat
        rw [ins_len] at hj
        by_cases h1 : j < posR r s
        · rw [lay_out _ _ _ _ (.inl (by omega)), lay_out _ _ _ _ (.inl (by omega)), hc4 j (by omega)]
          rw [if_pos h1, List.getElem?_eq_getElem (by omega)] at hat
          injection hat with hat
          rw [hat]
        · rw [if_neg h1] at hat
          by_cases h2 : j = posR r s
          · subst h2
            rw [if_pos rfl] at hat
            injection hat with hat
            rw [show off + posR r s = off + posR r s + 0 by omega, lay_in _ _ _ 0 (by simp) (by rw [lay_size]; simp; omega), hat]
            rfl
          · rw [if_neg h2, List.getElem?_eq_getElem (by omega)] at hat
            injection hat with hat
            rw [lay_out _ _ _ _ (.inr (by simp; omega)), hat]
            obtain ⟨k, rfl⟩ : ∃ k, j = posR r s + 1 + k := ⟨j - posR r s - 1, by omega⟩
            rw [show off + (posR r s + 1 + k) = off + (posR r s + 1) + k by omega, lay_in _ _ _ k (by simp; omega) (by simp; omega)]
            simp only [List.getElem?_drop, List.getElem?_map]
            rw [List.getElem?_eq_getElem (by omega)]
            simp only [Option.map_some]
            congr 2
            have : posR r s + k = posR r s + 1 + k - 1 := by omega
            simp only [this]
      · refine (Any2.slices_Insert_int_grow Tryz.layD21 b off r.length cap (posR r s) vb 0 1 1 (r.map IV) [IV s] w (by omega) (by omega) hc1 (by omega) (by omega) (by simp) rfl hcs hvs (IV_one r) h1v).mono ?_
        rintro e w' ⟨rfl, rfl⟩
        have hg := grownCap_ge w (r.length + 1) cap 3
        have hm := grownCap_le_maxLen w (r.length + 1) cap 3 (by unfold maxLen; omega)
        have hg' : r.length + 1 ≤ grownCap w (r.length + 1) cap (Tryz.layD21r.t 3) := hg
        generalize hG : grownCap w (r.length + 1) cap (Tryz.layD21r.t 3) = G at *
        have hG' : grownCap w (r.length + 1) cap 3 = G := hG
        rw [hG'] at hm
        generalize hR : (((r.map IV).take (posR r s)).toArray ++ Builtin.zeroCells (Value.int .i64 0).cells (r.length + 1 - posR r s) ++ Builtin.zeroCells (Value.int .i64 0).cells (G - (r.length + 1))) = R
        have hRs : R.size = G := by rw [← hR]; simp [zero_size]; omega
        have hRo : ∀ j, j < posR r s → R[j]? = (r.map IV)[j]? := fun j hj => by
          rw [← hR, Array.getElem?_append_left (by simp [zero_size]; omega), Array.getElem?_append_left (by simp; omega)]
          simp [List.getElem?_take, hj]
        have hbn := Bk.new w 3 R
        refine ⟨_, rfl, RI.mk (cur := lay (lay R (posR r s) [IV s]) (posR r s + 1) ((r.map IV).drop (posR r s))) (Bk.setCells _ _ (Bk.setCells _ _ hbn.drew).drew) (ins_len _ _).symm (by rw [ins_len]; exact hg') hm (by rw [lay_size, lay_size]; omega) (fun j hj => ?_),
          Fr.setCells _ _ (Fr.drew (Fr.setCells _ _ (Fr.drew ((Fr.refl _ _).alloc _)) (fun h => absurd h (by omega)))) (fun h => absurd h (by omega)), .inr ⟨_, rfl, Nat.le_refl _⟩⟩
        have hat := ins_at r s j
        rw [List.getElem?_eq_getElem hj] at hat
        rw [ins_len] at hj
        rw [Nat.zero_add]
        by_cases h1 : j < posR r s
        · rw [lay_out _ _ _ _ (.inl (by omega)), lay_out _ _ _ _ (.inl (by omega)), hRo j h1]
          rw [if_pos h1, List.getElem?_eq_getElem (by omega)] at hat
          injection hat with hat
          rw [hat]; simp [show j < r.length by omega]
        · rw [if_neg h1] at hat
          by_cases h2 : j = posR r s
          · rw [if_pos h2] at hat
            injection hat with hat
            rw [lay_out _ _ _ _ (.inl (by omega)), hat]
            have := lay_in [IV s] R (posR r s) 0 (by simp) (by simp; omega)
            simpa [h2] using this
          · rw [if_neg h2, List.getElem?_eq_getElem (by omega)] at hat
            injection hat with hat
            rw [hat]
            obtain ⟨k, rfl⟩ : ∃ k, j = posR r s + 1 + k := ⟨j - posR r s - 1, by omega⟩
            rw [lay_in _ _ _ k (by simp; omega) (by rw [lay_size]; simp; omega)]
            simp only [List.getElem?_drop, List.getElem?_map]
            rw [List.getElem?_eq_getElem (by omega)]
            simp only [Option.map_some]
            congr 2
            have : posR r s + k = posR r s + 1 + k - 1 := by omega
            simp only [this]

theorem Bk.mapBlock {w : World} {g : Nat} {t : TypeId} {cs : Array Value} (h : Bk w g t cs) (f : Array Value → Array Value) : Bk (Go.Sort.mapBlock w g f) g t (f cs) := by
  unfold Bk at *
  simp [Go.Sort.mapBlock, Array.getElem?_modify, h, Go.Sort.onCells]
theorem Fr.mapBlock {S : Nat → Prop} {a w : World} {g : Nat} (h : Fr S a w) (hg : g < a.heap.size → S g) (f : Array Value → Array Value) : Fr S a (Go.Sort.mapBlock w g f) :=
  h.trans (T := fun k => k = g) ⟨rfl, rfl, rfl, by simp [Go.Sort.mapBlock], fun k _ hk => by
    show (w.heap.modify g _)[k]? = _
    rw [Array.getElem?_modify, if_neg (fun e => hk e.symm)]⟩ (fun x hx e => by subst e; exact hg hx)
theorem Fr.ahead {S : Nat → Prop} {a w : World} (h : Fr S a w) (n : Nat) : Fr S a (Go.Sort.ahead w n) := ⟨h.os, h.tape, h.output, h.size, h.block⟩
/-- Delete of the first ones of a row. -/
theorem delete_any {w : World} {v : Value} {r : List Int} {k : Nat} (h : RI w v r) (hk : k ≤ r.length) (h0 : r ≠ []) :
    Calls Tryz.prog 50 #[v, .int .i64 0, .int .i64 k] w fun e w' => ∃ v', e = .returned v' ∧ RI w' v' (r.drop k) ∧ Fr (fun k => v.ownBlock = some k) w w' ∧ v'.ownBlock = v.ownBlock := by
  rcases h.cases with ⟨rfl, rfl⟩ | ⟨b, off, cap, cur, rfl, hb, hc1, hc2, hc3, hc4⟩
  · exact absurd rfl h0
  · have hH : Go.Sort.Holds encI w b off r.toArray := fun j hj => by
      have hj' : j < r.length := by simpa using hj
      refine ⟨?_, hb.frozen _⟩
      rw [hb.cell, hc4 j hj']
      simp [IV, hj', getElem!_pos]
    have hd := Any.slices_Delete_int_arr Tryz.layD23 b off cap 0 k r.toArray w hH (by simpa using hc1) hc2 (Nat.zero_le _) (by simpa using hk)
    simp only [List.size_toArray, List.take_zero, List.nil_append, Nat.sub_zero] at hd
    refine hd.mono ?_
    rintro e w' ⟨rfl, q, rfl⟩
    refine ⟨_, rfl, RI.mk (Bk.mapBlock (w := Go.Sort.ahead w q) (cs := cur) hb _) (by simp) (by simp; omega) (by unfold maxLen; omega) (by simp [Go.Sort.putCells]; omega) (fun j hj => ?_), Fr.mapBlock (S := fun k => (Value.slice (some ⟨b, off, none⟩) r.length cap).ownBlock = some k) ((Fr.refl _ _).ahead q) (fun _ => rfl) _, rfl⟩
    have hj' : j < r.length - k := by simpa using hj
    simp only [Go.Sort.putCells, Array.getElem?_mapIdx]
    rw [Array.getElem?_eq_getElem (by omega)]
    simp only [Option.map_some, List.size_toArray, List.length_append, List.length_replicate, List.length_drop]
    rw [if_pos (by omega)]
    rw [show off + j - off = j by omega, getElem!_pos _ j (by simp; omega)]
    simp only [List.getElem_toArray]
    rw [List.getElem_append_left (by simpa using hj')]
    rfl
end Go.Proofs.YtdfkoehcmgcoiaaGreatDoor

/- The codec's writer: fold, NewWriter, Int. -/
namespace Go.Proofs.YtdfkoehcmgcoiaaGreatDoor
open Go.RowKit

/-- P101's number of an integer. -/
def foldN (a : Int) : Nat := if 0 ≤ a then (2 * a).toNat else (-2 * a - 1).toNat

theorem foldN_lt (a : Int) (h0 : -9223372036854775808 ≤ a) (h1 : a ≤ 9223372036854775807) : foldN a < 18446744073709551616 := by
  unfold foldN; split <;> omega

theorem fold_bits (a : Int) (h0 : -9223372036854775808 ≤ a) (h1 : a ≤ 9223372036854775807) :
    bits BinOp.xor IntKind.u64 (IntKind.u64.wrap (IntKind.u64.wrap a * 2)) (IntKind.u64.wrap (a / 9223372036854775808)) = (foldN a : Int) := by
  simp only [IntKind.wrap_u64]
  unfold foldN
  by_cases h : 0 ≤ a
  · rw [if_pos h, show a / 9223372036854775808 = 0 by omega, show (0 : Int) % 18446744073709551616 = ((0 : Nat) : Int) by omega,
      show a % 18446744073709551616 * 2 % 18446744073709551616 = (((2 * a).toNat : Nat) : Int) by omega, u64_xor_nat _ _ (by omega) (by omega), Nat.xor_zero]
  · rw [if_neg h, show a / 9223372036854775808 = -1 by omega, show (-1 : Int) % 18446744073709551616 = ((18446744073709551615 : Nat) : Int) by omega,
      show a % 18446744073709551616 * 2 % 18446744073709551616 = (((18446744073709551616 + 2 * a).toNat : Nat) : Int) by omega, u64_xor_nat _ _ (by omega) (by omega)]
    have hx : ∀ x : BitVec 64, x ^^^ 18446744073709551615#64 = ~~~x := fun x => by
      rw [show (18446744073709551615#64 : BitVec 64) = BitVec.allOnes 64 from rfl, BitVec.xor_allOnes]
    have := congrArg BitVec.toNat (hx (BitVec.ofNat 64 (18446744073709551616 + 2 * a).toNat))
    rw [BitVec.toNat_xor, BitVec.toNat_not] at this
    simp only [BitVec.toNat_ofNat] at this
    rw [Nat.mod_eq_of_lt (by omega), show 18446744073709551615 % 2 ^ 64 = 18446744073709551615 from rfl] at this
    omega

/-- P101's bytes of a number: seven bits a byte. -/
def enc (u : Nat) : List UInt8 := if u < 128 then [UInt8.ofNat u] else UInt8.ofNat (u % 128 + 128) :: enc (u / 128)
  termination_by u
  decreasing_by omega

theorem enc_lt (u : Nat) (h : u < 128) : enc u = [UInt8.ofNat u] := by rw [enc, if_pos h]
theorem enc_ge (u : Nat) (h : 128 ≤ u) : enc u = UInt8.ofNat (u % 128 + 128) :: enc (u / 128) := by rw [enc, if_neg (by omega)]

theorem enc_length : ∀ (n u : Nat), u < 128 ^ n → (enc u).length ≤ max n 1
  | 0, u, h => by rw [enc_lt u (by simp at h; omega)]; simp
  | n + 1, u, h => by
    by_cases hu : u < 128
    · rw [enc_lt u hu]; simp
    · rw [enc_ge u (by omega), List.length_cons]
      have := enc_length n (u / 128) (by rw [Nat.pow_succ] at h; omega)
      by_cases hn : n = 0
      · subst hn; simp at h; omega
      · omega
theorem enc_length10 (u : Nat) (h : u < 18446744073709551616) : (enc u).length ≤ 10 := by
  have := enc_length 10 u (by omega); omega
theorem enc_pos (u : Nat) : 1 ≤ (enc u).length := by
  by_cases hu : u < 128
  · rw [enc_lt u hu]; simp
  · rw [enc_ge u (by omega)]; simp

theorem B8_ofNat (n : Nat) (h : n < 256) : B8 (UInt8.ofNat n) = .int .u8 (n : Int) := by
  simp [B8, Nat.mod_eq_of_lt h]

/-- A writer at block g, its bytes in v. -/
def Wr (w : World) (g : Nat) (v : Value) (bs : List UInt8) : Prop := Bk w g 113 #[v] ∧ Own8 w 5 v bs
/-- From a writer (v) to that writer later. -/
def WrTo (w : World) (g : Nat) (v : Value) (w' : World) (v' : Value) (bs : List UInt8) : Prop :=
  Wr w' g v' bs ∧ Fr (fun k => k = g ∨ v.ownBlock = some k) w w' ∧ Moved w v v'

theorem WrTo.refl {w : World} {g : Nat} {v : Value} {bs : List UInt8} (h : Wr w g v bs) : WrTo w g v w v bs := ⟨h, Fr.refl _ _, Moved.refl _ _⟩
theorem WrTo.trans {w w1 w2 : World} {g : Nat} {v v1 v2 : Value} {b1 b2 : List UInt8} (h : WrTo w g v w1 v1 b1) (k : WrTo w1 g v1 w2 v2 b2) : WrTo w g v w2 v2 b2 :=
  ⟨k.1, h.2.1.trans k.2.1 (fun x hx e => e.imp id (fun e => h.2.2.old hx e)), h.2.2.trans k.2.2 h.2.1.size⟩

theorem or_val (n : Nat) : bits BinOp.or IntKind.u8 ((n : Int) % 256) 128 = ((UInt8.ofNat (n % 128 + 128)).toNat : Int) := by
  rw [show (n : Int) % 256 = ((n % 256 : Nat) : Int) by omega, show (128 : Int) = ((128 : Nat) : Int) from rfl, u8_or_nat _ _ (by omega) (by omega)]
  have : ∀ x : Fin 256, x.val ||| 128 = x.val % 128 + 128 := by decide +kernel
  have := this ⟨n % 256, by omega⟩
  simp only at this
  rw [this, UInt8.toNat_ofNat_of_lt' (by show _ < 256; omega)]; omega
theorem small_val (n : Nat) (h : n < 256) : (n : Int) = ((UInt8.ofNat n).toNat : Int) := by
  rw [UInt8.toNat_ofNat_of_lt' h]

theorem Tryz.info5 : (Tryz.prog.info? 5).map (fun i => (i.zero, i.size, i.bytes)) = some (some (.int .u8 0), 1, 1) := by kernel_rfl

set_option maxHeartbeats 400000 in
theorem fold_any (a : Int) (h0 : -9223372036854775808 ≤ a) (h1 : a ≤ 9223372036854775807) (w : World) :
    Calls Tryz.prog 56 #[.int .i64 a] w fun e w' => e = .returned (.int .u64 (foldN a)) ∧ w = w' := by
  have hb := fold_bits a h0 h1
  go_enter Tryz.func56, Tryz.ntmps56
  go_wp2
  go_ret
  exact ⟨rfl, rfl⟩

set_option maxHeartbeats 400000 in
theorem newWriter_any (w : World) :
    Calls Tryz.prog 28 #[] w fun e w' => e = .returned (.pointer (some ⟨w.heap.size, 0, none⟩)) ∧ w' = w.alloc (.cells #[.slice none 0 0] 113) := by
  go_enter Tryz.func28, Tryz.ntmps28
  go_wp2
  go_ret
  exact ⟨rfl, rfl⟩

theorem Tryz.t8 : T8 Tryz.prog 32 5 := by
  obtain ⟨i0, hi, hz0, hz1, hz2⟩ := info_parts Tryz.info5
  exact ⟨Tryz.underlying32, i0, hi, hz0, hz1, hz2⟩

/-- The store of the grown row into the writer's field. -/
theorem wr_step {w w1 : World} {g : Nat} {v v1 : Value} {bs bs1 : List UInt8} (hw : Wr w g v bs) (ho : Own8 w1 5 v1 bs1) (hf : Fr (fun k => v.ownBlock = some k) w w1) (hat : Moved w v v1) :
    WrTo w g v (w1.setCell ⟨g, 0, none⟩ v1) v1 bs1 := by
  have hne := hw.2.ne hw.1 (by decide)
  have hbk : Bk w1 g 113 #[v] := hw.1.fr hf hne
  have hne1 : v1.ownBlock ≠ some g := ho.ne hbk (by decide)
  refine ⟨⟨by simpa using hbk.set 0 v1, ?_⟩, ?_, hat⟩
  · exact ho.fr (S := fun k => k = g) (Fr.setCell (S := fun k => k = g) (p := ⟨g, 0, none⟩) (Fr.refl _ _) (fun _ => rfl) _) (fun k hk e => hne1 (by rw [hk, e]))
  · exact (hf.mono (fun _ _ h => .inr h)).setCell (fun _ => .inl rfl) _
/-- The writer's own cell behind the append. -/
theorem wr_cell {w w1 : World} {g : Nat} {v : Value} {bs : List UInt8} (hw : Wr w g v bs) (hf : Fr (fun k => v.ownBlock = some k) w w1) :
    w1.cell? ⟨g, 0, none⟩ = some v ∧ w1.frozen? ⟨g, 0, none⟩ = false :=
  have hb : Bk w1 g 113 #[v] := hw.1.fr hf (hw.2.ne hw.1 (by decide))
  ⟨hb.cell 0, hb.frozen 0⟩

set_option maxRecDepth 100000 in
set_option maxHeartbeats 1000000 in
theorem wInt_any (g : Nat) (v : Value) (a : Int) (bs : List UInt8) (w : World) (h0 : -9223372036854775808 ≤ a) (h1 : a ≤ 9223372036854775807) (hw : Wr w g v bs) (hb : bs.length ≤ 70368744177664) :
    Calls Tryz.prog 30 #[.pointer (some ⟨g, 0, none⟩), .int .i64 a] w fun e w' => e = .returned (.pointer (some ⟨g, 0, none⟩)) ∧ ∃ v', WrTo w g v w' v' (bs ++ enc (foldN a)) := by
  go_enter Tryz.func30, Tryz.ntmps30
  go_wp2_with (go_at_call 56; refine (fold_any _ h0 h1 _).mono ?_; rintro e w' ⟨rfl, rfl⟩)
  have hlt := foldN_lt a h0 h1
  have he10 := enc_length10 _ hlt
  go_loopw [5] (fun u wr => ∃ (n : Nat) (v' : Value) (done : List UInt8), (n : Int) ≤ 18446744073709551615 ∧ u = .int .u64 n ∧ WrTo w g v wr v' (bs ++ done) ∧ done ++ enc n = enc (foldN a)) (fun u _ => (intOf u).toNat)
  case atStart => exact ⟨foldN a, v, [], by omega, rfl, by simpa using WrTo.refl hw, rfl⟩
  case round =>
    obtain ⟨n, v', done, hn, rfl, hto, hdone⟩ := hrel
    clear hlt
    have hlen : (bs ++ done).length ≤ 70368744177680 := by
      have := congrArg List.length hdone
      simp at this ⊢; omega
    have HD := Lib.hid hdone
    clear hdone he10
    have hcell : wr.cell? ⟨g, 0, none⟩ = some v' := hto.1.1.cell 0
    have hfro : wr.frozen? ⟨g, 0, none⟩ = false := hto.1.1.frozen 0
    have hw' := hto.1
    by_cases hlt : n < 128
    · go_wp2_with (at_builtin; (refine wpList_append8 _ rfl (.tmp 28) (.tmp 31) Tryz.t8 rfl v' _ rfl _ (UInt8.ofNat n) (small_val n (by omega)) hw'.2 rfl (by omega) ?_; clear hcell hfro; intro g1 c1 w1 ho1 hf1 hm1; obtain ⟨hcell, hfro⟩ := wr_cell hw' hf1))
      go_ret
      have h2 := wr_step hw' ho1 hf1 hm1
      rw [List.append_assoc, List.length_append] at h2
      refine ⟨rfl, _, hto.trans (by rw [← HD.out, enc_lt n hlt]; exact h2)⟩
    · go_wp2_with (at_builtin; (refine wpList_append8 _ rfl (.tmp 14) (.tmp 18) Tryz.t8 rfl v' _ rfl _ (UInt8.ofNat (n % 128 + 128)) (or_val n) hw'.2 rfl (by omega) ?_; clear hcell hfro; intro g1 c1 w1 ho1 hf1 hm1; obtain ⟨hcell, hfro⟩ := wr_cell hw' hf1))
      go_roundw
      case rel =>
        have h2 := wr_step hw' ho1 hf1 hm1
        rw [List.append_assoc, List.length_append] at h2
        refine ⟨n / 128, _, _, by omega, ?_, hto.trans h2, ?_⟩
        · simp
        · rw [← HD.out, enc_ge n (by omega)]; simp
      case measure => simp [intOf]; omega
end Go.Proofs.YtdfkoehcmgcoiaaGreatDoor

/- The codec's writer, on: bytes.Clone, Bytes, Done. -/
namespace Go.Proofs.YtdfkoehcmgcoiaaGreatDoor
open Go.RowKit

theorem foldN_nat (n : Nat) : foldN (n : Int) = 2 * n := by unfold foldN; rw [if_pos (by omega)]; omega

/-- A slice value that reads as xs, and lies apart from what S holds. -/
def Apart (S : Nat → Prop) (A : Option Addr) (n : Nat) : Prop := ∀ ad, A = some ad → 0 < n → ¬ S ad.block

set_option maxRecDepth 100000 in
set_option maxHeartbeats 1000000 in
theorem clone_any (A : Option Addr) (n c : Nat) (xs : List UInt8) (w : World) (hr : Rd8 w A xs) (hn : xs.length = n) (hb : n ≤ 140737488355328) :
    Calls Tryz.prog 20 #[.slice A n c] w fun e w' => ∃ A' c', e = .returned (.slice A' n c') ∧ Own8 w' 5 (.slice A' n c') xs ∧ Fresh w w' (.slice A' n c') := by
  rcases A with _ | ad
  · have h0 : xs = [] := by
      rcases Nat.eq_zero_or_pos xs.length with h0 | h0
      · exact List.eq_nil_of_length_eq_zero h0
      · obtain ⟨ad, h, _⟩ := hr h0; cases h
    subst h0
    simp at hn
    subst hn
    have hq := fun W => Lib.run_eql_slice_nil (P := Tryz.prog) W 32 5 none 0 c 0 0 Tryz.underlying32
    go_enter Tryz.func20, Tryz.ntmps20
    go_wp2
    go_ret
    exact ⟨none, 0, rfl, Own8.nil _ _, Fresh.nil _ _ (Fr.refl _ _)⟩
  · have hq := fun W => Lib.run_eql_slice_nil (P := Tryz.prog) W 32 5 (some ad) n c 0 0 Tryz.underlying32
    go_enter Tryz.func20, Tryz.ntmps20
    have hf0 : Fr (fun _ => False) w (w.alloc (.cells #[] 5)) := (Fr.refl _ _).alloc _
    go_wp2_with (at_builtin; (refine wpList_append8s _ rfl (.tmp 5) (.tmp 6) Tryz.t8 rfl _ [] rfl (Own8.fresh w _ #[] 0 rfl (by decide)) (some ad) n c xs rfl hn (hr.fr hf0 (fun _ _ _ h => h)) (by simp; omega) ?_; intro A1 c1 w1 ho1 hf1 hm1))
    go_ret
    simp only [List.length_nil, Nat.zero_add, List.nil_append, hn] at ho1 hm1 ⊢
    exact ⟨A1, c1, rfl, ho1, (Fresh.new w _ 0 0).step hf1 hm1⟩

set_option maxRecDepth 100000 in
set_option maxHeartbeats 1000000 in
theorem wDone_any (g : Nat) (v : Value) (bs : List UInt8) (w : World) (hw : Wr w g v bs) (hb : bs.length ≤ 140737488355328) :
    Calls Tryz.prog 35 #[.pointer (some ⟨g, 0, none⟩)] w fun e w' => ∃ A' c', e = .returned (.slice A' bs.length c') ∧ Own8 w' 5 (.slice A' bs.length c') bs ∧ Fresh w w' (.slice A' bs.length c') := by
  obtain ⟨A, c, rfl⟩ : ∃ A c, v = .slice A bs.length c := by
    rcases hw.2.form with ⟨rfl, rfl⟩ | ⟨g1, cap, rfl, _, _⟩
    · exact ⟨none, 0, rfl⟩
    · exact ⟨_, _, rfl⟩
  have hcell : w.cell? ⟨g, 0, none⟩ = some (.slice A bs.length c) := hw.1.cell 0
  have hfro : w.frozen? ⟨g, 0, none⟩ = false := hw.1.frozen 0
  go_enter Tryz.func35, Tryz.ntmps35
  go_wp2_with (go_at_call 20; refine (clone_any A _ c bs w hw.2.rd rfl hb).mono ?_; rintro e w' ⟨A', c', rfl, h1, h2⟩)
  go_ret
  exact ⟨A', c', rfl, h1, h2⟩

set_option maxRecDepth 100000 in
set_option maxHeartbeats 1000000 in
theorem wBytes_any (g : Nat) (v : Value) (bs : List UInt8) (A : Option Addr) (n c : Nat) (xs : List UInt8) (w : World) (hw : Wr w g v bs) (hb : bs.length ≤ 17592186044416) (hr : Rd8 w A xs) (hn : xs.length = n) (hnb : n ≤ 17592186044416)
    (hap : Apart (fun k => k = g ∨ v.ownBlock = some k) A n) :
    Calls Tryz.prog 34 #[.pointer (some ⟨g, 0, none⟩), .slice A n c] w fun e w' => e = .returned (.pointer (some ⟨g, 0, none⟩)) ∧ ∃ v', WrTo w g v w' v' (bs ++ (enc (2 * n) ++ xs)) := by
  have hcell : w.cell? ⟨g, 0, none⟩ = some v := hw.1.cell 0
  have hfro : w.frozen? ⟨g, 0, none⟩ = false := hw.1.frozen 0
  go_enter Tryz.func34, Tryz.ntmps34
  go_wp2_with (first
    | (go_at_call 30; refine (wInt_any g v n bs w (by omega) (by omega) hw (by omega)).mono ?_; rintro e w1 ⟨rfl, v1, h1⟩; rw [foldN_nat] at h1; clear hcell hfro; have hcell := h1.1.1.cell 0; have hfro := h1.1.1.frozen 0; simp at hcell)
    | (at_builtin; (refine wpList_append8s _ rfl (.tmp 13) (.tmp 14) Tryz.t8 rfl v1 _ rfl h1.1.2 A n c xs rfl hn (hr.fr h1.2.1 (by rw [hn]; exact hap)) (by have := enc_length10 (2 * n) (by omega); simp; omega) ?_; intro A2 c2 w2 ho2 hf2 hm2; clear hcell hfro; obtain ⟨hcell, hfro⟩ := wr_cell h1.1 hf2)))
  go_ret
  have h2 := h1.trans (wr_step h1.1 ho2 hf2 hm2)
  simp only [hn, List.append_assoc, List.length_append] at h2
  exact ⟨rfl, _, by simpa using h2⟩
end Go.Proofs.YtdfkoehcmgcoiaaGreatDoor

/- dedup: mayHave, Top, least. -/
namespace Go.Proofs.YtdfkoehcmgcoiaaGreatDoor
open Go.RowKit Go.Maps

set_option maxRecDepth 100000 in
set_option maxHeartbeats 4000000 in
theorem mayHave_any {g ba br : Nat} {F : Nat → Prop} {t : DT} {Da Dr : DV} {w : World} (h : TabM w g ba br F t Da Dr) (hw : 1 ≤ t.win) (c s : Int) :
    Calls Tryz.prog 46 #[.pointer (some ⟨g, 0, none⟩), kyV c s] w fun e w' => e = .returned (.bool (mayR c s)) ∧ Fr (fun _ => False) w w' := by
  obtain ⟨win, hwin⟩ : ∃ x, t.win = x := ⟨_, rfl⟩
  have c0 : (w.alloc (.cells #[.int .i64 c, .int .i64 s] 57)).cell? ⟨g, 0, none⟩ = some (.int .i64 win) := by
    have := (h.blk.alloc (.cells #[.int .i64 c, .int .i64 s] 57)).cell 0
    simpa [hwin] using this
  rw [hwin] at hw
  have d0 : decide (0 < win) = true := decide_eq_true (by omega)
  have HM := Lib.hid (DT.mayR_iff (c := c) (s := s))
  have HF : Hid (Fr (fun _ => False) w (w.alloc (.cells #[.int .i64 c, .int .i64 s] 57))) := Lib.hid ((Fr.refl _ _).alloc _)
  unfold kyV
  clear h hw hwin
  by_cases h0 : 0 ≤ c
  · have d1 : decide (0 ≤ c) = true := decide_eq_true h0
    by_cases h1 : c ≤ 1048576
    · have d2 : decide (c ≤ 1048576) = true := decide_eq_true h1
      by_cases h2 : 1 ≤ s
      · have d3 : decide (1 ≤ s) = true := decide_eq_true h2
        by_cases h3 : s ≤ 1099511627776
        · have d4 : decide (s ≤ 1099511627776) = true := decide_eq_true h3
          go_enter Tryz.func46, Tryz.ntmps46
          go_wp2
          go_ret
          refine ⟨?_, HF.out⟩
          rw [HM.out.2 (by omega)]; rfl
        · have d4 : decide (s ≤ 1099511627776) = false := decide_eq_false h3
          go_enter Tryz.func46, Tryz.ntmps46
          go_wp2
          go_ret
          refine ⟨?_, HF.out⟩
          rw [show mayR c s = false from Bool.eq_false_iff.2 (fun e => by have := HM.out.1 e; omega)]; rfl
      · have d3 : decide (1 ≤ s) = false := decide_eq_false h2
        go_enter Tryz.func46, Tryz.ntmps46
        go_wp2
        go_ret
        refine ⟨?_, HF.out⟩
        rw [show mayR c s = false from Bool.eq_false_iff.2 (fun e => by have := HM.out.1 e; omega)]; rfl
    · have d2 : decide (c ≤ 1048576) = false := decide_eq_false h1
      go_enter Tryz.func46, Tryz.ntmps46
      go_wp2
      go_ret
      refine ⟨?_, HF.out⟩
      rw [show mayR c s = false from Bool.eq_false_iff.2 (fun e => by have := HM.out.1 e; omega)]; rfl
  · have d1 : decide (0 ≤ c) = false := decide_eq_false h0
    go_enter Tryz.func46, Tryz.ntmps46
    go_wp2
    go_ret
    refine ⟨?_, HF.out⟩
    rw [show mayR c s = false from Bool.eq_false_iff.2 (fun e => by have := HM.out.1 e; omega)]; rfl

theorem I64.of {x : Int} (h1 : -9223372036854775808 ≤ x) (h2 : x ≤ 9223372036854775807) : I64 x := ⟨h1, h2⟩
theorem TabM.lookR {g ba br : Nat} {F : Nat → Prop} {t : DT} {Da Dr : DV} {w : World} (h : TabM w g ba br F t Da Dr) {c : Int} (hc : I64 c) :
    ∃ v, (∀ w', Fr (fun _ => False) w w' → (Instr.lookup 78 (.map (some br)) (.int .i64 c) false).run Tryz.prog w' = .ok v w' ∧ RI w' v (t.row c)) ∧ (t.row c ≠ [] → At Dr (.int .i64 c) v ∧ ∀ k, v.ownBlock = some k → F k) ∧ (t.row c = [] → v = .slice none 0 0) := by
  by_cases hr : t.row c = []
  · refine ⟨.slice none 0 0, fun w' hf => ⟨((h.mr.fr hf (fun h => h)).at0 kInt tRow (zeroRow w') hc.key (h.noRow c hc hr)).2, ?_⟩, fun h => absurd hr h, fun _ => rfl⟩
    rw [hr]; exact Row.nil _ _ _
  · obtain ⟨v, h1, h2, h3⟩ := h.row c hc hr
    exact ⟨v, fun w' hf => ⟨((h.mr.fr hf (fun h => h)).at1 kInt tRow (zeroRow w') hc.key h1).2, Row.fr0 h2 hf⟩, fun _ => ⟨h1, h3⟩, fun e => absurd e hr⟩

set_option maxRecDepth 100000 in
set_option maxHeartbeats 2000000 in
theorem top_any {g ba br : Nat} {F : Nat → Prop} {t : DT} {Da Dr : DV} {w : World} (h : TabM w g ba br F t Da Dr) {c : Int} (hc : I64 c) (hl : (t.row c).length ≤ 1048576) :
    Calls Tryz.prog 33 #[.pointer (some ⟨g, 0, none⟩), .int .i64 c] w fun e w' => e = .returned (.int .i64 (t.top c)) ∧ w = w' := by
  have c2 : w.cell? ⟨g, 2, none⟩ = some (.map (some br)) := h.blk.cell 2
  obtain ⟨v, h1, _⟩ := h.lookR hc
  obtain ⟨hlk, hri⟩ := h1 w (Fr.refl _ _)
  unfold DT.top
  obtain ⟨r, hr⟩ : ∃ r, t.row c = r := ⟨_, rfl⟩
  rw [hr] at hl hri ⊢
  clear h h1 hr
  rcases hri.cases with ⟨rfl, rfl⟩ | ⟨b, off, cap, cur, rfl, hb, hc1, hc2, hc3, hc4⟩
  · clear hri
    go_enter Tryz.func33, Tryz.ntmps33
    go_wp2
    go_ret
    exact ⟨rfl, rfl⟩
  · clear hri
    by_cases h0 : r.length = 0
    · have hr0 : r = [] := List.eq_nil_of_length_eq_zero h0
      subst hr0
      clear hc4 hb
      go_enter Tryz.func33, Tryz.ntmps33
      go_wp2
      go_ret
      exact ⟨rfl, rfl⟩
    · obtain ⟨n, hn⟩ : ∃ n, r.length = n + 1 := ⟨r.length - 1, by omega⟩
      have hcell : w.cell? ⟨b, off + n, none⟩ = some (.int .i64 (topR r)) := by
        rw [hb.cell, hc4 n (by omega)]
        have := topR_at (r := r) (fun e => h0 (by rw [e]; rfl))
        rw [show r.length - 1 = n by omega, List.getElem?_eq_getElem (by omega)] at this
        injection this with this
        rw [IV, this]
      rw [hn] at hc1 hl hlk
      have w1 : IntKind.i64.wrap (((n + 1 : Nat) : Int) - 1) = (n : Int) := by rw [IntWalk.i64_in _ (by omega)]; omega
      have d1 : (((n + 1 : Nat) : Int) == 0) = false := by simp; omega
      generalize topR r = tp at *
      clear hc4 hb h0 hn
      go_enter Tryz.func33, Tryz.ntmps33
      go_wp2
      go_ret
      exact ⟨rfl, rfl⟩

set_option maxRecDepth 100000 in
set_option maxHeartbeats 2000000 in
theorem least_any {g ba br : Nat} {F : Nat → Prop} {t : DT} {Da Dr : DV} {w : World} (h : TabM w g ba br F t Da Dr) (ok : t.ok0) {c : Int} (hc : I64 c) (hl : (t.row c).length ≤ 1048576) :
    Calls Tryz.prog 47 #[.pointer (some ⟨g, 0, none⟩), .int .i64 c] w fun e w' => e = .returned (.int .i64 (t.least c)) ∧ ∃ m, w' = w.drewN m := by
  have hT : ∀ n, Calls Tryz.prog 33 #[.pointer (some ⟨g, 0, none⟩), .int .i64 c] (w.drewN n) fun e w' => e = .returned (.int .i64 (t.top c)) ∧ w' = w.drewN n := fun n => (top_any (h.fr ((Fr.refl (fun _ => False) _).drewN n) (fun _ _ h => h)) hc hl).mono fun _ _ ⟨h1, h2⟩ => ⟨h1, h2.symm⟩
  have htr := ok.top_rng c
  have hw1 := ok.w1
  have hw2 := ok.w2
  have c0 : w.cell? ⟨g, 0, none⟩ = some (.int .i64 t.win) := h.blk.cell 0
  unfold DT.least
  generalize t.top c = tp at *
  generalize t.win = win at *
  have w1 : IntKind.i64.wrap (tp - win) = tp - win := IntWalk.i64_in _ (by omega)
  have w2 : IntKind.i64.wrap (tp - win + 1) = tp - win + 1 := IntWalk.i64_in _ (by omega)
  have CT := Lib.hid hT
  clear h ok hT htr hw1 hw2
  go_enter Tryz.func47, Tryz.ntmps47
  go_wp2_with fail
  go_quiet (first
    | (go_at_call 33; exact Calls.quiet_of_same (CT.out _)))
  go_wp2
  go_ret
  exact ⟨rfl, _, rfl⟩
end Go.Proofs.YtdfkoehcmgcoiaaGreatDoor

/- dedup: kind, Look. -/
namespace Go.Proofs.YtdfkoehcmgcoiaaGreatDoor
open Go.RowKit Go.Maps

set_option maxRecDepth 100000 in
set_option maxHeartbeats 4000000 in
theorem kind_any {g ba br : Nat} {F : Nat → Prop} {t : DT} {Da Dr : DV} {w : World} (h : TabM w g ba br F t Da Dr) (ok : t.ok) {c s : Int} (hc : I64 c) (hs : I64 s) :
    Calls Tryz.prog 18 #[.pointer (some ⟨g, 0, none⟩), kyV c s] w fun e w' => e = .returned (.int .i64 (t.kind c s)) ∧ Fr (fun _ => False) w w' := by
  have hlen : (t.row c).length ≤ 1048576 := by have := ok.len c; have := ok.w2; omega
  have CM := Lib.hid (fun w' (hf : Fr (fun _ => False) w w') => mayHave_any (h.fr hf (fun _ _ h => h)) ok.w1 c s)
  have CL := Lib.hid (fun w' (hf : Fr (fun _ => False) w w') n => least_any ((h.fr hf (fun _ _ h => h)).fr ((Fr.refl (fun _ => False) w').drewN n) (fun _ _ h => h)) ok.took0 hc hlen)
  obtain ⟨va, HLK⟩ : ∃ va, Hid (∀ w', Fr (fun _ => False) w w' → ∀ n, (Instr.lookup 77 (.map (some ba)) (kyV c s) true).run Tryz.prog (w'.drewN n) = .ok (.tuple #[va, .bool (decide (s ∈ t.row c))]) (w'.drewN n)) := by
    have hM := fun w' (hf : Fr (fun _ => False) w w') n => (h.fr hf (fun _ _ h => h)).fr ((Fr.refl (fun _ => False) w').drewN n) (fun _ _ h => h)
    by_cases hm : s ∈ t.row c
    · obtain ⟨A, cap, h1, _⟩ := h.ans c s hc hs hm
      exact ⟨_, Lib.hid (fun w' hf n => by rw [decide_eq_true hm]; exact ((hM w' hf n).ma.at1 kKey tKey (zeroAns _) (ky_of hc hs) h1).1)⟩
    · exact ⟨_, Lib.hid (fun w' hf n => by rw [decide_eq_false hm]; exact ((hM w' hf n).ma.at0 kKey tKey (zeroAns _) (ky_of hc hs) (h.noAns c s hc hs hm)).1)⟩
  have HB := Lib.hid h.blk
  have HK : Hid (t.kind c s = if mayR c s = false then 3 else if s < t.least c then 2 else if s ∈ t.row c then 1 else 0) := Lib.hid rfl
  generalize mayR c s = mr at *
  generalize t.least c = lst at *
  obtain ⟨g0, hg0⟩ : ∃ g0, w.heap.size = g0 := ⟨_, rfl⟩
  obtain ⟨W, hW⟩ : ∃ W, w.alloc (.cells #[.int .i64 c, .int .i64 s] 57) = W := ⟨_, rfl⟩
  have KW : Hid (Bk W g0 57 #[.int .i64 c, .int .i64 s]) := Lib.hid (by rw [← hW, ← hg0]; exact Bk.new _ _ _)
  have FW : Hid (Fr (fun _ => False) w W) := Lib.hid (by rw [← hW]; exact (Fr.refl _ _).alloc _)
  clear h ok hlen hc hs
  unfold kyV at *
  have c0 := KW.out.cell 0
  have c1 := KW.out.cell 1
  cases mr with
  | false =>
    go_enter Tryz.func18, Tryz.ntmps18
    go_wp2_with fail
    clear c0 c1
    refine (CM.out W FW.out).mono ?_; rintro e w1 ⟨rfl, hf1⟩
    go_wp2
    go_ret
    refine ⟨?_, FW.out.trans hf1 (fun _ _ h => h)⟩
    rw [HK.out, if_pos (by trivial)]; rfl
  | true =>
    by_cases h2 : s < lst
    · have d2 : decide (s < lst) = true := decide_eq_true h2
      go_enter Tryz.func18, Tryz.ntmps18
      go_wp2_with fail
      clear c0 c1
      refine (CM.out W FW.out).mono ?_; rintro e w1 ⟨rfl, hf1⟩
      have F1 := Lib.hid (FW.out.trans hf1 (fun _ _ h => h))
      have k1 := KW.out.fr hf1 (fun h => h)
      have c0 := k1.cell 0
      have c1 := k1.cell 1
      clear k1 hf1
      go_wp2_with fail
      go_quiet (first
        | (go_at_call 47; exact Calls.quiet_of (CL.out w1 F1.out _)))
      go_wp2
      go_ret
      refine ⟨?_, F1.out.drewN _⟩
      rw [HK.out, if_neg (by simp), if_pos h2]; rfl
    · have d2 : decide (s < lst) = false := decide_eq_false h2
      by_cases hm : s ∈ t.row c
      · have dm : decide (s ∈ t.row c) = true := decide_eq_true hm
        rw [dm] at HLK
        clear dm
        go_enter Tryz.func18, Tryz.ntmps18
        go_wp2_with fail
        clear c0 c1
        refine (CM.out W FW.out).mono ?_; rintro e w1 ⟨rfl, hf1⟩
        have F1 := Lib.hid (FW.out.trans hf1 (fun _ _ h => h))
        have k1 := KW.out.fr hf1 (fun h => h)
        have c0 := k1.cell 0
        have c1 := k1.cell 1
        have c2 : w1.cell? ⟨g, 1, none⟩ = some (.map (some ba)) := (HB.out.fr F1.out (fun h => h)).cell 1
        clear k1 hf1
        go_wp2_with fail
        go_quiet (first
          | (go_at_call 47; exact Calls.quiet_of (CL.out w1 F1.out _)))
        have hlk := fun n => HLK.out w1 F1.out n
        have hlk2 := fun n => HLK.out (w1.drewN nq) (F1.out.drewN nq) n
        go_wp2_with fail
        go_quiet (fail)
        clear hlk hlk2
        go_wp2
        go_ret
        refine ⟨?_, (F1.out.drewN _).drewN _⟩
        rw [HK.out, if_neg (by simp), if_neg (by omega), if_pos hm]; rfl
      · have dm : decide (s ∈ t.row c) = false := decide_eq_false hm
        rw [dm] at HLK
        clear dm
        go_enter Tryz.func18, Tryz.ntmps18
        go_wp2_with fail
        clear c0 c1
        refine (CM.out W FW.out).mono ?_; rintro e w1 ⟨rfl, hf1⟩
        have F1 := Lib.hid (FW.out.trans hf1 (fun _ _ h => h))
        have k1 := KW.out.fr hf1 (fun h => h)
        have c0 := k1.cell 0
        have c1 := k1.cell 1
        have c2 : w1.cell? ⟨g, 1, none⟩ = some (.map (some ba)) := (HB.out.fr F1.out (fun h => h)).cell 1
        clear k1 hf1
        go_wp2_with fail
        go_quiet (first
          | (go_at_call 47; exact Calls.quiet_of (CL.out w1 F1.out _)))
        have hlk := fun n => HLK.out w1 F1.out n
        have hlk2 := fun n => HLK.out (w1.drewN nq) (F1.out.drewN nq) n
        go_wp2_with fail
        go_quiet (fail)
        clear hlk hlk2
        go_wp2
        go_ret
        refine ⟨?_, (F1.out.drewN _).drewN _⟩
        rw [HK.out, if_neg (by simp), if_neg (by omega), if_neg hm]; rfl
end Go.Proofs.YtdfkoehcmgcoiaaGreatDoor

/- A region that draws its order: what is held of the world is held only till an operation of a given list has come (the last append, the store behind it): whatever leans on it has come by then. -/
namespace Go.Proofs.YtdfkoehcmgcoiaaGreatDoor

section
variable {P : Program} {ops : Array Oper} {Q : Exit → Act → World → Prop} {md : Region.Mode} {S : World → Prop} {zs : List Nat}

/-- None of the list has come. -/
def yetZ (zs : List Nat) (L : Array Bool) : Bool := zs.all fun z => !(L.getD z true)
/-- Whatever order is picked; S holds as long as none of the list has come. -/
def anyZ (P : Program) (md : Region.Mode) (ops : Array Oper) (Q : Exit → Act → World → Prop) (S : World → Prop) (zs : List Nat) : Nat → Array Bool → Act → World → Prop
  | 0, L, a, w => Region.ready md ops L = [] ∧ Q .normal a w
  | f + 1, L, a, w => (Region.ready md ops L = [] → Q .normal a w) ∧
      ∀ i ∈ Region.ready md ops L, wpOp P ops Q i (fun a' w' => (yetZ zs (L.setIfInBounds i true) = true → S w') ∧ anyZ P md ops Q S zs f (L.setIfInBounds i true) a' w') a w
theorem anyZ.any : ∀ (f : Nat) (L : Array Bool) (a : Act) (w : World), anyZ P md ops Q S zs f L a w → wpAny P md ops Q f L a w
  | 0, _, _, _, h => h
  | f + 1, L, a, w, h => ⟨h.1, fun i hi => wpOp_mono (fun a' w' k => anyZ.any f _ a' w' k.2) (h.2 i hi)⟩
/-- All of B wait for i, straight or by others of B. -/
def waitZ (md : Region.Mode) (ops : Array Oper) (L : Array Bool) (i : Nat) (B : List Nat) : Bool :=
  B.all fun b => b != i && !(L.getD b true) && match ops[b]? with
    | some o => o.after.any fun e => Region.binds md e && (e.on == i || B.contains e.on)
    | none => false
theorem unlisted {L : Array Bool} {i : Nat} (h : L.getD i true = false) : L.getD i false = false := by
  by_cases hi : i < L.size
  · simp [hi] at h ⊢; exact h
  · simp [hi] at h
theorem waitZ_at {L : Array Bool} {i : Nat} {B : List Nat} (h : waitZ md ops L i B = true) {b : Nat} (hb : b ∈ B) : b ≠ i ∧ L.getD b true = false ∧ ∃ o, ops[b]? = some o ∧ ∃ e ∈ o.after, Region.binds md e = true ∧ (e.on = i ∨ e.on ∈ B) := by
  have h1 := List.all_eq_true.1 h b hb
  rw [Bool.and_eq_true, Bool.and_eq_true] at h1
  obtain ⟨⟨h2, h3⟩, h4⟩ := h1
  refine ⟨by simpa using h2, by simpa using h3, ?_⟩
  cases ho : ops[b]? with
  | none => rw [ho] at h4; cases h4
  | some o =>
    rw [ho] at h4
    obtain ⟨e, he, h5⟩ := Array.any_eq_true'.1 h4
    rw [Bool.and_eq_true, Bool.or_eq_true] at h5
    exact ⟨o, rfl, e, he, h5.1, h5.2.imp (fun x => by simpa using x) (fun x => by simpa using x)⟩
theorem waitZ_not {L : Array Bool} {i : Nat} {B : List Nat} (h : waitZ md ops L i B = true) (hi : L.getD i true = false) {j : Nat} (hj : j ∈ Region.ready md ops L) : j ∉ B := fun hb => by
  obtain ⟨_, _, o, ho, e, he, hbd, hon⟩ := waitZ_at h hb
  obtain ⟨_, o', ho', hall⟩ := mem_ready.1 hj
  rw [ho] at ho'
  cases ho'
  have h1 := hall e he hbd
  rcases hon with e1 | e1
  · rw [e1, unlisted hi] at h1; cases h1
  · rw [unlisted (waitZ_at h e1).2.1] at h1; cases h1
theorem waitZ_set {L : Array Bool} {i j : Nat} {B : List Nat} (h : waitZ md ops L i B = true) (hj : j ∉ B) : waitZ md ops (L.setIfInBounds j true) i B = true := by
  refine List.all_eq_true.2 fun b hb => ?_
  have h1 := List.all_eq_true.1 h b hb
  rw [getD_set_ne true (fun e => by subst e; exact hj hb)]
  exact h1
/-- On what a taken operation may lean: on nothing, or on S, all of the list waiting for it. -/
def Leans (md : Region.Mode) (ops : Array Oper) (S T : World → Prop) (zs B : List Nat) (L : Array Bool) (i : Nat) : Prop := (∀ w, T w) ∨ ((∀ w, S w → T w) ∧ waitZ md ops L i B = true ∧ ∀ z ∈ zs, z ∈ B)

theorem anyZ.first {i : Nat} {oi : Oper} {v : Value} {T : World → Prop} {B : List Nat} (hi : ops[i]? = some oi) (hiz : i ∉ zs) (hsel : ∀ (j : Nat) (o : Oper) cs b, ops[j]? = some o → o.op ≠ .select cs b) (hQ : ∀ c a w, Q (.panic c) (a.put oi.dst v) w → Q (.panic c) a w) :
    ∀ (f : Nat) (L : Array Bool) (a : Act) (w : World), (∀ j oj, ops[j]? = some oj → j ≠ i → L.getD j true = false → (∀ e ∈ oj.after, Region.binds md e = true → e.on ≠ i) → oi.apart ops oj = true) → i ∈ Region.ready md ops L → YieldsIf P ops T oi v a → T w → (yetZ zs L = true → S w) → Leans md ops S T zs B L i →
      anyZ P md ops Q S zs f (L.setIfInBounds i true) (a.put oi.dst v) w → anyZ P md ops Q S zs (f + 1) L a w := by
  intro f
  have back : ∀ {L : Array Bool} {j : Nat}, yetZ zs (L.setIfInBounds j true) = true → yetZ zs L = true := fun {L j} h => List.all_eq_true.2 fun z hz => by
    have h1 := List.all_eq_true.1 h z hz
    by_cases e : j = z
    · subst e
      by_cases hl : j < L.size
      · simp [hl] at h1
      · simp [hl] at h1
    · rw [getD_set_ne true e] at h1; exact h1
  induction f with
  | zero =>
    intro L a w _ hr hy hT hS _ H
    refine ⟨fun h => (by rw [h] at hr; cases hr), fun j hj => ?_⟩
    by_cases e : j = i
    · subst e; exact hy.wpOp hi hT ⟨fun h => hS (back h), H⟩
    · have h1 := ready_mono hj e
      rw [H.1] at h1; cases h1
  | succ f ih =>
    intro L a w hfree hr hy hT hS hl H
    refine ⟨fun h => (by rw [h] at hr; cases hr), fun j hj => ?_⟩
    by_cases e : j = i
    · subst e; exact hy.wpOp hi hT ⟨fun h => hS (back h), H⟩
    · have hiu := (mem_ready.1 hr).1
      obtain ⟨hju, oj, hoj, hall⟩ := mem_ready.1 hj
      have hnot : ∀ e ∈ oj.after, Region.binds md e = true → e.on ≠ i := fun e he hb heq => by
        have h1 := hall e he hb
        rw [heq, unlisted hiu] at h1; cases h1
      have h2 := wpOp_putIf hoj (hfree j oj hoj e hju hnot) (fun cs b => hsel i oi cs b hi) (fun cs b => hsel j oj cs b hoj) hQ hy (H.2 j (ready_mono hj e))
      refine wpOp_mono (fun a' w' k => ?_) h2
      rw [Array.setIfInBounds_comm _ _ (Ne.symm e)] at k
      have hS' : yetZ zs (L.setIfInBounds j true) = true → S w' := fun h => k.2.1 (List.all_eq_true.2 fun z hz => by
        rw [getD_set_ne true (fun e2 => hiz (by rw [e2]; exact hz))]
        exact List.all_eq_true.1 h z hz)
      have hl' : Leans md ops S T zs B (L.setIfInBounds j true) i ∧ T w' := by
        rcases hl with hl | ⟨h3, h4, h5⟩
        · exact ⟨.inl hl, hl w'⟩
        · have hjB := waitZ_not h4 hiu hj
          refine ⟨.inr ⟨h3, waitZ_set h4 hjB, h5⟩, h3 _ (hS' (List.all_eq_true.2 fun z hz => ?_))⟩
          rw [getD_set_ne true (fun e2 => hjB (by rw [e2]; exact h5 z hz)), (waitZ_at h4 (h5 z hz)).2.1]
          rfl
      refine ⟨hS', ih (L.setIfInBounds j true) a' w' (fun m om hm hmi hmu hmn => ?_) (ready_mono hr (Ne.symm e)) k.1 hl'.2 hS' hl'.1 k.2.2⟩
      refine hfree m om hm hmi ?_ hmn
      by_cases hjm : j = m
      · subst hjm; exact hju
      · rw [getD_set_ne true hjm] at hmu; exact hmu

/-- The beginning. -/
theorem wp_region_Z {id : Nat} {a : Go.Act} {w : World} (zs : List Nat) (S : World → Prop) (hm : P.follows .mixedOrders = true) (hS : S w.drew)
    (h : S w.drew → anyZ P .any ops Q S zs ops.size (Array.replicate ops.size false) a w.drew) : (Code.region id ops true).wp P Q a w :=
  wp_region_any hm (anyZ.any _ _ _ _ (h hS))
/-- What yields in whatever world is taken first. -/
theorem anyZ_pure {i : Nat} {oi : Oper} {v : Value} {f : Nat} {L : Array Bool} {a : Go.Act} {w : World} (d : Option Tmp) (hi : ops[i]? = some oi) (hd : oi.dst = d) (hiz : zs.contains i = false)
    (hs : Region.noSelect ops = true) (hf : Region.free md ops L i = true) (hr : (Region.ready md ops L).contains i = true)
    (hQ : ∀ c a w, Q (.panic c) (a.put oi.dst v) w → Q (.panic c) a w) (hy : YieldsIf P ops (fun _ => True) oi v a) (hS : yetZ zs L = true → S w)
    (h : anyZ P md ops Q S zs f (L.setIfInBounds i true) (a.put d v) w) : anyZ P md ops Q S zs (f + 1) L a w := by
  subst hd
  exact anyZ.first (B := []) hi (by simpa using hiz) (Region.noSelect_spec hs) hQ f L a w (Region.free_spec hi hf) (by simpa using hr) hy trivial hS (.inl fun _ => trivial) h
/-- What yields wherever S holds is taken first, all of the list waiting for it. -/
theorem anyZ_read {i : Nat} {oi : Oper} {v : Value} {f : Nat} {L : Array Bool} {a : Go.Act} {w : World} (d : Option Tmp) (B : List Nat) (hi : ops[i]? = some oi) (hd : oi.dst = d) (hiz : zs.contains i = false)
    (hs : Region.noSelect ops = true) (hf : Region.free md ops L i = true) (hr : (Region.ready md ops L).contains i = true) (hw : waitZ md ops L i B = true) (hz : (zs.all fun z => B.contains z) = true)
    (hQ : ∀ c a w, Q (.panic c) (a.put oi.dst v) w → Q (.panic c) a w) (hy : YieldsIf P ops S oi v a) (hS : S w)
    (h : anyZ P md ops Q S zs f (L.setIfInBounds i true) (a.put d v) w) : anyZ P md ops Q S zs (f + 1) L a w := by
  subst hd
  refine anyZ.first (B := B) hi (by simpa using hiz) (Region.noSelect_spec hs) hQ f L a w (Region.free_spec hi hf) (by simpa using hr) hy hS (fun _ => hS) (.inr ⟨fun _ h => h, hw, fun z hzz => ?_⟩) h
  simpa using List.all_eq_true.1 hz z hzz
theorem anyZ_done {L : Array Bool} {a : Go.Act} {w : World} (hr : Region.ready md ops L = []) (h : Q .normal a w) : ∀ f, anyZ P md ops Q S zs f L a w
  | 0 => ⟨hr, h⟩
  | _ + 1 => ⟨fun _ => h, by rw [hr]; simp⟩
/-- The one that comes next, or each of those that may. -/
def AllZ (P : Program) (md : Region.Mode) (ops : Array Oper) (Q : Exit → Go.Act → World → Prop) (S : World → Prop) (zs : List Nat) (f : Nat) (L : Array Bool) (a : Go.Act) (w : World) (rs : List Nat) : Prop :=
  ∀ i ∈ rs, wpOp P ops Q i (fun a' w' => (yetZ zs (L.setIfInBounds i true) = true → S w') ∧ anyZ P md ops Q S zs f (L.setIfInBounds i true) a' w') a w
theorem AllZ.nil {f : Nat} {L : Array Bool} {a : Go.Act} {w : World} : AllZ P md ops Q S zs f L a w [] := fun _ h => by cases h
theorem anyZ_ready {rs : List Nat} {f : Nat} {L : Array Bool} {a : Go.Act} {w : World} (hr : Region.ready md ops L = rs) (hne : rs ≠ []) (h : AllZ P md ops Q S zs f L a w rs) : anyZ P md ops Q S zs (f + 1) L a w :=
  ⟨fun h0 => absurd (hr ▸ h0) hne, hr ▸ h⟩
/-- One that is not of the list: S is shown anew behind it. -/
theorem AllZ.step {f : Nat} {L : Array Bool} {a : Go.Act} {w : World} {i : Nat} {o : Oper} {rs : List Nat} (ho : ops[i]? = some o)
    (h : ∀ K' : Go.Act → World → Prop, Shut (∀ a w, S w → (S w → anyZ P md ops Q S zs f (L.setIfInBounds i true) a w) → K' a w) → if Region.wanted o (yielded ops a.tmps) = true then Oper.wp P o a w K' Q else K' (a.put o.dst undef) w)
    (hs : AllZ P md ops Q S zs f L a w rs) : AllZ P md ops Q S zs f L a w (i :: rs) := fun j hj => by
  rcases List.mem_cons.1 hj with rfl | hj
  · exact wpOp_step ho (fun K' hK => h K' (fun a w hS hW => hK a w ⟨fun _ => hS, hW hS⟩))
  · exact hs j hj
/-- One of the list: behind it S is asked no more. -/
theorem AllZ.last {f : Nat} {L : Array Bool} {a : Go.Act} {w : World} {i : Nat} {o : Oper} {rs : List Nat} (ho : ops[i]? = some o) (hy : yetZ zs (L.setIfInBounds i true) = false)
    (h : ∀ K' : Go.Act → World → Prop, Shut (∀ a w, anyZ P md ops Q S zs f (L.setIfInBounds i true) a w → K' a w) → if Region.wanted o (yielded ops a.tmps) = true then Oper.wp P o a w K' Q else K' (a.put o.dst undef) w)
    (hs : AllZ P md ops Q S zs f L a w rs) : AllZ P md ops Q S zs f L a w (i :: rs) := fun j hj => by
  rcases List.mem_cons.1 hj with rfl | hj
  · exact wpOp_step ho (fun K' hK => h K' (fun a w hW => hK a w ⟨fun e => (by rw [hy] at e; cases e), hW⟩))
  · exact hs j hj
theorem notYet {L : Array Bool} {p : Prop} (h : yetZ zs L = false) : yetZ zs L = true → p := fun e => by rw [h] at e; cases e
end
end Go.Proofs.YtdfkoehcmgcoiaaGreatDoor
