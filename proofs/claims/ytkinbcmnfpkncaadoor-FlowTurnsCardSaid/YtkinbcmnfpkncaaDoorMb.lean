/- Events in memory: rows of them, one by value. -/
import Derived.Test.YtkinbcmnfpkncaaDoorNa
import Derived.Test.YtkinbcmnfpkncaaDoorMa
import Derived.Deep.QuietTactic
import Derived.BigQuiet
import Derived.Laws.EntriesVeiled
import Derived.StillTailTactics
import Derived.Deep.RegionHeld3
import Derived.Deep.DeepAppendWide
namespace Go.Proofs.YtkinbcmnfpkncaaDoor
open Go.RowKit

theorem flat_at {α : Type} [Inhabited α] {f : α → List Value} {k : Nat} (hf : ∀ a, (f a).length = k) : ∀ {l : List α} {i j : Nat}, i < l.length → j < k → (l.flatMap f)[i * k + j]? = (f (l.getD i default))[j]?
  | [], i, _, hi, _ => by simp at hi
  | a :: l, 0, j, _, hj => by rw [List.flatMap_cons, Nat.zero_mul, Nat.zero_add, List.getElem?_append_left (by rw [hf]; exact hj)]; rfl
  | a :: l, i + 1, j, hi, hj => by
    have h1 := flat_at hf (l := l) (i := i) (j := j) (by simpa using hi) hj
    rw [List.flatMap_cons, List.getElem?_append_right (by rw [hf, Nat.add_mul]; omega), hf, show (i + 1) * k + j - k = i * k + j by rw [Nat.add_mul]; omega, h1]
    rfl
theorem flat_len {α : Type} {f : α → List Value} {k : Nat} (hf : ∀ a, (f a).length = k) (l : List α) : (l.flatMap f).length = l.length * k := by
  induction l with
  | nil => simp
  | cons a l ih => rw [List.flatMap_cons, List.length_append, hf, ih, List.length_cons, Nat.add_mul]; omega
theorem flat_take {α : Type} {f : α → List Value} {k : Nat} (hf : ∀ a, (f a).length = k) : ∀ (l : List α) (i : Nat), (l.flatMap f).take (i * k) = (l.take i).flatMap f
  | [], i => by simp
  | a :: l, 0 => by simp
  | a :: l, i + 1 => by
    rw [List.flatMap_cons, List.take_succ_cons, List.flatMap_cons, ← flat_take hf l i, Nat.add_mul, Nat.one_mul, Nat.add_comm, List.take_append, hf, Nat.add_sub_cancel_left, List.take_of_length_le (by rw [hf]; omega)]
theorem flat_drop {α : Type} {f : α → List Value} {k : Nat} (hf : ∀ a, (f a).length = k) : ∀ (l : List α) (i : Nat), (l.flatMap f).drop (i * k) = (l.drop i).flatMap f
  | [], i => by simp
  | a :: l, 0 => by simp
  | a :: l, i + 1 => by
    rw [List.flatMap_cons, List.drop_succ_cons, ← flat_drop hf l i, Nat.add_mul, Nat.one_mul, Nat.add_comm, List.drop_append, hf, Nat.add_sub_cancel_left, List.drop_of_length_le (by rw [hf]; omega), List.nil_append]
theorem getD_mem {α : Type} [Inhabited α] {l : List α} {i : Nat} (h : i < l.length) : l.getD i default ∈ l := by
  rw [show l.getD i default = l[i] by simp [List.getD, h]]; exact List.getElem_mem h
theorem getD_map {α β : Type} [Inhabited α] [Inhabited β] (f : α → β) {l : List α} {i : Nat} (h : i < l.length) : (l.map f).getD i default = f (l.getD i default) := by
  simp [List.getD, h]
theorem take_succ_getD {α : Type} [Inhabited α] {l : List α} {j : Nat} (h : j < l.length) : l.take (j + 1) = l.take j ++ [l.getD j default] := by
  rw [List.take_add_one, List.getElem?_eq_getElem h]; simp [List.getD, h]
theorem drop_getD {α : Type} [Inhabited α] {l : List α} {j : Nat} (h : j < l.length) : l.drop j = l.getD j default :: l.drop (j + 1) := by
  rw [List.drop_eq_getElem_cons h]; simp [List.getD, h]

section
variable {P : Program} {w : World}
theorem run_appendW {t e : TypeId} {k by' : Nat} {z : Value} (hT : TE P t e k by' z) (ty : TypeId) {v : Value} {n : Nat} {cs : List Value} (h : Row w e k v n cs) {x : Value} {m : Nat} {xs : List Value} (hx : Sl w k x m xs) (h1 : ∀ u ∈ xs, u.oneCell' = true)
    (h63 : n + m ≤ maxLen) (hb : (n + m + (n + m) / 4 + 192) * by' ≤ 281474976710656) :
    ∃ v' w', (Builtin.append_ #[t, t] ty #[v, x]).run P w = .ok v' w' ∧ Row w' e k v' (n + m) (cs ++ xs) ∧ Fr (fun g => v.ownBlock = some g) w w' ∧ Moved w v v' := by
  obtain ⟨i, hi, hz, hsz, hby⟩ := info_parts hT.info
  subst hsz
  subst hby
  have hs := hx.src hT.sl h1
  have hlen : (cs ++ xs).length = (n + m) * i.size := by rw [List.length_append, h.1, hx.1, Nat.add_mul]
  have h63' : ((n + m : Nat) : Int) ≤ 9223372036854775807 := by simp only [maxLen] at h63; omega
  have grown : ∀ (base : Option Addr) (old : Nat), old < n + m →
      (Builtin.firstCells i.size n (.slice base n old)).run P w.drew = .ok cs.toArray w.drew →
      ∃ v' w', (Builtin.append_ #[t, t] ty #[.slice base n old, x]).run P w = .ok v' w' ∧ Row w' e i.size v' (n + m) (cs ++ xs) ∧ Fr (fun g => (Value.slice base n old).ownBlock = some g) w w' ∧ Moved w (.slice base n old) v' := by
    intro base old ho hold
    have hr := run_append_grow_src (P := P) w t t ty e i z hT.sl hi hz base n old cs hold x m xs hs ho h63' (growslice_fits_wide ho hb)
    have hge := grownCap_ge w (n + m) old e
    have hcm := grownCap_le_maxLen w (n + m) old e h63
    refine ⟨_, _, hr, ⟨hlen, .inr ⟨w.heap.size, 0, _, _, rfl, Bk.new _ _ _, hge, hcm, ?_, fun j hj => ?_⟩⟩, (Fr.refl _ _).drew.alloc _, .inr ⟨w.heap.size, rfl, Nat.le_refl _⟩⟩
    · simp only [Array.size_append, List.size_toArray, size_zeroCells, hT.zs, hlen, ← Nat.add_mul, Nat.zero_add]
      have : n + m + (grownCap w (n + m) old e - (n + m)) = grownCap w (n + m) old e := by omega
      rw [this]; exact Nat.le_refl _
    · rw [Nat.zero_add, Array.getElem?_append_left (by simpa using hj)]
      simp
  rcases h.2 with ⟨rfl, rfl⟩ | ⟨b, off, cap, cur, rfl, hbk, hnc, hcm, hsz, hc⟩
  · have hcs : cs = [] := List.eq_nil_of_length_eq_zero (by simpa using h.1)
    subst hcs
    by_cases hm : m = 0
    · subst hm
      have hx0 : xs = [] := List.eq_nil_of_length_eq_zero (by simpa using hx.1)
      subst hx0
      exact ⟨_, w, run_append_nothing w t t ty e i hT.sl hi none 0 0 (Nat.le_refl _) x hs, Row.nil _ _ _, Fr.refl _ _, Moved.refl _ _⟩
    · exact grown none 0 (by omega) (by simp [Builtin.firstCells])
  · by_cases hroom : n + m ≤ cap
    · have hfit : n * i.size + m * i.size ≤ cap * i.size := by rw [← Nat.add_mul]; exact Nat.mul_le_mul_right _ hroom
      have hxl := hx.1
      have hr := run_append_room_src (P := P) w t t ty e i hT.sl hi b off n cap x m xs hs hroom (fun j hj => hbk.there (by omega)) (fun j hj => hbk.frozen _)
      refine ⟨_, _, hr, ⟨hlen, .inr ⟨b, off, cap, _, rfl, hbk.setCells xs _, hroom, hcm, by rw [lay_size]; exact hsz, fun j hj => ?_⟩⟩, Fr.setCells xs _ (Fr.refl _ _) (fun _ => rfl), .inl rfl⟩
      have hl0 := h.1
      by_cases hj0 : j < cs.length
      · rw [lay_out _ _ _ _ (.inl (by omega)), hc j hj0, List.getElem?_append_left hj0]
      · rw [List.length_append] at hj
        rw [List.getElem?_append_right (by omega), ← lay_in xs cur (off + n * i.size) (j - cs.length) (by omega) (by omega)]
        congr 1; omega
    · refine grown (some ⟨b, off, none⟩) cap (by omega) ?_
      exact run_firstCells_some (P := P) w.drew i.size n ⟨b, off, none⟩ n cap cs h.1 (fun j u hu => by
        rw [add_at]
        show w.cell? _ = _
        rw [hbk.cell, hc j (List.getElem?_eq_some_iff.1 hu).1, hu])

theorem stepOf_appendW {t e : TypeId} {k by' : Nat} {z : Value} (hT : TE P t e k by' z) {ops : Array Oper} {o : Oper} {a : Go.Act} {K' : Go.Act → World → Prop} {Q : Exit → Go.Act → World → Prop} (hgd : o.guard = none) (s y : Operand)
    (ho : o.op = .call { callee := .builtin .append, args := #[s, y], argTypes := #[t, t] })
    (v : Value) (n : Nat) (cs : List Value) (hs : a.eval s = v) (h : Row w e k v n cs) (x : Value) (m : Nat) (xs : List Value) (hy : a.eval y = x) (hx : Sl w k x m xs) (h1 : ∀ u ∈ xs, u.oneCell' = true)
    (h63 : n + m ≤ maxLen) (hb : (n + m + (n + m) / 4 + 192) * by' ≤ 281474976710656)
    (hK : ∀ A' c' w', Row w' e k (.slice A' (n + m) c') (n + m) (cs ++ xs) → Fr (fun g => v.ownBlock = some g) w w' → Moved w v (.slice A' (n + m) c') → K' (a.put o.dst (.slice A' (n + m) c')) w') :
    if Region.wanted o (yielded ops a.tmps) = true then Oper.wp P o a w K' Q else K' (a.put o.dst undef) w := by
  rw [if_pos (by simp [Region.wanted, hgd])]
  obtain ⟨v', w', hr, h2, h3, h4⟩ := run_appendW (P := P) hT o.type h hx h1 h63 hb
  obtain ⟨A', c', rfl, _⟩ := h2.form
  unfold Oper.wp execOp
  simp only [ho, resolve, invoke, builtin, Sem.run_bind, Sem.run_pure, Result.andThen_ok, List.map_toArray, List.map_cons, List.map_nil, hs, hy, hr]
  exact hK A' c' w' h2 h3 h4

end

/-- An event and where its bytes lie. -/
structure VL where
  e : Ev
  A : Option Addr
  c : Nat
instance : Inhabited VL := ⟨⟨default, none, 0⟩⟩
def VL.bv (p : VL) : Value := .slice p.A p.e.d.length p.c
def VL.cells (p : VL) : List Value := [.int .i64 p.e.k, .int .i64 p.e.a, .int .i64 p.e.r, .int .i64 p.e.i, .int .i64 p.e.l, .int .i64 p.e.n, p.bv]
/-- It as a value. -/
def VL.val (p : VL) : Value := .agg p.cells.toArray
def vlc (ps : List VL) : List Value := ps.flatMap VL.cells
theorem VL.cells_len (p : VL) : p.cells.length = 7 := rfl
theorem vlc_at {ps : List VL} {i j : Nat} (hi : i < ps.length) (hj : j < 7) : (vlc ps)[i * 7 + j]? = (ps.getD i default).cells[j]? := flat_at VL.cells_len hi hj
theorem vlc_len (ps : List VL) : (vlc ps).length = ps.length * 7 := flat_len VL.cells_len ps
theorem vlc_one (ps : List VL) : ∀ u ∈ vlc ps, u.oneCell' = true := by
  intro u hu
  obtain ⟨p, _, hp⟩ := List.mem_flatMap.1 hu
  simp [VL.cells, VL.bv] at hp
  rcases hp with rfl | rfl | rfl | rfl | rfl | rfl | rfl <;> rfl
theorem vlc_app (a b : List VL) : vlc (a ++ b) = vlc a ++ vlc b := by simp [vlc]
theorem vlc_take (ps : List VL) (i : Nat) : (vlc ps).take (i * 7) = vlc (ps.take i) := flat_take VL.cells_len ps i
theorem vlc_drop (ps : List VL) (i : Nat) : (vlc ps).drop (i * 7) = vlc (ps.drop i) := flat_drop VL.cells_len ps i
/-- Its numbers and its length may be. -/
def N64 (x : Int) : Prop := -9223372036854775808 ≤ x ∧ x ≤ 9223372036854775807
structure VL.ok (p : VL) : Prop where
  k : N64 p.e.k
  a : N64 p.e.a
  r : N64 p.e.r
  i : N64 p.e.i
  l : N64 p.e.l
  n : N64 p.e.n
  d : p.e.d.length ≤ 140737488355328

/-- Its bytes can be read; they lie within F. -/
structure RdV (w : World) (F : Nat → Prop) (p : VL) : Prop where
  rd : Rd8 w p.A p.e.d
  ok : p.ok
  inF : ∀ ad, p.A = some ad → 0 < p.e.d.length → F ad.block
theorem RdV.fr {S F : Nat → Prop} {w w' : World} {p : VL} (h : RdV w F p) (hf : Fr S w w') (hS : ∀ k, F k → ¬ S k) : RdV w' F p :=
  ⟨h.rd.fr hf (fun ad e h0 => hS _ (h.inF ad e h0)), h.ok, h.inF⟩
/-- Entries that can be read at a slice; all lies within F. -/
structure Vs (w : World) (A : Option Addr) (n : Nat) (ps : List VL) (F : Nat → Prop) : Prop where
  len : ps.length = n
  row : 0 < n → ∃ b off, A = some ⟨b, off, none⟩ ∧ F b ∧ ∀ j u, (vlc ps)[j]? = some u → w.cell? ⟨b, off + j, none⟩ = some u
  each : ∀ p ∈ ps, RdV w F p
theorem Vs.fr {S F : Nat → Prop} {w w' : World} {A : Option Addr} {n : Nat} {ps : List VL} (h : Vs w A n ps F) (hf : Fr S w w') (hS : ∀ k, F k → ¬ S k) : Vs w' A n ps F := by
  refine ⟨h.len, fun h0 => ?_, fun p hp => (h.each p hp).fr hf hS⟩
  obtain ⟨b, off, e, hb, hc⟩ := h.row h0
  exact ⟨b, off, e, hb, fun j u hu => by
    have h1 := hc j u hu
    rw [← h1]
    exact hf.cell (p := ⟨b, off + j, .none⟩) (World.block_lt_of_cell? w _ h1) (hS b hb)⟩
theorem Vs.fr0 {F : Nat → Prop} {w w' : World} {A : Option Addr} {n : Nat} {ps : List VL} (h : Vs w A n ps F) (hf : Fr (fun _ => False) w w') : Vs w' A n ps F := h.fr hf (fun _ _ h => h)
theorem Vs.at {F : Nat → Prop} {w : World} {A : Option Addr} {n : Nat} {ps : List VL} (h : Vs w A n ps F) {i : Nat} (hi : i < n) :
    ∃ b off, A = some ⟨b, off, none⟩ ∧ F b ∧ (∀ j u, (ps.getD i default).cells[j]? = some u → w.cell? ⟨b, off + i * 7 + j, none⟩ = some u) ∧ RdV w F (ps.getD i default) := by
  obtain ⟨b, off, e, hb, hc⟩ := h.row (by omega)
  have hi' : i < ps.length := by rw [h.len]; exact hi
  refine ⟨b, off, e, hb, fun j u hu => ?_, h.each _ (getD_mem hi')⟩
  have hj : j < 7 := by
    have := (List.getElem?_eq_some_iff.1 hu).1
    rw [VL.cells_len] at this; exact this
  rw [Nat.add_assoc]
  exact hc _ _ ((vlc_at hi' hj).trans hu)
theorem Vs.sl {F : Nat → Prop} {w : World} {A : Option Addr} {n c : Nat} {ps : List VL} (h : Vs w A n ps F) : Sl w 7 (.slice A n c) n (vlc ps) :=
  ⟨by rw [vlc_len, h.len], A, c, rfl, fun h0 => by
    obtain ⟨b, off, e, _, hc⟩ := h.row h0
    exact ⟨b, off, e, hc⟩⟩
theorem Vs.mono {F G : Nat → Prop} {w : World} {A : Option Addr} {n : Nat} {ps : List VL} (h : Vs w A n ps F) (hG : ∀ k, F k → G k) : Vs w A n ps G :=
  ⟨h.len, fun h0 => by obtain ⟨b, off, e, hb, hc⟩ := h.row h0; exact ⟨b, off, e, hG b hb, hc⟩, fun p hp => ⟨(h.each p hp).rd, (h.each p hp).ok, fun ad e h0 => hG _ ((h.each p hp).inF ad e h0)⟩⟩
theorem Vs.nil (w : World) (A : Option Addr) (F : Nat → Prop) : Vs w A 0 [] F := ⟨rfl, fun h => by omega, fun p hp => by cases hp⟩
/-- A piece from i on. -/
theorem Vs.drop {F : Nat → Prop} {w : World} {b off n : Nat} {ps : List VL} (h : Vs w (some ⟨b, off, none⟩) n ps F) (i : Nat) (hi : i ≤ n) : Vs w (some ⟨b, off + i * 7, none⟩) (n - i) (ps.drop i) F := by
  refine ⟨by rw [List.length_drop, h.len], fun h0 => ?_, fun p hp => h.each p (List.mem_of_mem_drop hp)⟩
  obtain ⟨b', off', e, hb, hc⟩ := h.row (by omega)
  injection e with e
  injection e with e1 e2
  subst e1 e2
  refine ⟨_, _, rfl, hb, fun j u hu => ?_⟩
  rw [← vlc_drop, List.getElem?_drop] at hu
  rw [Nat.add_assoc]
  exact hc _ _ hu
theorem Vs.take {F : Nat → Prop} {w : World} {A : Option Addr} {n : Nat} {ps : List VL} (h : Vs w A n ps F) (i : Nat) (hi : i ≤ n) : Vs w A i (ps.take i) F := by
  refine ⟨by rw [List.length_take, h.len]; omega, fun h0 => ?_, fun p hp => h.each p (List.mem_of_mem_take hp)⟩
  obtain ⟨b', off', e, hb, hc⟩ := h.row (by omega)
  refine ⟨_, _, e, hb, fun j u hu => ?_⟩
  rw [← vlc_take, List.getElem?_take] at hu
  split at hu
  · exact hc _ _ hu
  · cases hu

/-- Its bytes are its own. -/
structure OwV (w : World) (p : VL) : Prop where
  own : Own8 w 5 p.bv p.e.d
  ok : p.ok
theorem OwV.fr {S : Nat → Prop} {w w' : World} {p : VL} (h : OwV w p) (hf : Fr S w w') (hS : ∀ k, p.bv.ownBlock = some k → ¬ S k) : OwV w' p := ⟨h.own.fr hf hS, h.ok⟩
theorem OwV.rdE {w : World} {p : VL} (h : OwV w p) : RdV w (fun k => p.bv.ownBlock = some k) p :=
  ⟨h.own.rd, h.ok, fun ad e h0 => by unfold VL.bv; rw [e]; rfl⟩
/-- A row of entries of the call's own, of the type T. -/
structure OwnV (w : World) (T : TypeId) (v : Value) (ps : List VL) : Prop where
  row : Row w T 7 v ps.length (vlc ps)
  each : ∀ p ∈ ps, OwV w p
def VB (v : Value) (ps : List VL) (k : Nat) : Prop := v.ownBlock = some k ∨ ∃ p ∈ ps, p.bv.ownBlock = some k
theorem OwnV.lt {w : World} {T : TypeId} {v : Value} {ps : List VL} (h : OwnV w T v ps) {k : Nat} (hk : VB v ps k) : k < w.heap.size := by
  rcases hk with e | ⟨p, hp, e⟩
  · exact h.row.lt e
  · exact (h.each p hp).own.lt e
theorem OwnV.fr {S : Nat → Prop} {w w' : World} {T : TypeId} {v : Value} {ps : List VL} (h : OwnV w T v ps) (hf : Fr S w w') (hS : ∀ k, VB v ps k → ¬ S k) : OwnV w' T v ps :=
  ⟨h.row.fr hf (fun k e => hS k (.inl e)), fun p hp => (h.each p hp).fr hf (fun k e => hS k (.inr ⟨p, hp, e⟩))⟩
theorem OwnV.fr0 {w w' : World} {T : TypeId} {v : Value} {ps : List VL} (h : OwnV w T v ps) (hf : Fr (fun _ => False) w w') : OwnV w' T v ps := h.fr hf (fun _ _ h => h)
theorem OwnV.nil (w : World) (T : TypeId) : OwnV w T (.slice none 0 0) [] := ⟨Row.nil _ _ _, fun p hp => by cases hp⟩
theorem OwnV.es {w : World} {T : TypeId} {A : Option Addr} {n c : Nat} {ps : List VL} (h : OwnV w T (.slice A n c) ps) : Vs w A n ps (VB (.slice A n c) ps) := by
  have hl := h.row.len
  subst hl
  refine ⟨rfl, fun h0 => ?_, fun p hp => ?_⟩
  · obtain ⟨A', c', e, _, _, hA⟩ := h.row.form
    obtain ⟨b, off, rfl⟩ := hA h0
    injection e with e1 _ e3
    subst e1 e3
    exact ⟨b, off, rfl, .inl rfl, fun j u hu => h.row.cell hu⟩
  · have h1 := (h.each p hp).rdE
    exact ⟨h1.rd, h1.ok, fun ad e h0 => .inr ⟨p, hp, h1.inF ad e h0⟩⟩
/-- It is new since w. -/
def NewV (w w' : World) (T : TypeId) (v : Value) (ps : List VL) : Prop := OwnV w' T v ps ∧ Fr (fun _ => False) w w' ∧ ∀ k, VB v ps k → w.heap.size ≤ k
/-- What the row's block is turned into touches none of the bytes. -/
theorem OwnV.apart {w : World} {T : TypeId} {v : Value} {ps : List VL} (h : OwnV w T v ps) (hT : T ≠ 5) {p : VL} (hp : p ∈ ps) {k : Nat} (hk : v.ownBlock = some k) : p.bv.ownBlock ≠ some k := by
  obtain ⟨cur, hb⟩ := h.row.bk hk
  exact (h.each p hp).own.ne hb (fun e => hT e.symm)

end Go.Proofs.YtkinbcmnfpkncaaDoor
