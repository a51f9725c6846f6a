/- A log of entries as plain data, and in memory (the program's and the reference's alike). -/
import Derived.Test.YtainkckcipdknaaNa
import Derived.Deep.QuietTactic
import Derived.BigQuiet
import Derived.Laws.EntriesVeiled
import Derived.StillTailTactics
import Derived.Deep.RegionHeld3
import Derived.Deep.DeepAppendWide
namespace Go.Proofs.Ytainkckcipdknaa
open Go.RowKit

theorem flat_at {α : Type} [Inhabited α] {f : α → List Value} {k : Nat} (hf : ∀ a, (f a).length = k) : ∀ {l : List α} {i j : Nat}, i < l.length → j < k → (l.flatMap f)[i * k + j]? = (f (l.getD i default))[j]?
  | [], i, _, hi, _ => by simp at hi
  | a :: l, 0, j, _, hj => by rw [List.flatMap_cons, Nat.zero_mul, Nat.zero_add, List.getElem?_append_left (by rw [hf]; exact hj)]; rfl
  | a :: l, i + 1, j, hi, hj => by
    have h1 := flat_at hf (l := l) (i := i) (j := j) (by simpa using hi) hj
    rw [List.flatMap_cons, List.getElem?_append_right (by rw [hf, Nat.add_mul]; omega), hf, show (i + 1) * k + j - k = i * k + j by rw [Nat.add_mul]; omega, h1]
    rfl
theorem flat_len {α : Type} {f : α → List Value} {k : Nat} (hf : ∀ a, (f a).length = k) (l : List α) : (l.flatMap f).length = l.length * k := by
  induction l with
  | nil => simp
  | cons a l ih => rw [List.flatMap_cons, List.length_append, hf, ih, List.length_cons, Nat.add_mul]; omega
theorem flat_take {α : Type} {f : α → List Value} {k : Nat} (hf : ∀ a, (f a).length = k) : ∀ (l : List α) (i : Nat), (l.flatMap f).take (i * k) = (l.take i).flatMap f
  | [], i => by simp
  | a :: l, 0 => by simp
  | a :: l, i + 1 => by
    rw [List.flatMap_cons, List.take_succ_cons, List.flatMap_cons, ← flat_take hf l i, Nat.add_mul, Nat.one_mul, Nat.add_comm, List.take_append, hf, Nat.add_sub_cancel_left, List.take_of_length_le (by rw [hf]; omega)]
theorem flat_drop {α : Type} {f : α → List Value} {k : Nat} (hf : ∀ a, (f a).length = k) : ∀ (l : List α) (i : Nat), (l.flatMap f).drop (i * k) = (l.drop i).flatMap f
  | [], i => by simp
  | a :: l, 0 => by simp
  | a :: l, i + 1 => by
    rw [List.flatMap_cons, List.drop_succ_cons, ← flat_drop hf l i, Nat.add_mul, Nat.one_mul, Nat.add_comm, List.drop_append, hf, Nat.add_sub_cancel_left, List.drop_of_length_le (by rw [hf]; omega), List.nil_append]
theorem getD_mem {α : Type} [Inhabited α] {l : List α} {i : Nat} (h : i < l.length) : l.getD i default ∈ l := by
  rw [show l.getD i default = l[i] by simp [List.getD, h]]; exact List.getElem_mem h
theorem getD_map {α β : Type} [Inhabited α] [Inhabited β] (f : α → β) {l : List α} {i : Nat} (h : i < l.length) : (l.map f).getD i default = f (l.getD i default) := by
  simp [List.getD, h]
theorem take_succ_getD {α : Type} [Inhabited α] {l : List α} {j : Nat} (h : j < l.length) : l.take (j + 1) = l.take j ++ [l.getD j default] := by
  rw [List.take_add_one, List.getElem?_eq_getElem h]; simp [List.getD, h]
theorem drop_getD {α : Type} [Inhabited α] {l : List α} {j : Nat} (h : j < l.length) : l.drop j = l.getD j default :: l.drop (j + 1) := by
  rw [List.drop_eq_getElem_cons h]; simp [List.getD, h]

section
variable {P : Program} {w : World}
theorem run_appendW {t e : TypeId} {k by' : Nat} {z : Value} (hT : TE P t e k by' z) (ty : TypeId) {v : Value} {n : Nat} {cs : List Value} (h : Row w e k v n cs) {x : Value} {m : Nat} {xs : List Value} (hx : Sl w k x m xs) (h1 : ∀ u ∈ xs, u.oneCell' = true)
    (h63 : n + m ≤ maxLen) (hb : (n + m + (n + m) / 4 + 192) * by' ≤ 281474976710656) :
    ∃ v' w', (Builtin.append_ #[t, t] ty #[v, x]).run P w = .ok v' w' ∧ Row w' e k v' (n + m) (cs ++ xs) ∧ Fr (fun g => v.ownBlock = some g) w w' ∧ Moved w v v' := by
  obtain ⟨i, hi, hz, hsz, hby⟩ := info_parts hT.info
  subst hsz
  subst hby
  have hs := hx.src hT.sl h1
  have hlen : (cs ++ xs).length = (n + m) * i.size := by rw [List.length_append, h.1, hx.1, Nat.add_mul]
  have h63' : ((n + m : Nat) : Int) ≤ 9223372036854775807 := by simp only [maxLen] at h63; omega
  have grown : ∀ (base : Option Addr) (old : Nat), old < n + m →
      (Builtin.firstCells i.size n (.slice base n old)).run P w.drew = .ok cs.toArray w.drew →
      ∃ v' w', (Builtin.append_ #[t, t] ty #[.slice base n old, x]).run P w = .ok v' w' ∧ Row w' e i.size v' (n + m) (cs ++ xs) ∧ Fr (fun g => (Value.slice base n old).ownBlock = some g) w w' ∧ Moved w (.slice base n old) v' := by
    intro base old ho hold
    have hr := run_append_grow_src (P := P) w t t ty e i z hT.sl hi hz base n old cs hold x m xs hs ho h63' (growslice_fits_wide ho hb)
    have hge := grownCap_ge w (n + m) old e
    have hcm := grownCap_le_maxLen w (n + m) old e h63
    refine ⟨_, _, hr, ⟨hlen, .inr ⟨w.heap.size, 0, _, _, rfl, Bk.new _ _ _, hge, hcm, ?_, fun j hj => ?_⟩⟩, (Fr.refl _ _).drew.alloc _, .inr ⟨w.heap.size, rfl, Nat.le_refl _⟩⟩
    · simp only [Array.size_append, List.size_toArray, size_zeroCells, hT.zs, hlen, ← Nat.add_mul, Nat.zero_add]
      have : n + m + (grownCap w (n + m) old e - (n + m)) = grownCap w (n + m) old e := by omega
      rw [this]; exact Nat.le_refl _
    · rw [Nat.zero_add, Array.getElem?_append_left (by simpa using hj)]
      simp
  rcases h.2 with ⟨rfl, rfl⟩ | ⟨b, off, cap, cur, rfl, hbk, hnc, hcm, hsz, hc⟩
  · have hcs : cs = [] := List.eq_nil_of_length_eq_zero (by simpa using h.1)
    subst hcs
    by_cases hm : m = 0
    · subst hm
      have hx0 : xs = [] := List.eq_nil_of_length_eq_zero (by simpa using hx.1)
      subst hx0
      exact ⟨_, w, run_append_nothing w t t ty e i hT.sl hi none 0 0 (Nat.le_refl _) x hs, Row.nil _ _ _, Fr.refl _ _, Moved.refl _ _⟩
    · exact grown none 0 (by omega) (by simp [Builtin.firstCells])
  · by_cases hroom : n + m ≤ cap
    · have hfit : n * i.size + m * i.size ≤ cap * i.size := by rw [← Nat.add_mul]; exact Nat.mul_le_mul_right _ hroom
      have hxl := hx.1
      have hr := run_append_room_src (P := P) w t t ty e i hT.sl hi b off n cap x m xs hs hroom (fun j hj => hbk.there (by omega)) (fun j hj => hbk.frozen _)
      refine ⟨_, _, hr, ⟨hlen, .inr ⟨b, off, cap, _, rfl, hbk.setCells xs _, hroom, hcm, by rw [lay_size]; exact hsz, fun j hj => ?_⟩⟩, Fr.setCells xs _ (Fr.refl _ _) (fun _ => rfl), .inl rfl⟩
      have hl0 := h.1
      by_cases hj0 : j < cs.length
      · rw [lay_out _ _ _ _ (.inl (by omega)), hc j hj0, List.getElem?_append_left hj0]
      · rw [List.length_append] at hj
        rw [List.getElem?_append_right (by omega), ← lay_in xs cur (off + n * i.size) (j - cs.length) (by omega) (by omega)]
        congr 1; omega
    · refine grown (some ⟨b, off, none⟩) cap (by omega) ?_
      exact run_firstCells_some (P := P) w.drew i.size n ⟨b, off, none⟩ n cap cs h.1 (fun j u hu => by
        rw [add_at]
        show w.cell? _ = _
        rw [hbk.cell, hc j (List.getElem?_eq_some_iff.1 hu).1, hu])

theorem stepOf_appendW {t e : TypeId} {k by' : Nat} {z : Value} (hT : TE P t e k by' z) {ops : Array Oper} {o : Oper} {a : Go.Act} {K' : Go.Act → World → Prop} {Q : Exit → Go.Act → World → Prop} (hgd : o.guard = none) (s y : Operand)
    (ho : o.op = .call { callee := .builtin .append, args := #[s, y], argTypes := #[t, t] })
    (v : Value) (n : Nat) (cs : List Value) (hs : a.eval s = v) (h : Row w e k v n cs) (x : Value) (m : Nat) (xs : List Value) (hy : a.eval y = x) (hx : Sl w k x m xs) (h1 : ∀ u ∈ xs, u.oneCell' = true)
    (h63 : n + m ≤ maxLen) (hb : (n + m + (n + m) / 4 + 192) * by' ≤ 281474976710656)
    (hK : ∀ A' c' w', Row w' e k (.slice A' (n + m) c') (n + m) (cs ++ xs) → Fr (fun g => v.ownBlock = some g) w w' → Moved w v (.slice A' (n + m) c') → K' (a.put o.dst (.slice A' (n + m) c')) w') :
    if Region.wanted o (yielded ops a.tmps) = true then Oper.wp P o a w K' Q else K' (a.put o.dst undef) w := by
  rw [if_pos (by simp [Region.wanted, hgd])]
  obtain ⟨v', w', hr, h2, h3, h4⟩ := run_appendW (P := P) hT o.type h hx h1 h63 hb
  obtain ⟨A', c', rfl, _⟩ := h2.form
  unfold Oper.wp execOp
  simp only [ho, resolve, invoke, builtin, Sem.run_bind, Sem.run_pure, Result.andThen_ok, List.map_toArray, List.map_cons, List.map_nil, hs, hy, hr]
  exact hK A' c' w' h2 h3 h4

end

/-- An entry. -/
structure En where
  t : Int
  d : List UInt8
instance : Inhabited En := ⟨⟨0, []⟩⟩
/-- An entry and where its bytes lie. -/
structure EL where
  e : En
  A : Option Addr
  c : Nat
instance : Inhabited EL := ⟨⟨default, none, 0⟩⟩
def EL.bv (p : EL) : Value := .slice p.A p.e.d.length p.c
def EL.cells (p : EL) : List Value := [.int .i64 p.e.t, p.bv]
def elc (ps : List EL) : List Value := ps.flatMap EL.cells
theorem EL.cells_len (p : EL) : p.cells.length = 2 := rfl
theorem elc_at {ps : List EL} {i j : Nat} (hi : i < ps.length) (hj : j < 2) : (elc ps)[i * 2 + j]? = (ps.getD i default).cells[j]? := flat_at EL.cells_len hi hj
theorem elc_len (ps : List EL) : (elc ps).length = ps.length * 2 := flat_len EL.cells_len ps
theorem elc_one (ps : List EL) : ∀ u ∈ elc ps, u.oneCell' = true := by
  intro u hu
  obtain ⟨p, _, hp⟩ := List.mem_flatMap.1 hu
  simp [EL.cells, EL.bv] at hp
  rcases hp with rfl | rfl <;> rfl
theorem elc_app (a b : List EL) : elc (a ++ b) = elc a ++ elc b := by simp [elc]
theorem elc_take (ps : List EL) (i : Nat) : (elc ps).take (i * 2) = elc (ps.take i) := flat_take EL.cells_len ps i
theorem elc_drop (ps : List EL) (i : Nat) : (elc ps).drop (i * 2) = elc (ps.drop i) := flat_drop EL.cells_len ps i
/-- Its numbers and its length may be. -/
def EL.ok (p : EL) : Prop := -9223372036854775808 ≤ p.e.t ∧ p.e.t ≤ 9223372036854775807 ∧ p.e.d.length ≤ 140737488355328

/-- Its bytes can be read; they lie within F. -/
structure RdE (w : World) (F : Nat → Prop) (p : EL) : Prop where
  rd : Rd8 w p.A p.e.d
  ok : p.ok
  inF : ∀ ad, p.A = some ad → 0 < p.e.d.length → F ad.block
theorem RdE.fr {S F : Nat → Prop} {w w' : World} {p : EL} (h : RdE w F p) (hf : Fr S w w') (hS : ∀ k, F k → ¬ S k) : RdE w' F p :=
  ⟨h.rd.fr hf (fun ad e h0 => hS _ (h.inF ad e h0)), h.ok, h.inF⟩
/-- Entries that can be read at a slice; all lies within F. -/
structure Es (w : World) (A : Option Addr) (n : Nat) (ps : List EL) (F : Nat → Prop) : Prop where
  len : ps.length = n
  row : 0 < n → ∃ b off, A = some ⟨b, off, none⟩ ∧ F b ∧ ∀ j u, (elc ps)[j]? = some u → w.cell? ⟨b, off + j, none⟩ = some u
  each : ∀ p ∈ ps, RdE w F p
theorem Es.fr {S F : Nat → Prop} {w w' : World} {A : Option Addr} {n : Nat} {ps : List EL} (h : Es w A n ps F) (hf : Fr S w w') (hS : ∀ k, F k → ¬ S k) : Es w' A n ps F := by
  refine ⟨h.len, fun h0 => ?_, fun p hp => (h.each p hp).fr hf hS⟩
  obtain ⟨b, off, e, hb, hc⟩ := h.row h0
  exact ⟨b, off, e, hb, fun j u hu => by
    have h1 := hc j u hu
    rw [← h1]
    exact hf.cell (p := ⟨b, off + j, .none⟩) (World.block_lt_of_cell? w _ h1) (hS b hb)⟩
theorem Es.fr0 {F : Nat → Prop} {w w' : World} {A : Option Addr} {n : Nat} {ps : List EL} (h : Es w A n ps F) (hf : Fr (fun _ => False) w w') : Es w' A n ps F := h.fr hf (fun _ _ h => h)
theorem Es.at {F : Nat → Prop} {w : World} {A : Option Addr} {n : Nat} {ps : List EL} (h : Es w A n ps F) {i : Nat} (hi : i < n) :
    ∃ b off, A = some ⟨b, off, none⟩ ∧ w.cell? ⟨b, off + i * 2, none⟩ = some (.int .i64 (ps.getD i default).e.t) ∧ w.cell? ⟨b, off + i * 2 + 1, none⟩ = some (ps.getD i default).bv ∧ RdE w F (ps.getD i default) := by
  obtain ⟨b, off, e, _, hc⟩ := h.row (by omega)
  have hi' : i < ps.length := by rw [h.len]; exact hi
  exact ⟨b, off, e, by simpa using hc (i * 2 + 0) _ (elc_at hi' (by omega)), by simpa [Nat.add_assoc] using hc (i * 2 + 1) _ (elc_at hi' (by omega)), h.each _ (getD_mem hi')⟩
theorem Es.sl {F : Nat → Prop} {w : World} {A : Option Addr} {n c : Nat} {ps : List EL} (h : Es w A n ps F) : Sl w 2 (.slice A n c) n (elc ps) :=
  ⟨by rw [elc_len, h.len], A, c, rfl, fun h0 => by
    obtain ⟨b, off, e, _, hc⟩ := h.row h0
    exact ⟨b, off, e, hc⟩⟩
theorem Es.mono {F G : Nat → Prop} {w : World} {A : Option Addr} {n : Nat} {ps : List EL} (h : Es w A n ps F) (hG : ∀ k, F k → G k) : Es w A n ps G :=
  ⟨h.len, fun h0 => by obtain ⟨b, off, e, hb, hc⟩ := h.row h0; exact ⟨b, off, e, hG b hb, hc⟩, fun p hp => ⟨(h.each p hp).rd, (h.each p hp).ok, fun ad e h0 => hG _ ((h.each p hp).inF ad e h0)⟩⟩
theorem Es.nil (w : World) (A : Option Addr) (F : Nat → Prop) : Es w A 0 [] F := ⟨rfl, fun h => by omega, fun p hp => by cases hp⟩
/-- A piece from i on. -/
theorem Es.drop {F : Nat → Prop} {w : World} {b off n : Nat} {ps : List EL} (h : Es w (some ⟨b, off, none⟩) n ps F) (i : Nat) (hi : i ≤ n) : Es w (some ⟨b, off + i * 2, none⟩) (n - i) (ps.drop i) F := by
  refine ⟨by rw [List.length_drop, h.len], fun h0 => ?_, fun p hp => h.each p (List.mem_of_mem_drop hp)⟩
  obtain ⟨b', off', e, hb, hc⟩ := h.row (by omega)
  injection e with e
  injection e with e1 e2
  subst e1 e2
  refine ⟨_, _, rfl, hb, fun j u hu => ?_⟩
  rw [← elc_drop, List.getElem?_drop] at hu
  rw [Nat.add_assoc]
  exact hc _ _ hu
theorem Es.take {F : Nat → Prop} {w : World} {A : Option Addr} {n : Nat} {ps : List EL} (h : Es w A n ps F) (i : Nat) (hi : i ≤ n) : Es w A i (ps.take i) F := by
  refine ⟨by rw [List.length_take, h.len]; omega, fun h0 => ?_, fun p hp => h.each p (List.mem_of_mem_take hp)⟩
  obtain ⟨b', off', e, hb, hc⟩ := h.row (by omega)
  refine ⟨_, _, e, hb, fun j u hu => ?_⟩
  rw [← elc_take, List.getElem?_take] at hu
  split at hu
  · exact hc _ _ hu
  · cases hu

/-- Its bytes are its own. -/
structure OwE (w : World) (p : EL) : Prop where
  own : Own8 w 5 p.bv p.e.d
  ok : p.ok
theorem OwE.fr {S : Nat → Prop} {w w' : World} {p : EL} (h : OwE w p) (hf : Fr S w w') (hS : ∀ k, p.bv.ownBlock = some k → ¬ S k) : OwE w' p := ⟨h.own.fr hf hS, h.ok⟩
theorem OwE.rdE {w : World} {p : EL} (h : OwE w p) : RdE w (fun k => p.bv.ownBlock = some k) p :=
  ⟨h.own.rd, h.ok, fun ad e h0 => by unfold EL.bv; rw [e]; rfl⟩
/-- A row of entries of the call's own, of the type T. -/
structure OwnE (w : World) (T : TypeId) (v : Value) (ps : List EL) : Prop where
  row : Row w T 2 v ps.length (elc ps)
  each : ∀ p ∈ ps, OwE w p
def EB (v : Value) (ps : List EL) (k : Nat) : Prop := v.ownBlock = some k ∨ ∃ p ∈ ps, p.bv.ownBlock = some k
theorem OwnE.lt {w : World} {T : TypeId} {v : Value} {ps : List EL} (h : OwnE w T v ps) {k : Nat} (hk : EB v ps k) : k < w.heap.size := by
  rcases hk with e | ⟨p, hp, e⟩
  · exact h.row.lt e
  · exact (h.each p hp).own.lt e
theorem OwnE.fr {S : Nat → Prop} {w w' : World} {T : TypeId} {v : Value} {ps : List EL} (h : OwnE w T v ps) (hf : Fr S w w') (hS : ∀ k, EB v ps k → ¬ S k) : OwnE w' T v ps :=
  ⟨h.row.fr hf (fun k e => hS k (.inl e)), fun p hp => (h.each p hp).fr hf (fun k e => hS k (.inr ⟨p, hp, e⟩))⟩
theorem OwnE.fr0 {w w' : World} {T : TypeId} {v : Value} {ps : List EL} (h : OwnE w T v ps) (hf : Fr (fun _ => False) w w') : OwnE w' T v ps := h.fr hf (fun _ _ h => h)
theorem OwnE.nil (w : World) (T : TypeId) : OwnE w T (.slice none 0 0) [] := ⟨Row.nil _ _ _, fun p hp => by cases hp⟩
theorem OwnE.es {w : World} {T : TypeId} {A : Option Addr} {n c : Nat} {ps : List EL} (h : OwnE w T (.slice A n c) ps) : Es w A n ps (EB (.slice A n c) ps) := by
  have hl := h.row.len
  subst hl
  refine ⟨rfl, fun h0 => ?_, fun p hp => ?_⟩
  · obtain ⟨A', c', e, _, _, hA⟩ := h.row.form
    obtain ⟨b, off, rfl⟩ := hA h0
    injection e with e1 _ e3
    subst e1 e3
    exact ⟨b, off, rfl, .inl rfl, fun j u hu => h.row.cell hu⟩
  · have h1 := (h.each p hp).rdE
    exact ⟨h1.rd, h1.ok, fun ad e h0 => .inr ⟨p, hp, h1.inF ad e h0⟩⟩
/-- It is new since w. -/
def NewE (w w' : World) (T : TypeId) (v : Value) (ps : List EL) : Prop := OwnE w' T v ps ∧ Fr (fun _ => False) w w' ∧ ∀ k, EB v ps k → w.heap.size ≤ k
/-- What the row's block is turned into touches none of the bytes. -/
theorem OwnE.apart {w : World} {T : TypeId} {v : Value} {ps : List EL} (h : OwnE w T v ps) (hT : T ≠ 5) {p : EL} (hp : p ∈ ps) {k : Nat} (hk : v.ownBlock = some k) : p.bv.ownBlock ≠ some k := by
  obtain ⟨cur, hb⟩ := h.row.bk hk
  exact (h.each p hp).own.ne hb (fun e => hT e.symm)

/-- A log. -/
structure LG where
  ix : Nat
  tm : Int
  l : List En
def riseL : Int → List En → Bool
  | _, [] => true
  | t, e :: l => decide (t ≤ e.t) && riseL e.t l
def rise (t : Int) (l : List En) : Bool := riseL (max t 1) l
def LG.has (s : LG) (i : Int) : Bool := decide ((s.ix : Int) < i) && decide (i ≤ (s.ix : Int) + (s.l.length : Int))
def LG.en (s : LG) (i : Int) : En := s.l.getD (i - s.ix - 1).toNat default
def LG.term (s : LG) (i : Int) : Int := if i = s.ix then s.tm else if s.has i then (s.en i).t else 0
def LG.is (s : LG) (i : Int) : Bool := decide (i = s.ix) || s.has i
def LG.lastI (s : LG) : Int := (s.ix : Int) + (s.l.length : Int)
def LG.lastT (s : LG) : Int := s.term s.lastI
def LG.mat (s : LG) (i t : Int) : Bool := s.is i && decide (s.term i = t)
def LG.newer (s : LG) (i t : Int) : Bool := decide (s.lastT < t) || (decide (t = s.lastT) && decide (s.lastI ≤ i))
def LG.lo (s : LG) (f : Int) : Nat := (f - s.ix - 1).toNat
def LG.get (s : LG) (f p : Int) : List En := (s.l.take (s.lo p)).drop (s.lo f)
def LG.add (s : LG) (l : List En) : LG := ⟨s.ix, s.tm, s.l ++ l⟩
def LG.like (s : LG) : Int → List En → Nat
  | _, [] => 0
  | i, e :: r => if s.mat (i + 1) e.t then LG.like s (i + 1) r + 1 else 0
def LG.mok (s : LG) (i : Int) (l : List En) : Bool := s.is i && rise (s.term i) l
/-- Where a merge begins to lay (if it does). -/
def LG.mfrom (s : LG) (i : Int) (l : List En) : Int := i + 1 + (s.like i l : Int)
def LG.merge (s : LG) (i : Int) (l : List En) : LG := if s.mok i l && decide (s.like i l < l.length) then ⟨s.ix, s.tm, s.l.take (s.lo (s.mfrom i l)) ++ l.drop (s.like i l)⟩ else s
def LG.comp (s : LG) (i : Int) : LG := if s.has i then ⟨i.toNat, s.term i, s.l.drop (i - s.ix).toNat⟩ else s
def begins (i t : Int) : Bool := decide (0 ≤ i) && decide (0 ≤ t) && (decide (i = 0) == decide (t = 0))
def LG.rest (s : LG) (i t : Int) : LG := if begins i t then (if s.mat i t then s.comp i else ⟨i.toNat, t, []⟩) else s
/-- The least number of those that end at ix + k and all have that term. -/
def LG.back (s : LG) (t : Int) : Nat → Nat
  | 0 => 0
  | 1 => 1
  | k + 2 => if (s.l.getD k default).t = t then LG.back s t (k + 1) else k + 2
def LG.hintT (s : LG) (i : Int) : Int := if s.has i then s.term i else 0
def LG.hintI (s : LG) (i : Int) : Int := if s.has i then (s.ix : Int) + (s.back (s.term i) (i - s.ix).toNat : Int) else if i ≤ s.ix then (s.ix : Int) + 1 else s.lastI + 1
/-- Numbers that may be. -/
structure LG.ok (s : LG) : Prop where
  i1 : s.ix + s.l.length ≤ 20000000000000
  l1 : s.l.length ≤ 5000000000000

/-- A log at block g; TL, TE: its type, and that of its entries. -/
structure LogM (TL TE : TypeId) (w : World) (g : Nat) (s : LG) (v : Value) (ps : List EL) : Prop where
  ok : s.ok
  blk : Bk w g TL #[.int .i64 (s.ix : Int), .int .i64 s.tm, v]
  own : OwnE w TE v ps
  l : s.l = ps.map EL.e
def LB (g : Nat) (v : Value) (ps : List EL) (k : Nat) : Prop := k = g ∨ EB v ps k
section
variable {TL TE : TypeId}
theorem LogM.lt {w : World} {g : Nat} {s : LG} {v : Value} {ps : List EL} (h : LogM TL TE w g s v ps) {k : Nat} (hk : LB g v ps k) : k < w.heap.size := by
  rcases hk with rfl | e
  · exact h.blk.lt
  · exact h.own.lt e
theorem LogM.fr {S : Nat → Prop} {w w' : World} {g : Nat} {s : LG} {v : Value} {ps : List EL} (h : LogM TL TE w g s v ps) (hf : Fr S w w') (hS : ∀ k, LB g v ps k → ¬ S k) : LogM TL TE w' g s v ps :=
  ⟨h.ok, h.blk.fr hf (hS _ (.inl rfl)), h.own.fr hf (fun k e => hS k (.inr e)), h.l⟩
theorem LogM.fr0 {w w' : World} {g : Nat} {s : LG} {v : Value} {ps : List EL} (h : LogM TL TE w g s v ps) (hf : Fr (fun _ => False) w w') : LogM TL TE w' g s v ps := h.fr hf (fun _ _ h => h)
theorem LogM.ll {w : World} {g : Nat} {s : LG} {v : Value} {ps : List EL} (h : LogM TL TE w g s v ps) : ps.length = s.l.length := by rw [h.l]; simp
theorem LogM.form {w : World} {g : Nat} {s : LG} {v : Value} {ps : List EL} (h : LogM TL TE w g s v ps) : ∃ A c, v = .slice A s.l.length c ∧ s.l.length ≤ c ∧ c ≤ maxLen ∧ (0 < s.l.length → ∃ b off, A = some ⟨b, off, none⟩) := by
  rw [← h.ll]; exact h.own.row.form
theorem LogM.c0 {w : World} {g : Nat} {s : LG} {v : Value} {ps : List EL} (h : LogM TL TE w g s v ps) : w.cell? ⟨g, 0, none⟩ = some (.int .i64 (s.ix : Int)) := h.blk.cell 0
theorem LogM.c1 {w : World} {g : Nat} {s : LG} {v : Value} {ps : List EL} (h : LogM TL TE w g s v ps) : w.cell? ⟨g, 1, none⟩ = some (.int .i64 s.tm) := h.blk.cell 1
theorem LogM.c2 {w : World} {g : Nat} {s : LG} {v : Value} {ps : List EL} (h : LogM TL TE w g s v ps) : w.cell? ⟨g, 2, none⟩ = some v := h.blk.cell 2
theorem LogM.en {w : World} {g : Nat} {s : LG} {v : Value} {ps : List EL} (h : LogM TL TE w g s v ps) {i : Nat} (hi : i < s.l.length) : s.l.getD i default = (ps.getD i default).e := by
  rw [h.l, getD_map EL.e (by rw [h.ll]; exact hi)]
theorem LogM.ec {w : World} {g : Nat} {s : LG} {b off c n : Nat} {ps : List EL} (h : LogM TL TE w g s (.slice (some ⟨b, off, none⟩) n c) ps) {i : Nat} (hi : i < s.l.length) :
    w.cell? ⟨b, off + i * 2, none⟩ = some (.int .i64 (s.l.getD i default).t) := by
  obtain ⟨b', off', e, h0, _⟩ := h.own.es.at (i := i) (by rw [h.own.row.len, h.ll]; exact hi)
  injection e with e
  injection e with e1 e2
  subst e1 e2
  rw [h0, h.en hi]
/-- A log at block g within the blocks F. -/
def Lg (TL TE : TypeId) (w : World) (g : Nat) (s : LG) (F : Nat → Prop) : Prop := ∃ v ps, LogM TL TE w g s v ps ∧ (∀ k, LB g v ps k → F k) ∧ ∀ k, F k → k < w.heap.size
theorem Lg.fr {S F : Nat → Prop} {w w' : World} {g : Nat} {s : LG} (h : Lg TL TE w g s F) (hf : Fr S w w') (hS : ∀ k, F k → ¬ S k) : Lg TL TE w' g s F := by
  obtain ⟨v, ps, h1, h2, h3⟩ := h
  exact ⟨v, ps, h1.fr hf (fun k hk => hS k (h2 k hk)), h2, fun k hk => Nat.lt_of_lt_of_le (h3 k hk) hf.size⟩
theorem Lg.fr0 {F : Nat → Prop} {w w' : World} {g : Nat} {s : LG} (h : Lg TL TE w g s F) (hf : Fr (fun _ => False) w w') : Lg TL TE w' g s F := h.fr hf (fun _ _ h => h)
theorem Lg.lt {F : Nat → Prop} {w : World} {g : Nat} {s : LG} (h : Lg TL TE w g s F) {k : Nat} (hk : F k) : k < w.heap.size := by
  obtain ⟨_, _, _, _, h3⟩ := h
  exact h3 k hk
theorem Lg.ok {F : Nat → Prop} {w : World} {g : Nat} {s : LG} (h : Lg TL TE w g s F) : s.ok := by
  obtain ⟨_, _, h1, _⟩ := h
  exact h1.ok
/-- From a log to that log later. -/
def LgTo (TL TE : TypeId) (w : World) (g : Nat) (F : Nat → Prop) (w' : World) (s' : LG) : Prop := ∃ F', Lg TL TE w' g s' F' ∧ Fr F w w' ∧ ∀ k, F' k → F k ∨ w.heap.size ≤ k
theorem LogM.to {w w' : World} {g : Nat} {F : Nat → Prop} {s' : LG} {v' : Value} {ps' : List EL} (h : LogM TL TE w' g s' v' ps') (hB : ∀ k, LB g v' ps' k → F k ∨ w.heap.size ≤ k) (hf : Fr F w w') : LgTo TL TE w g F w' s' :=
  ⟨LB g v' ps', ⟨v', ps', h, fun _ hk => hk, fun _ hk => h.lt hk⟩, hf, hB⟩
end

theorem Try.teE : TE Try.prog 22 51 2 32 (.agg #[.int .i64 0, .slice none 0 0]) := ⟨Try.underlying22, by kernel_rfl, rfl, by omega⟩
theorem Try.teR : TE Try.prog 33 68 2 32 (.agg #[.int .i64 0, .slice none 0 0]) := ⟨Try.underlying33, by kernel_rfl, rfl, by omega⟩
theorem Try.info8n : (Try.prog.info? 5).map (fun i => (i.zero, i.size, i.bytes)) = some (some (.int .u8 0), 1, 1) := by kernel_rfl
theorem Try.t8n : T8 Try.prog 49 5 := by
  obtain ⟨i0, hi, hz0, hz1, hz2⟩ := info_parts Try.info8n
  exact ⟨Try.underlying49, i0, hi, hz0, hz1, hz2⟩
end Go.Proofs.Ytainkckcipdknaa
