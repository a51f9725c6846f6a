/- Rows of structs at any place of a block that is known whole: append, copy, clear. -/
import Derived.Test.YtkinbcmnfpkncaaMem
import Derived.Test.YtkinbcmnfpkncaaChecked
import Derived.Laws.IdiomCopy
import Derived.Deep.Upon
import Derived.Lib.AppendZerosOnto
import Derived.Lib.SliceRun
namespace Go.Proofs.Ytkinbcmnfpkncaa
open Go.RowKit

/-- Cells laid over a block's from a place on. -/
def lay : Array Value → Nat → List Value → Array Value
  | cur, _, [] => cur
  | cur, o, v :: r => lay (cur.setIfInBounds o v) (o + 1) r
theorem lay_nil (cur : Array Value) (o : Nat) : lay cur o [] = cur := rfl
theorem lay_size : ∀ (cs : List Value) (cur : Array Value) (o : Nat), (lay cur o cs).size = cur.size
  | [], _, _ => rfl
  | v :: r, cur, o => by unfold lay; rw [lay_size r]; simp
theorem lay_out : ∀ (cs : List Value) (cur : Array Value) (o x : Nat), (x < o ∨ o + cs.length ≤ x) → (lay cur o cs)[x]? = cur[x]?
  | [], _, _, _, _ => rfl
  | v :: r, cur, o, x, h => by
    unfold lay
    simp only [List.length_cons] at h
    rw [lay_out r _ (o + 1) x (by omega), Array.getElem?_setIfInBounds_ne (by omega)]
theorem lay_in : ∀ (cs : List Value) (cur : Array Value) (o j : Nat), j < cs.length → o + cs.length ≤ cur.size → (lay cur o cs)[o + j]? = cs[j]?
  | [], _, _, _, h, _ => by simp at h
  | v :: r, cur, o, 0, _, hb => by
    unfold lay
    simp only [List.length_cons] at hb
    rw [lay_out r _ (o + 1) (o + 0) (by omega), Nat.add_zero, Array.getElem?_setIfInBounds_self_of_lt (by omega)]
    rfl
  | v :: r, cur, o, j + 1, h, hb => by
    unfold lay
    simp only [List.length_cons] at h hb
    have := lay_in r (cur.setIfInBounds o v) (o + 1) j (by omega) (by simp; omega)
    rw [show o + (j + 1) = o + 1 + j by omega, this]
    simp
theorem Bk.setCells {g : Nat} {t : TypeId} : ∀ (cs : List Value) {w : World} {cur : Array Value} (o : Nat), Bk w g t cur → Bk (w.setCells g o cs) g t (lay cur o cs)
  | [], _, _, _, h => h
  | v :: r, _, _, o, h => Bk.setCells r (o + 1) (h.set o v)
theorem Fr.setCells {g : Nat} {S : Nat → Prop} : ∀ (cs : List Value) {a w : World} (o : Nat), Fr S a w → (g < a.heap.size → S g) → Fr S a (w.setCells g o cs)
  | [], _, _, _, h, _ => h
  | v :: r, _, _, o, h, hs => Fr.setCells r (o + 1) (Fr.setCell (p := ⟨g, o, none⟩) h hs v) hs
theorem Bk.there {w : World} {g : Nat} {t : TypeId} {cs : Array Value} (h : Bk w g t cs) {i : Nat} (hi : i < cs.size) : (w.cell? ⟨g, i, none⟩).isSome = true := by
  rw [h.cell i, Array.getElem?_eq_getElem hi]; rfl

/-- n elements of k cells each, of type T, are at v. -/
def Row (w : World) (T : TypeId) (k : Nat) (v : Value) (n : Nat) (cs : List Value) : Prop :=
  cs.length = n * k ∧ ((v = .slice none 0 0 ∧ n = 0) ∨ ∃ b off cap cur, v = .slice (some ⟨b, off, none⟩) n cap ∧ Bk w b T cur ∧ n ≤ cap ∧ cap ≤ maxLen ∧ off + cap * k ≤ cur.size ∧ ∀ j, j < cs.length → cur[off + j]? = cs[j]?)
theorem Row.nil (w : World) (T : TypeId) (k : Nat) : Row w T k (.slice none 0 0) 0 [] := ⟨by simp, .inl ⟨rfl, rfl⟩⟩
theorem Row.bk {w : World} {T : TypeId} {k n : Nat} {v : Value} {cs : List Value} (h : Row w T k v n cs) {g : Nat} (hg : v.ownBlock = some g) : ∃ cur, Bk w g T cur := by
  rcases h.2 with ⟨rfl, _⟩ | ⟨b, off, cap, cur, rfl, hb, _⟩
  · simp [Value.ownBlock] at hg
  · have : b = g := by simpa [Value.ownBlock] using hg
    subst this; exact ⟨cur, hb⟩
theorem Row.lt {w : World} {T : TypeId} {k n : Nat} {v : Value} {cs : List Value} (h : Row w T k v n cs) {g : Nat} (hg : v.ownBlock = some g) : g < w.heap.size := by
  obtain ⟨cur, hb⟩ := h.bk hg
  exact hb.lt
theorem Row.fr {S : Nat → Prop} {w w' : World} {T : TypeId} {k n : Nat} {v : Value} {cs : List Value} (h : Row w T k v n cs) (hf : Fr S w w') (hS : ∀ g, v.ownBlock = some g → ¬ S g) : Row w' T k v n cs := by
  refine ⟨h.1, ?_⟩
  rcases h.2 with hn | ⟨b, off, cap, cur, rfl, hb, rest⟩
  · exact .inl hn
  · exact .inr ⟨b, off, cap, cur, rfl, hb.fr hf (hS b rfl), rest⟩
theorem Row.fr0 {w w' : World} {T : TypeId} {k n : Nat} {v : Value} {cs : List Value} (h : Row w T k v n cs) (hf : Fr (fun _ => False) w w') : Row w' T k v n cs := h.fr hf (fun _ _ h => h)
theorem Row.ne {w : World} {T t : TypeId} {k n : Nat} {v : Value} {cs : List Value} {g : Nat} {c : Array Value} (h : Row w T k v n cs) (hg : Bk w g t c) (hne : T ≠ t) : v.ownBlock ≠ some g := fun e => by
  obtain ⟨cur, hb⟩ := h.bk e
  exact Bk.ne hb hg hne rfl
theorem Row.form {w : World} {T : TypeId} {k n : Nat} {v : Value} {cs : List Value} (h : Row w T k v n cs) : ∃ A c, v = .slice A n c ∧ n ≤ c ∧ c ≤ maxLen ∧ (0 < n → ∃ b off, A = some ⟨b, off, none⟩) := by
  rcases h.2 with ⟨rfl, h0⟩ | ⟨b, off, cap, cur, rfl, _, h1, h2, _⟩
  · exact ⟨none, 0, by rw [h0], by omega, by unfold maxLen; omega, fun h => by omega⟩
  · exact ⟨_, cap, rfl, h1, h2, fun _ => ⟨b, off, rfl⟩⟩
theorem Row.cell {w : World} {T : TypeId} {k n m c b off : Nat} {cs : List Value} (h : Row w T k (.slice (some ⟨b, off, none⟩) m c) n cs) {j : Nat} {u : Value} (hj : cs[j]? = some u) : w.cell? ⟨b, off + j, none⟩ = some u := by
  rcases h.2 with ⟨e, _⟩ | ⟨b', off', cap, cur, e, hb, _, _, _, hc⟩
  · cases e
  · injection e with e1 e2 e3
    injection e1 with e1
    injection e1 with e1 e4
    subst e1 e4
    rw [hb.cell, hc j (List.getElem?_eq_some_iff.1 hj).1, hj]
theorem Row.len {w : World} {T : TypeId} {k n m c : Nat} {A : Option Addr} {cs : List Value} (h : Row w T k (.slice A m c) n cs) : m = n := by
  obtain ⟨A', c', e, _⟩ := h.form
  injection e

/-- n elements of k cells each, wherever they are: what reads alone. -/
def Sl (w : World) (k : Nat) (x : Value) (n : Nat) (cs : List Value) : Prop :=
  cs.length = n * k ∧ ∃ A c, x = .slice A n c ∧ (0 < n → ∃ b off, A = some ⟨b, off, none⟩ ∧ ∀ j u, cs[j]? = some u → w.cell? ⟨b, off + j, none⟩ = some u)
theorem Row.sl {w : World} {T : TypeId} {k n : Nat} {v : Value} {cs : List Value} (h : Row w T k v n cs) : Sl w k v n cs := by
  obtain ⟨A, c, rfl, _, _, hA⟩ := h.form
  refine ⟨h.1, A, c, rfl, fun h0 => ?_⟩
  obtain ⟨b, off, rfl⟩ := hA h0
  exact ⟨b, off, rfl, fun j u hu => h.cell hu⟩
theorem Sl.at {w : World} {k n b off m c : Nat} {cs : List Value} (hm : m = n) (hl : cs.length = n * k) (hc : ∀ j u, cs[j]? = some u → w.cell? ⟨b, off + j, none⟩ = some u) : Sl w k (.slice (some ⟨b, off, none⟩) m c) n cs :=
  ⟨hl, _, c, by rw [hm], fun _ => ⟨b, off, rfl, hc⟩⟩
theorem Sl.none {w : World} {k : Nat} {A : Option Addr} {c : Nat} : Sl w k (.slice A 0 c) 0 [] := ⟨by simp, A, c, rfl, fun h => by omega⟩
theorem Sl.fr {S : Nat → Prop} {w w' : World} {k n : Nat} {x : Value} {cs : List Value} (h : Sl w k x n cs) (hk : 0 < k) (hf : Fr S w w') (hS : ∀ g, x.ownBlock = some g → ¬ S g) : Sl w' k x n cs := by
  obtain ⟨hl, A, c, rfl, hA⟩ := h
  refine ⟨hl, A, c, rfl, fun h0 => ?_⟩
  obtain ⟨b, off, rfl, hc⟩ := hA h0
  exact ⟨b, off, rfl, fun j u hu => by
    have h1 := hc j u hu
    rw [← h1]
    exact hf.cell (p := ⟨b, off + j, .none⟩) (World.block_lt_of_cell? w _ h1) (hS b rfl)⟩
theorem Sl.src {P : Program} {w : World} {k n : Nat} {x : Value} {cs : List Value} (h : Sl w k x n cs) {tx e : TypeId} (hk : P.underlying tx = some (.slice e)) (h1 : ∀ u ∈ cs, u.oneCell' = true) : Src P k tx x n cs w := by
  obtain ⟨hl, A, c, rfl, hA⟩ := h
  by_cases h0 : 0 < n
  · obtain ⟨b, off, rfl, hc⟩ := hA h0
    exact Src.ofSlice w hk ⟨b, off, .none⟩ n c cs hl (fun j u hu => by rw [add_at]; exact hc j u hu) h1
  · obtain rfl : n = 0 := by omega
    have hl0 : cs = [] := List.eq_nil_of_length_eq_zero (by simpa using hl)
    subst hl0
    rcases A with _ | a
    · exact Src.ofNil w hk c
    · exact Src.ofSlice w hk a 0 c [] (by simp) (fun j u hu => by simp at hu) (fun u hu => by simp at hu)

/-- What the laws ask of the element type e, its slice t, k cells each. -/
structure TE (P : Program) (t e : TypeId) (k by' : Nat) (z : Value) : Prop where
  sl : P.underlying t = some (.slice e)
  info : (P.info? e).map (fun i => (i.zero, i.size, i.bytes)) = some (some z, k, by')
  zs : z.cells.size = k
  k0 : 0 < k

section
variable {P : Program} {w : World}

theorem run_appendR {t e : TypeId} {k by' : Nat} {z : Value} (hT : TE P t e k by' z) (ty : TypeId) {v : Value} {n : Nat} {cs : List Value} (h : Row w e k v n cs) {x : Value} {m : Nat} {xs : List Value} (hx : Sl w k x m xs) (h1 : ∀ u ∈ xs, u.oneCell' = true)
    (h63 : n + m ≤ maxLen) (hb : (n + m) * by' ≤ 140737488355328) :
    ∃ v' w', (Builtin.append_ #[t, t] ty #[v, x]).run P w = .ok v' w' ∧ Row w' e k v' (n + m) (cs ++ xs) ∧ Fr (fun g => v.ownBlock = some g) w w' ∧ Moved w v v' := by
  obtain ⟨i, hi, hz, hsz, hby⟩ := info_parts hT.info
  subst hsz
  subst hby
  have hs := hx.src hT.sl h1
  have hlen : (cs ++ xs).length = (n + m) * i.size := by rw [List.length_append, h.1, hx.1, Nat.add_mul]
  have h63' : ((n + m : Nat) : Int) ≤ 9223372036854775807 := by simp only [maxLen] at h63; omega
  have grown : ∀ (base : Option Addr) (old : Nat), old < n + m →
      (Builtin.firstCells i.size n (.slice base n old)).run P w.drew = .ok cs.toArray w.drew →
      ∃ v' w', (Builtin.append_ #[t, t] ty #[.slice base n old, x]).run P w = .ok v' w' ∧ Row w' e i.size v' (n + m) (cs ++ xs) ∧ Fr (fun g => (Value.slice base n old).ownBlock = some g) w w' ∧ Moved w (.slice base n old) v' := by
    intro base old ho hold
    have hr := run_append_grow_src (P := P) w t t ty e i z hT.sl hi hz base n old cs hold x m xs hs ho h63' (growslice_fits ho hb)
    have hge := grownCap_ge w (n + m) old e
    have hcm := grownCap_le_maxLen w (n + m) old e h63
    refine ⟨_, _, hr, ⟨hlen, .inr ⟨w.heap.size, 0, _, _, rfl, Bk.new _ _ _, hge, hcm, ?_, fun j hj => ?_⟩⟩, (Fr.refl _ _).drew.alloc _, .inr ⟨w.heap.size, rfl, Nat.le_refl _⟩⟩
    · simp only [Array.size_append, List.size_toArray, size_zeroCells, hT.zs, hlen, ← Nat.add_mul, Nat.zero_add]
      have : n + m + (grownCap w (n + m) old e - (n + m)) = grownCap w (n + m) old e := by omega
      rw [this]; exact Nat.le_refl _
    · rw [Nat.zero_add, Array.getElem?_append_left (by simpa using hj)]
      simp
  rcases h.2 with ⟨rfl, rfl⟩ | ⟨b, off, cap, cur, rfl, hbk, hnc, hcm, hsz, hc⟩
  · have hcs : cs = [] := List.eq_nil_of_length_eq_zero (by simpa using h.1)
    subst hcs
    by_cases hm : m = 0
    · subst hm
      have hx0 : xs = [] := List.eq_nil_of_length_eq_zero (by simpa using hx.1)
      subst hx0
      exact ⟨_, w, run_append_nothing w t t ty e i hT.sl hi none 0 0 (Nat.le_refl _) x hs, Row.nil _ _ _, Fr.refl _ _, Moved.refl _ _⟩
    · exact grown none 0 (by omega) (by simp [Builtin.firstCells])
  · by_cases hroom : n + m ≤ cap
    · have hfit : n * i.size + m * i.size ≤ cap * i.size := by rw [← Nat.add_mul]; exact Nat.mul_le_mul_right _ hroom
      have hxl := hx.1
      have hr := run_append_room_src (P := P) w t t ty e i hT.sl hi b off n cap x m xs hs hroom (fun j hj => hbk.there (by omega)) (fun j hj => hbk.frozen _)
      refine ⟨_, _, hr, ⟨hlen, .inr ⟨b, off, cap, _, rfl, hbk.setCells xs _, hroom, hcm, by rw [lay_size]; exact hsz, fun j hj => ?_⟩⟩, Fr.setCells xs _ (Fr.refl _ _) (fun _ => rfl), .inl rfl⟩
      have hl0 := h.1
      by_cases hj0 : j < cs.length
      · rw [lay_out _ _ _ _ (.inl (by omega)), hc j hj0, List.getElem?_append_left hj0]
      · rw [List.length_append] at hj
        rw [List.getElem?_append_right (by omega), ← lay_in xs cur (off + n * i.size) (j - cs.length) (by omega) (by omega)]
        congr 1; omega
    · refine grown (some ⟨b, off, none⟩) cap (by omega) ?_
      exact run_firstCells_some (P := P) w.drew i.size n ⟨b, off, none⟩ n cap cs h.1 (fun j u hu => by
        rw [add_at]
        show w.cell? _ = _
        rw [hbk.cell, hc j (List.getElem?_eq_some_iff.1 hu).1, hu])

theorem wpList_appendR {t e : TypeId} {k by' : Nat} {z : Value} (hT : TE P t e k by' z) {ops : Array Oper} {rest : List Oper} {o : Oper} {a : Go.Act} {Q : Exit → Go.Act → World → Prop} (hgd : o.guard = none) (s y : Operand)
    (ho : o.op = .call { callee := .builtin .append, args := #[s, y], argTypes := #[t, t] })
    (v : Value) (n : Nat) (cs : List Value) (hs : a.eval s = v) (h : Row w e k v n cs) (x : Value) (m : Nat) (xs : List Value) (hy : a.eval y = x) (hx : Sl w k x m xs) (h1 : ∀ u ∈ xs, u.oneCell' = true)
    (h63 : n + m ≤ maxLen) (hb : (n + m) * by' ≤ 140737488355328)
    (hK : ∀ A' c' w', Row w' e k (.slice A' (n + m) c') (n + m) (cs ++ xs) → Fr (fun g => v.ownBlock = some g) w w' → Moved w v (.slice A' (n + m) c') → wpList P ops Q rest (a.put o.dst (.slice A' (n + m) c')) w') :
    wpList P ops Q (o :: rest) a w := by
  refine wpList_plain hgd fun K hK' => ?_
  obtain ⟨v', w', hr, h2, h3, h4⟩ := run_appendR (P := P) hT o.type h hx h1 h63 hb
  obtain ⟨A', c', rfl, _⟩ := h2.form
  unfold Oper.wp execOp
  simp only [ho, resolve, invoke, builtin, Sem.run_bind, Sem.run_pure, Result.andThen_ok, List.map_toArray, List.map_cons, List.map_nil, hs, hy, hr]
  exact hK' _ _ (hK A' c' w' h2 h3 h4)
theorem stepOf_appendR {t e : TypeId} {k by' : Nat} {z : Value} (hT : TE P t e k by' z) {ops : Array Oper} {o : Oper} {a : Go.Act} {K' : Go.Act → World → Prop} {Q : Exit → Go.Act → World → Prop} (hgd : o.guard = none) (s y : Operand)
    (ho : o.op = .call { callee := .builtin .append, args := #[s, y], argTypes := #[t, t] })
    (v : Value) (n : Nat) (cs : List Value) (hs : a.eval s = v) (h : Row w e k v n cs) (x : Value) (m : Nat) (xs : List Value) (hy : a.eval y = x) (hx : Sl w k x m xs) (h1 : ∀ u ∈ xs, u.oneCell' = true)
    (h63 : n + m ≤ maxLen) (hb : (n + m) * by' ≤ 140737488355328)
    (hK : ∀ A' c' w', Row w' e k (.slice A' (n + m) c') (n + m) (cs ++ xs) → Fr (fun g => v.ownBlock = some g) w w' → Moved w v (.slice A' (n + m) c') → K' (a.put o.dst (.slice A' (n + m) c')) w') :
    if Region.wanted o (yielded ops a.tmps) = true then Oper.wp P o a w K' Q else K' (a.put o.dst undef) w := by
  rw [if_pos (by simp [Region.wanted, hgd])]
  obtain ⟨v', w', hr, h2, h3, h4⟩ := run_appendR (P := P) hT o.type h hx h1 h63 hb
  obtain ⟨A', c', rfl, _⟩ := h2.form
  unfold Oper.wp execOp
  simp only [ho, resolve, invoke, builtin, Sem.run_bind, Sem.run_pure, Result.andThen_ok, List.map_toArray, List.map_cons, List.map_nil, hs, hy, hr]
  exact hK A' c' w' h2 h3 h4

theorem run_copyR {t e : TypeId} {k by' : Nat} {z : Value} (hT : TE P t e k by' z) (ty : TypeId) {b off d dc : Nat} {cur : Array Value} (hbk : Bk w b e cur) {m sl sc : Nat} {A : Option Addr} {xs : List Value} (hm : m = Nat.min sl d)
    (hx : xs.length = m * k) (hc : 0 < m → ∃ b' o', A = some ⟨b', o', none⟩ ∧ ∀ j u, xs[j]? = some u → w.cell? ⟨b', o' + j, none⟩ = some u) (h1 : ∀ u ∈ xs, u.oneCell' = true) (hfit : off + m * k ≤ cur.size) :
    (Builtin.copy_ #[t, t] ty #[.slice (some ⟨b, off, none⟩) d dc, .slice A sl sc]).run P w = .ok (goInt m) (w.setCells b off xs) := by
  obtain ⟨i, hi, hz, hsz, hby⟩ := info_parts hT.info
  subst hsz
  have hst := run_storeCells_cells (P := P) b off xs 0 w (fun j hj => hbk.there (by omega)) (fun j hj => hbk.frozen _) h1
  simp only [Nat.add_zero] at hst
  have hf : (Builtin.firstCells i.size m (.slice A sl sc)).run P w = .ok xs.toArray w := by
    by_cases h0 : 0 < m
    · obtain ⟨b', o', rfl, hc'⟩ := hc h0
      exact run_firstCells_some (P := P) w i.size m ⟨b', o', none⟩ sl sc xs hx (fun j u hu => by rw [add_at]; exact hc' j u hu)
    · obtain rfl : m = 0 := by omega
      have hx0 : xs = [] := List.eq_nil_of_length_eq_zero (by simpa using hx)
      subst hx0
      rcases A with _ | a
      · simp [Builtin.firstCells]
      · exact run_firstCells_some (P := P) w i.size 0 a sl sc [] (by simp) (fun j u hu => by simp at hu)
  simp [Builtin.copy_, run_underlying hT.sl, Builtin.lenOf, sizeOf, typeInfo, hi, ← hm, hf, hst]

theorem wpList_copyR {t e : TypeId} {k by' : Nat} {z : Value} (hT : TE P t e k by' z) {ops : Array Oper} {rest : List Oper} {o : Oper} {a : Go.Act} {Q : Exit → Go.Act → World → Prop} (hgd : o.guard = none) (d s : Operand)
    (ho : o.op = .call { callee := .builtin .copy, args := #[d, s], argTypes := #[t, t] }) {b off dl dc : Nat} {cur : Array Value} (hbk : Bk w b e cur) (hd : a.eval d = .slice (some ⟨b, off, none⟩) dl dc) {m sl sc : Nat} {A : Option Addr} (hs : a.eval s = .slice A sl sc) (xs : List Value) (hm : m = Nat.min sl dl)
    (hx : xs.length = m * k) (hc : 0 < m → ∃ b' o', A = some ⟨b', o', none⟩ ∧ ∀ j u, xs[j]? = some u → w.cell? ⟨b', o' + j, none⟩ = some u) (h1 : ∀ u ∈ xs, u.oneCell' = true) (hfit : off + m * k ≤ cur.size)
    (hK : wpList P ops Q rest (a.put o.dst (goInt m)) (w.setCells b off xs)) : wpList P ops Q (o :: rest) a w := by
  refine wpList_plain hgd fun K hK' => ?_
  have hr := run_copyR (P := P) hT o.type hbk (dc := dc) (sc := sc) hm hx hc h1 hfit
  unfold Oper.wp execOp
  simp only [ho, resolve, invoke, builtin, Sem.run_bind, Sem.run_pure, Result.andThen_ok, List.map_toArray, List.map_cons, List.map_nil, hd, hs, hr]
  exact hK' _ _ hK
theorem stepOf_copyR {t e : TypeId} {k by' : Nat} {z : Value} (hT : TE P t e k by' z) {ops : Array Oper} {o : Oper} {a : Go.Act} {K' : Go.Act → World → Prop} {Q : Exit → Go.Act → World → Prop} {E : Prop} (hgd : o.guard = none) (d s : Operand)
    (ho : o.op = .call { callee := .builtin .copy, args := #[d, s], argTypes := #[t, t] }) {b off dl dc : Nat} {cur : Array Value} (hbk : Bk w b e cur) (hd : a.eval d = .slice (some ⟨b, off, none⟩) dl dc) {m sl sc : Nat} {A : Option Addr} (hs : a.eval s = .slice A sl sc) (xs : List Value) (hm : m = Nat.min sl dl)
    (hx : xs.length = m * k) (hc : 0 < m → ∃ b' o', A = some ⟨b', o', none⟩ ∧ ∀ j u, xs[j]? = some u → w.cell? ⟨b', o' + j, none⟩ = some u) (h1 : ∀ u ∈ xs, u.oneCell' = true) (hfit : off + m * k ≤ cur.size)
    (hK : K' (a.put o.dst (goInt m)) (w.setCells b off xs)) : if Region.wanted o (yielded ops a.tmps) = true then Oper.wp P o a w K' Q else E := by
  rw [if_pos (by simp [Region.wanted, hgd])]
  have hr := run_copyR (P := P) hT o.type hbk (dc := dc) (sc := sc) hm hx hc h1 hfit
  unfold Oper.wp execOp
  simp only [ho, resolve, invoke, builtin, Sem.run_bind, Sem.run_pure, Result.andThen_ok, List.map_toArray, List.map_cons, List.map_nil, hd, hs, hr]
  exact hK
end
end Go.Proofs.Ytkinbcmnfpkncaa
