/- A table of answers as plain data: what Put, Look and Top make of it. -/
import Derived.Test.YtkinbcmnfpkncaaMem
namespace Go.Proofs.Ytkinbcmnfpkncaa

/-! ### rising rows of ints -/
/-- Where a number stands, or would. -/
def posR (r : List Int) (s : Int) : Nat := r.countP (· < s)
def insS (r : List Int) (s : Int) : List Int := r.take (posR r s) ++ s :: r.drop (posR r s)
def cutR (r : List Int) (l : Int) : List Int := r.drop (posR r l)
def topR (r : List Int) : Int := r.getLast?.getD 0
abbrev Rise (r : List Int) : Prop := r.Pairwise (· < ·)

theorem posR_le (r : List Int) (s : Int) : posR r s ≤ r.length := List.countP_le_length
theorem posR_nil (s : Int) : posR [] s = 0 := rfl
theorem posR_cons {a : Int} {r : List Int} (h : Rise (a :: r)) (s : Int) : posR (a :: r) s = if a < s then posR r s + 1 else 0 := by
  unfold posR
  rw [List.countP_cons]
  by_cases hs : a < s
  · simp [hs]
  · simp only [hs, decide_false, Bool.false_eq_true, if_false, Nat.add_zero]
    rw [List.countP_eq_zero]
    intro x hx
    have := (List.pairwise_cons.1 h).1 x hx
    simp; omega
theorem mem_take_pos : ∀ {r : List Int} {s : Int}, Rise r → ∀ x, x ∈ r.take (posR r s) ↔ x ∈ r ∧ x < s
  | [], s, _, x => by simp
  | a :: r, s, h, x => by
    have h2 := (List.pairwise_cons.1 h).2
    rw [posR_cons h]
    by_cases hs : a < s
    · rw [if_pos hs, List.take_succ_cons, List.mem_cons, List.mem_cons, mem_take_pos h2]
      constructor
      · rintro (rfl | ⟨h3, h4⟩)
        · exact ⟨.inl rfl, hs⟩
        · exact ⟨.inr h3, h4⟩
      · rintro ⟨rfl | h3, h4⟩
        · exact .inl rfl
        · exact .inr ⟨h3, h4⟩
    · rw [if_neg hs]
      simp only [List.take_zero, List.not_mem_nil, false_iff]
      rintro ⟨h3, h4⟩
      rcases List.mem_cons.1 h3 with rfl | h3
      · exact hs h4
      · have := (List.pairwise_cons.1 h).1 x h3
        omega
theorem mem_drop_pos : ∀ {r : List Int} {s : Int}, Rise r → ∀ x, x ∈ r.drop (posR r s) ↔ x ∈ r ∧ s ≤ x
  | [], s, _, x => by simp
  | a :: r, s, h, x => by
    have h2 := (List.pairwise_cons.1 h).2
    rw [posR_cons h]
    by_cases hs : a < s
    · rw [if_pos hs, List.drop_succ_cons, mem_drop_pos h2, List.mem_cons]
      constructor
      · rintro ⟨h3, h4⟩; exact ⟨.inr h3, h4⟩
      · rintro ⟨rfl | h3, h4⟩
        · omega
        · exact ⟨h3, h4⟩
    · rw [if_neg hs, List.drop_zero]
      constructor
      · intro h3
        refine ⟨h3, ?_⟩
        rcases List.mem_cons.1 h3 with rfl | h3
        · omega
        · have := (List.pairwise_cons.1 h).1 x h3
          omega
      · exact fun h3 => h3.1
theorem mem_cut {r : List Int} (h : Rise r) (l x : Int) : x ∈ cutR r l ↔ x ∈ r ∧ l ≤ x := mem_drop_pos h x
theorem mem_ins {r : List Int} (s x : Int) : x ∈ insS r s ↔ x = s ∨ x ∈ r := by
  unfold insS
  rw [List.mem_append, List.mem_cons]
  constructor
  · rintro (h | h | h)
    · exact .inr (List.mem_of_mem_take h)
    · exact .inl h
    · exact .inr (List.mem_of_mem_drop h)
  · rintro (h | h)
    · exact .inr (.inl h)
    · rw [← List.take_append_drop (posR r s) r, List.mem_append] at h
      exact h.imp id .inr
theorem ins_rise {r : List Int} {s : Int} (h : Rise r) (hs : s ∉ r) : Rise (insS r s) := by
  unfold insS Rise
  rw [List.pairwise_append]
  refine ⟨h.sublist (List.take_sublist _ _), List.pairwise_cons.2 ⟨fun x hx => ?_, h.sublist (List.drop_sublist _ _)⟩, fun x hx y hy => ?_⟩
  · have h1 := (mem_drop_pos h x).1 hx
    have : x ≠ s := fun e => hs (e ▸ h1.1)
    omega
  · have h1 := (mem_take_pos h x).1 hx
    rcases List.mem_cons.1 hy with rfl | hy
    · exact h1.2
    · have h2 := (mem_drop_pos h y).1 hy
      omega
theorem ins_len (r : List Int) (s : Int) : (insS r s).length = r.length + 1 := by
  have := posR_le r s
  unfold insS; simp; omega
theorem cut_rise {r : List Int} (h : Rise r) (l : Int) : Rise (cutR r l) := h.sublist (List.drop_sublist _ _)
theorem rise_ext : ∀ {a b : List Int}, Rise a → Rise b → (∀ x, x ∈ a ↔ x ∈ b) → a = b
  | [], [], _, _, _ => rfl
  | [], y :: b, _, _, h => by have := (h y).2 (by simp); simp at this
  | x :: a, [], _, _, h => by have := (h x).1 (by simp); simp at this
  | x :: a, y :: b, h1, h2, h => by
    obtain ⟨p1, p2⟩ := List.pairwise_cons.1 h1
    obtain ⟨q1, q2⟩ := List.pairwise_cons.1 h2
    have e : x = y := by
      rcases List.mem_cons.1 ((h x).1 (by simp)) with e | e
      · exact e
      · rcases List.mem_cons.1 ((h y).2 (by simp)) with e' | e'
        · exact e'.symm
        · have := p1 y e'
          have := q1 x e
          omega
    subst e
    congr 1
    refine rise_ext p2 q2 fun z => ⟨fun hz => ?_, fun hz => ?_⟩
    · rcases List.mem_cons.1 ((h z).1 (List.mem_cons_of_mem _ hz)) with e | e
      · have := p1 z hz; omega
      · exact e
    · rcases List.mem_cons.1 ((h z).2 (List.mem_cons_of_mem _ hz)) with e | e
      · have := q1 z hz; omega
      · exact e
theorem topR_nil : topR [] = 0 := rfl
theorem topR_mem {r : List Int} (h : r ≠ []) : topR r ∈ r := by
  unfold topR
  rw [List.getLast?_eq_some_getLast h]
  exact List.getLast_mem h
theorem le_topR : ∀ {r : List Int}, Rise r → ∀ x ∈ r, x ≤ topR r
  | [], _, x, hx => by simp at hx
  | [a], _, x, hx => by
    have : x = a := by simpa using hx
    subst this; simp [topR]
  | a :: b :: r, h, x, hx => by
    have e : topR (a :: b :: r) = topR (b :: r) := by unfold topR; rw [List.getLast?_cons_cons]
    rw [e]
    have h2 := (List.pairwise_cons.1 h).2
    rcases List.mem_cons.1 hx with rfl | hx
    · have h3 := (List.pairwise_cons.1 h).1 (topR (b :: r)) (topR_mem (by simp))
      omega
    · exact le_topR h2 x hx
theorem topR_of {r : List Int} (h : Rise r) {x : Int} (hx : x ∈ r) (hm : ∀ y ∈ r, y ≤ x) : topR r = x := by
  have h1 := le_topR h x hx
  have h2 := hm _ (topR_mem (List.ne_nil_of_mem hx))
  omega
theorem topR_at {r : List Int} (h : r ≠ []) : r[r.length - 1]? = some (topR r) := by
  unfold topR
  rw [← List.getLast?_eq_getElem?, List.getLast?_eq_some_getLast h]; rfl
/-- So many fit between two. -/
theorem rise_len : ∀ {r : List Int} {a b : Int}, Rise r → a ≤ b → (∀ x ∈ r, a < x ∧ x ≤ b) → (r.length : Int) ≤ b - a
  | [], a, b, _, hab, _ => by simp; omega
  | x :: r, a, b, h, hab, hx => by
    obtain ⟨p1, p2⟩ := List.pairwise_cons.1 h
    have h0 := hx x (by simp)
    have := rise_len (a := x) (b := b) p2 (by omega) (fun y hy => ⟨p1 y hy, (hx y (by simp [hy])).2⟩)
    simp; omega
theorem head_le {r : List Int} (h : Rise r) {x y : Int} (hx : r[0]? = some x) (hy : y ∈ r) : x ≤ y := by
  cases r with
  | nil => simp at hx
  | cons a r =>
    have : a = x := by simpa using hx
    subst this
    rcases List.mem_cons.1 hy with rfl | hy
    · omega
    · have := (List.pairwise_cons.1 h).1 y hy; omega

/-! ### a table -/
structure DT where
  win : Int
  cs : List Int
  row : Int → List Int
  ans : Int → Int → List UInt8
/-- May a request be? -/
def mayR (c s : Int) : Bool := decide (0 ≤ c) && decide (c ≤ 1048576) && decide (1 ≤ s) && decide (s ≤ 1099511627776)
namespace DT
variable (t : DT)
def top (c : Int) : Int := topR (t.row c)
def least (c : Int) : Int := t.top c - t.win + 1
def kind (c s : Int) : Int := if mayR c s = false then 3 else if s < t.least c then 2 else if s ∈ t.row c then 1 else 0
/-- A request put at its place. -/
def keep (c s : Int) (a : List UInt8) : DT :=
  { win := t.win, cs := if c ∈ t.cs then t.cs else insS t.cs c, row := fun x => if x = c then insS (t.row c) s else t.row x, ans := fun x y => if x = c ∧ y = s then a else t.ans x y }
/-- What stands ahead of a window dropped. -/
def forget (c : Int) : DT := { t with row := fun x => if x = c then cutR (t.row c) (t.least c) else t.row x }
def put (c s : Int) (a : List UInt8) : DT := if t.kind c s = 0 then (t.keep c s a).forget c else t
def n : Nat := (t.cs.map fun c => (t.row c).length).sum
/-- What holds of a table that is (but for its windows). -/
structure ok0 : Prop where
  w1 : 1 ≤ t.win
  w2 : t.win ≤ 4096
  rise : ∀ c, Rise (t.row c)
  rng : ∀ c, ∀ s ∈ t.row c, 1 ≤ s ∧ s ≤ 1099511627776
  cl : ∀ c, c ∈ t.cs ↔ t.row c ≠ []
  csr : Rise t.cs
  crng : ∀ c ∈ t.cs, 0 ≤ c ∧ c ≤ 1048576
structure ok : Prop extends ok0 t where
  inw : ∀ c, ∀ s ∈ t.row c, t.top c - t.win < s
variable {t}
theorem ok0.out (h : t.ok0) {c : Int} (hc : c < 0 ∨ 1048576 < c) : t.row c = [] := by
  cases hr : t.row c with
  | nil => rfl
  | cons x r =>
    have := h.crng c ((h.cl c).2 (by rw [hr]; simp))
    omega
theorem ok0.top_rng (h : t.ok0) (c : Int) : 0 ≤ t.top c ∧ t.top c ≤ 1099511627776 := by
  unfold top
  by_cases hr : t.row c = []
  · rw [hr]; simp [topR]
  · have := h.rng c _ (topR_mem hr); omega
theorem ok.len (h : t.ok) (c : Int) : ((t.row c).length : Int) ≤ t.win := by
  have h1 := h.w1
  have := rise_len (r := t.row c) (a := t.top c - t.win) (b := t.top c) (h.rise c) (by omega) (fun x hx => ⟨h.inw c x hx, le_topR (h.rise c) x hx⟩)
  omega
theorem mayR_iff {c s : Int} : mayR c s = true ↔ 0 ≤ c ∧ c ≤ 1048576 ∧ 1 ≤ s ∧ s ≤ 1099511627776 := by
  unfold mayR; simp [Bool.and_eq_true]; omega
theorem kind_new {c s : Int} : t.kind c s = 0 ↔ mayR c s = true ∧ t.least c ≤ s ∧ s ∉ t.row c := by
  unfold kind
  by_cases h1 : mayR c s = false
  · simp [h1]
  · have h1' : mayR c s = true := by simpa using h1
    simp only [h1', Bool.true_eq_false, if_false, true_and]
    by_cases h2 : s < t.least c
    · simp [h2]; omega
    · simp only [h2, if_false]
      by_cases h3 : s ∈ t.row c
      · simp [h3]
      · simp [h3]; omega
theorem ok0.keep (h : t.ok0) {c s : Int} (a : List UInt8) (hm : mayR c s = true) (hs : s ∉ t.row c) : (t.keep c s a).ok0 where
  w1 := h.w1
  w2 := h.w2
  rise x := by
    show Rise (if x = c then _ else _)
    split
    · exact ins_rise (h.rise c) hs
    · exact h.rise x
  rng x y hy := by
    replace hy : y ∈ (if x = c then insS (t.row c) s else t.row x) := hy
    have := mayR_iff.1 hm
    split at hy
    · rcases (mem_ins s y).1 hy with rfl | hy
      · omega
      · exact h.rng c y hy
    · exact h.rng x y hy
  cl x := by
    show x ∈ (if c ∈ t.cs then t.cs else insS t.cs c) ↔ (if x = c then insS (t.row c) s else t.row x) ≠ []
    by_cases hx : x = c
    · subst hx
      rw [if_pos rfl]
      have : insS (t.row x) s ≠ [] := List.ne_nil_of_mem ((mem_ins s s).2 (.inl rfl))
      refine ⟨fun _ => this, fun _ => ?_⟩
      split
      · assumption
      · exact (mem_ins _ _).2 (.inl rfl)
    · rw [if_neg hx, ← h.cl x]
      split
      · exact Iff.rfl
      · rw [mem_ins]; simp [hx]
  csr := by
    show Rise (if c ∈ t.cs then t.cs else insS t.cs c)
    split
    · exact h.csr
    · rename_i hn; exact ins_rise h.csr hn
  crng x hx := by
    replace hx : x ∈ (if c ∈ t.cs then t.cs else insS t.cs c) := hx
    have := mayR_iff.1 hm
    split at hx
    · exact h.crng x hx
    · rcases (mem_ins _ _).1 hx with rfl | hx
      · omega
      · exact h.crng x hx
theorem keep_top (h : t.ok0) {c s : Int} (a : List UInt8) (hm : mayR c s = true) (hs : s ∉ t.row c) : (t.keep c s a).top c = max (t.top c) s := by
  have hms := mayR_iff.1 hm
  have e : (t.keep c s a).top c = topR (insS (t.row c) s) := by unfold top DT.keep; simp
  rw [e]
  have hr := ins_rise (h.rise c) hs
  by_cases h0 : t.row c = []
  · unfold top; rw [h0]
    simp [insS, posR, topR]; omega
  · refine topR_of hr ((mem_ins _ _).2 ?_) fun y hy => ?_
    · by_cases hx : t.top c < s
      · exact .inl (by omega)
      · refine .inr ?_
        rw [show max (t.top c) s = t.top c by omega]
        exact topR_mem h0
    · rcases (mem_ins _ _).1 hy with rfl | hy
      · omega
      · have := le_topR (h.rise c) y hy
        unfold top; omega
theorem keep_top' {c s x : Int} (a : List UInt8) (hx : x ≠ c) : (t.keep c s a).top x = t.top x := by unfold top DT.keep; simp [hx]
theorem ok0.forget_top (h : t.ok0) (c x : Int) : (t.forget c).top x = t.top x := by
  by_cases hx : x = c
  · subst hx
    unfold top DT.forget
    simp only [if_true]
    by_cases h0 : t.row x = []
    · rw [h0]; rfl
    · have hw := h.w1
      refine topR_of (cut_rise (h.rise x) _) ((mem_cut (h.rise x) _ _).2 ⟨topR_mem h0, ?_⟩) fun y hy => le_topR (h.rise x) y ((mem_cut (h.rise x) _ _).1 hy).1
      unfold least top; omega
  · unfold top DT.forget; simp [hx]
theorem ok0.forget (h : t.ok0) (c : Int) : (t.forget c).ok0 where
  w1 := h.w1
  w2 := h.w2
  rise x := by
    show Rise (if x = c then _ else _)
    split
    · exact cut_rise (h.rise c) _
    · exact h.rise x
  rng x y hy := by
    replace hy : y ∈ (if x = c then cutR (t.row c) (t.least c) else t.row x) := hy
    split at hy
    · exact h.rng c y ((mem_cut (h.rise c) _ _).1 hy).1
    · exact h.rng x y hy
  cl x := by
    show x ∈ t.cs ↔ (if x = c then cutR (t.row c) (t.least c) else t.row x) ≠ []
    rw [h.cl x]
    by_cases hx : x = c
    · subst hx
      rw [if_pos rfl]
      have hw := h.w1
      refine ⟨fun h0 => List.ne_nil_of_mem ((mem_cut (h.rise x) _ _).2 ⟨topR_mem h0, ?_⟩), fun h0 e => h0 (by rw [e]; rfl)⟩
      unfold least top; omega
    · rw [if_neg hx]
  csr := h.csr
  crng := h.crng
theorem ok.put (h : t.ok) (c s : Int) (a : List UInt8) : (t.put c s a).ok := by
  unfold DT.put
  by_cases hk : t.kind c s = 0
  · rw [if_pos hk]
    obtain ⟨h1, h2, h3⟩ := kind_new.1 hk
    have hk0 := h.took0.keep a h1 h3
    refine ⟨hk0.forget c, fun x y hy => ?_⟩
    rw [hk0.forget_top]
    by_cases hx : x = c
    · subst hx
      replace hy : y ∈ cutR ((t.keep x s a).row x) ((t.keep x s a).least x) := by
        unfold DT.forget at hy; simpa using hy
      have := ((mem_cut (hk0.rise x) _ _).1 hy).2
      unfold least at this
      show _ - ((t.keep x s a).forget x).win < y
      have e : ((t.keep x s a).forget x).win = (t.keep x s a).win := rfl
      omega
    · rw [keep_top' a hx]
      replace hy : y ∈ t.row x := by unfold DT.forget DT.keep at hy; simpa [hx] using hy
      exact h.inw x y hy
  · rw [if_neg hk]; exact h
theorem put_row_ne {c s x : Int} (a : List UInt8) (hx : x ≠ c) : (t.put c s a).row x = t.row x := by
  unfold DT.put DT.forget DT.keep
  split <;> simp [hx]
theorem put_ans_ne {c s x : Int} (a : List UInt8) (hx : x ≠ c) (y : Int) : (t.put c s a).ans x y = t.ans x y := by
  unfold DT.put DT.forget DT.keep
  split <;> simp [hx]
theorem put_win (c s : Int) (a : List UInt8) : (t.put c s a).win = t.win := by unfold DT.put; split <;> rfl
theorem put_top (h : t.ok) {c s : Int} (a : List UInt8) (hk : t.kind c s = 0) : (t.put c s a).top c = max (t.top c) s := by
  obtain ⟨h1, h2, h3⟩ := kind_new.1 hk
  unfold DT.put
  rw [if_pos hk, (h.took0.keep a h1 h3).forget_top, keep_top h.took0 a h1 h3]
theorem put_mem (h : t.ok) {c s : Int} (a : List UInt8) (hk : t.kind c s = 0) (y : Int) : y ∈ (t.put c s a).row c ↔ (y = s ∨ y ∈ t.row c) ∧ max (t.top c) s - t.win < y := by
  obtain ⟨h1, h2, h3⟩ := kind_new.1 hk
  have e : (t.put c s a).row c = cutR (insS (t.row c) s) ((t.keep c s a).least c) := by
    unfold DT.put; rw [if_pos hk]; unfold DT.forget DT.keep; simp
  rw [e, mem_cut (ins_rise (h.rise c) h3), mem_ins]
  unfold least
  rw [keep_top h.took0 a h1 h3]
  have : (t.keep c s a).win = t.win := rfl
  rw [this]
  refine and_congr Iff.rfl ⟨fun _ => by omega, fun _ => by omega⟩
end DT
/-- A new one. -/
def newT (win : Int) : DT := ⟨win, [], fun _ => [], fun _ _ => []⟩
theorem newT_ok {win : Int} (h1 : 1 ≤ win) (h2 : win ≤ 4096) : (newT win).ok :=
  ⟨⟨h1, h2, fun _ => List.Pairwise.nil, fun _ _ h => by simp [newT] at h, fun _ => by simp [newT], List.Pairwise.nil, fun _ h => by simp [newT] at h⟩, fun _ _ h => by simp [newT] at h⟩
end Go.Proofs.Ytkinbcmnfpkncaa
