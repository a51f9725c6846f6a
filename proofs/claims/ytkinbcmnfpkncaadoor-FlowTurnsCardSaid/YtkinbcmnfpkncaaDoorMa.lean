/- Histories as plain data: what may come next, what a book of them says, what the reference asks. -/
import Derived.Test.YtkinbcmnfpkncaaDoorMem
namespace Go.Proofs.YtkinbcmnfpkncaaDoor

structure Ev where
  k : Int
  a : Int
  r : Int
  i : Int
  l : Int
  n : Int
  d : List UInt8
instance : Inhabited Ev := ⟨⟨0, 0, 0, 0, 0, 0, []⟩⟩

def inE (v : Int) : Bool := decide (0 ≤ v) && decide (v ≤ 1099511627776)
def Ev.right (e : Ev) : Bool := decide (1 ≤ e.k) && decide (e.k ≤ 23) && inE e.a && inE e.r && inE e.i && inE e.l && inE e.n && decide (e.d.length ≤ 4096)
def closesK (k : Int) : Bool := decide (19 ≤ k) && decide (k ≤ 23)
def opensK (k : Int) : Bool := k == 2 || k == 7 || k == 12 || k == 17
/-- The kind that an event's Ref asks for; 0: it has none. -/
def askK (k : Int) : Int := if k = 3 then 2 else if k = 4 ∨ k = 5 ∨ k = 6 then 3 else if k = 8 then 7 else if k = 9 ∨ k = 10 ∨ k = 11 then 8 else if k = 13 ∨ k = 14 then 12 else if k = 18 then 17 else 0
def thingOf (e : Ev) : Int × Int := if e.k = 2 then (2, 0) else (e.k, e.i)

/-! ### the program's book -/
structure Sta where
  tk : Int
  ti : Int
  k : Int
def Sta.none : Sta := ⟨0, 0, 0⟩
structure Bo where
  count : Nat
  now : Int
  closed : Bool
  opn : Int → Sta
  used : List (Int × Int)
def Bo.new : Bo := ⟨0, 0, false, fun _ => Sta.none, []⟩
/-- 0: nothing; 1 event, 2 time, 3 first, 4 closed, 5 ref, 6 task, 7 id. -/
def Bo.lacks (b : Bo) (e : Ev) : Nat :=
  if askK e.k ≠ 0 then (if (b.opn e.r).k = askK e.k then 0 else 5)
  else if e.r ≠ 0 then 5
  else if opensK e.k = true then (if thingOf e ∈ b.used then (if e.k = 2 then 6 else 7) else 0) else 0
def Bo.misfit (b : Bo) (e : Ev) : Nat :=
  if e.right = false then 1 else if e.a < b.now then 2 else if (b.count == 0) != (e.k == 1) then 3 else if b.closed = true then 4 else b.lacks e
def Bo.add (b : Bo) (e : Ev) : Bo where
  count := b.count + 1
  now := e.a
  closed := closesK e.k
  opn p := if p = (b.count : Int) + 1 ∧ opensK e.k = true then ⟨(thingOf e).1, (thingOf e).2, e.k⟩
    else if p = (b.count : Int) + 1 ∧ (e.k = 3 ∨ e.k = 8) then ⟨(b.opn e.r).tk, (b.opn e.r).ti, e.k⟩
    else if p = e.r then Sta.none else b.opn p
  used := if opensK e.k = true then (if thingOf e ∈ b.used then b.used else thingOf e :: b.used)
    else if e.k = 3 ∨ e.k = 8 then b.used else b.used.erase ((b.opn e.r).tk, (b.opn e.r).ti)
def bookOf (l : List Ev) : Bo := l.foldl Bo.add Bo.new
def Bo.check : Bo → List Ev → Option (Nat × Nat)
  | _, [] => none
  | b, e :: l => if b.misfit e ≠ 0 then some (b.count + 1, b.misfit e) else (b.add e).check l

/-! ### the reference -/
def kindR (l : List Ev) (p : Int) : Int := if 1 ≤ p ∧ p ≤ l.length then (l.getD (p - 1).toNat default).k else 0
def namedR (l : List Ev) (p : Int) (ks : List Int) : Bool := l.any fun e => e.r == p && ks.contains e.k
def worksR : List Ev → Int → Int
  | [], _ => 0
  | e :: l, p => if e.k = 8 ∧ e.r = p then 1 else if worksR l p = 0 then 0 else worksR l p + 1
def openR (l : List Ev) (p : Int) : Bool :=
  if kindR l p = 7 then (worksR l p == 0 || !namedR l (worksR l p) [9, 10, 11])
  else if kindR l p = 12 then !namedR l p [13, 14]
  else if kindR l p = 17 then !namedR l p [18]
  else false
def lastV : List Ev → Int → Int
  | [], _ => 0
  | e :: l, k => if e.k = k then (l.length : Int) + 1 else lastV l k
def lastR (l : List Ev) (k : Int) : Int := lastV l.reverse k
def taskR (l : List Ev) : Int × Int :=
  if lastR l 2 = 0 then (0, 0) else if lastR l 3 < lastR l 2 then (1, lastR l 2)
  else if namedR l (lastR l 3) [4, 5, 6] = true then (0, 0) else (2, lastR l 3)
def refAt (l : List Ev) (p : Int) : Int := (l.getD (p - 1).toNat default).r
def idAt (l : List Ev) (p : Int) : Int := (l.getD (p - 1).toNat default).i
def refsR (l : List Ev) (e : Ev) : Bool :=
  if e.k = 3 then (taskR l).1 == 1 && e.r == (taskR l).2
  else if e.k = 4 ∨ e.k = 5 ∨ e.k = 6 then (taskR l).1 == 2 && e.r == (taskR l).2
  else if e.k = 8 then kindR l e.r == 7 && worksR l e.r == 0
  else if e.k = 9 ∨ e.k = 10 ∨ e.k = 11 then kindR l e.r == 8 && openR l (refAt l e.r)
  else if e.k = 13 ∨ e.k = 14 then kindR l e.r == 12 && openR l e.r
  else if e.k = 18 then kindR l e.r == 17 && openR l e.r
  else e.r == 0
def whyR (l : List Ev) (e : Ev) : Nat :=
  if e.right = false then 1
  else if l ≠ [] ∧ e.a < (l.getLast?.getD default).a then 2
  else if (l.length == 0) != (e.k == 1) then 3
  else if l.any (fun x => closesK x.k) = true then 4
  else if refsR l e = false then 5
  else if e.k = 2 ∧ (taskR l).1 ≠ 0 then 6
  else if (e.k = 7 ∨ e.k = 12 ∨ e.k = 17) ∧ (∃ i, i < l.length ∧ (l.getD i default).k = e.k ∧ (l.getD i default).i = e.i ∧ openR l (i + 1) = true) then 7
  else 0

/-! ### one event more -/
theorem kindR_snoc (l : List Ev) (e : Ev) (p : Int) : kindR (l ++ [e]) p = if p = (l.length : Int) + 1 then e.k else kindR l p := by
  unfold kindR
  by_cases h : p = (l.length : Int) + 1
  · subst h
    rw [if_pos (by simp; omega), if_pos rfl]
    rw [show ((l.length : Int) + 1 - 1).toNat = l.length by omega]
    simp [List.getD]
  · rw [if_neg h]
    by_cases h2 : 1 ≤ p ∧ p ≤ l.length
    · rw [if_pos (by simp; omega), if_pos h2]
      have : (p - 1).toNat < l.length := by omega
      generalize (p - 1).toNat = j at *
      simp [List.getD, List.getElem?_append_left this]
    · rw [if_neg h2, if_neg (by simp; omega)]
theorem at_snoc (l : List Ev) (e : Ev) (p : Int) (h : 1 ≤ p) : (l ++ [e]).getD (p - 1).toNat default = if p = (l.length : Int) + 1 then e else l.getD (p - 1).toNat default := by
  by_cases h1 : p = (l.length : Int) + 1
  · subst h1
    rw [if_pos rfl, show ((l.length : Int) + 1 - 1).toNat = l.length by omega]
    simp [List.getD]
  · rw [if_neg h1]
    by_cases h2 : p ≤ l.length
    · have : (p - 1).toNat < l.length := by omega
      generalize (p - 1).toNat = j at *
      simp [List.getD, List.getElem?_append_left this]
    · have h3 : l.length ≤ (p - 1).toNat := by omega
      have h4 : (l ++ [e]).length ≤ (p - 1).toNat := by simp; omega
      simp only [List.getD, List.getElem?_eq_none h3, List.getElem?_eq_none h4]
theorem namedR_snoc (l : List Ev) (e : Ev) (p : Int) (ks : List Int) : namedR (l ++ [e]) p ks = (namedR l p ks || (e.r == p && ks.contains e.k)) := by
  simp [namedR]
theorem worksR_le (l : List Ev) (p : Int) : 0 ≤ worksR l p ∧ worksR l p ≤ l.length := by
  induction l with
  | nil => simp [worksR]
  | cons e l ih => simp only [worksR, List.length_cons]; split <;> (try split) <;> omega
theorem worksR_snoc (l : List Ev) (e : Ev) (p : Int) : worksR (l ++ [e]) p = if worksR l p ≠ 0 then worksR l p else if e.k = 8 ∧ e.r = p then (l.length : Int) + 1 else 0 := by
  induction l with
  | nil => simp [worksR]
  | cons x l ih =>
    have := worksR_le l p
    simp only [List.cons_append, worksR, ih, List.length_cons]
    by_cases h : x.k = 8 ∧ x.r = p
    · simp [h]
    · by_cases h2 : worksR l p = 0
      · by_cases h3 : e.k = 8 ∧ e.r = p
        · simp only [h, h2, h3]; simp; omega
        · simp [h, h2, h3]
      · have : worksR l p + 1 ≠ 0 := by omega
        simp [h, h2, this]
theorem lastR_snoc (l : List Ev) (e : Ev) (k : Int) : lastR (l ++ [e]) k = if e.k = k then (l.length : Int) + 1 else lastR l k := by
  simp [lastR, lastV]
theorem lastV_le (l : List Ev) (k : Int) : 0 ≤ lastV l k ∧ lastV l k ≤ l.length := by
  induction l with
  | nil => simp [lastV]
  | cons e l ih => simp only [lastV, List.length_cons]; split <;> omega
theorem lastR_le (l : List Ev) (k : Int) : 0 ≤ lastR l k ∧ lastR l k ≤ l.length := by
  have := lastV_le l.reverse k; simpa [lastR] using this

/-- A history that may be, and its book. -/
inductive Hist : List Ev → Bo → Prop
  | nil : Hist [] Bo.new
  | snoc {l : List Ev} {b : Bo} {e : Ev} : Hist l b → b.misfit e = 0 → Hist (l ++ [e]) (b.add e)

/-- What a book says, in the reference's words. -/
structure Inv (l : List Ev) (b : Bo) : Prop where
  cnt : b.count = l.length
  now : b.now = (l.getLast?.map Ev.a).getD 0
  clo : b.closed = l.any (fun x => closesK x.k)
  rng : ∀ p, (b.opn p).k ≠ 0 → 1 ≤ p ∧ p ≤ l.length
  nil : ∀ p, (b.opn p).k = 0 → b.opn p = Sta.none
  kin : ∀ p, (b.opn p).k ≠ 0 → (b.opn p).k = kindR l p
  knd : ∀ p, (b.opn p).k = 0 ∨ (b.opn p).k = 2 ∨ (b.opn p).k = 3 ∨ (b.opn p).k = 7 ∨ (b.opn p).k = 8 ∨ (b.opn p).k = 12 ∨ (b.opn p).k = 17
  j2 : ∀ p, (b.opn p).k = 2 ↔ (taskR l = (1, p))
  j3 : ∀ p, (b.opn p).k = 3 ↔ (taskR l = (2, p))
  j7 : ∀ p, (b.opn p).k = 7 ↔ (kindR l p = 7 ∧ worksR l p = 0)
  j8 : ∀ p, (b.opn p).k = 8 ↔ (kindR l p = 8 ∧ openR l (refAt l p) = true)
  j12 : ∀ p, (b.opn p).k = 12 ↔ (kindR l p = 12 ∧ openR l p = true)
  j17 : ∀ p, (b.opn p).k = 17 ↔ (kindR l p = 17 ∧ openR l p = true)
  t23 : ∀ p, (b.opn p).k = 2 ∨ (b.opn p).k = 3 → (b.opn p).tk = 2 ∧ (b.opn p).ti = 0
  t7 : ∀ p, (b.opn p).k = 7 ∨ (b.opn p).k = 12 ∨ (b.opn p).k = 17 → (b.opn p).tk = (b.opn p).k ∧ (b.opn p).ti = idAt l p
  t8 : ∀ p, (b.opn p).k = 8 → (b.opn p).tk = 7 ∧ (b.opn p).ti = idAt l (refAt l p)
  uTask : (2, 0) ∈ b.used ↔ (taskR l).1 ≠ 0
  uId : ∀ k i, k ≠ 2 → ((k, i) ∈ b.used ↔ ∃ p, kindR l p = k ∧ idAt l p = i ∧ openR l p = true)
  u2 : ∀ i, (2, i) ∈ b.used → i = 0
  nodup : b.used.Nodup
  wk : ∀ p, kindR l p = 8 → kindR l (refAt l p) = 7 ∧ worksR l (refAt l p) = p
  un : ∀ p q, kindR l p = kindR l q → idAt l p = idAt l q → openR l p = true → openR l q = true → p = q
  bd : ∀ x ∈ l, x.r ≤ l.length

theorem kindR_nil (p : Int) : kindR [] p = 0 := by
  unfold kindR; rw [if_neg (by simp; omega)]
theorem openR_nil (p : Int) : openR [] p = false := by
  unfold openR; rw [kindR_nil]; rfl
theorem Inv.new : Inv [] Bo.new := by
  constructor <;> simp [Bo.new, Sta.none, taskR, lastR, lastV, kindR_nil, openR_nil]
theorem refAt_snoc (l : List Ev) (e : Ev) (p : Int) (h : 1 ≤ p) : refAt (l ++ [e]) p = if p = (l.length : Int) + 1 then e.r else refAt l p := by
  unfold refAt; rw [at_snoc l e p h]; split <;> rfl
theorem idAt_snoc (l : List Ev) (e : Ev) (p : Int) (h : 1 ≤ p) : idAt (l ++ [e]) p = if p = (l.length : Int) + 1 then e.i else idAt l p := by
  unfold idAt; rw [at_snoc l e p h]; split <;> rfl
theorem kindR_rng {l : List Ev} {p : Int} (h : kindR l p ≠ 0) : 1 ≤ p ∧ p ≤ l.length := by
  unfold kindR at h; split at h
  · assumption
  · exact absurd rfl h
theorem named_far {l : List Ev} (hb : ∀ x ∈ l, x.r ≤ l.length) (p : Int) (hp : l.length < p) (ks : List Int) : namedR l p ks = false := by
  unfold namedR
  rw [List.any_eq_false]
  intro x hx
  have := hb x hx
  have h2 : (x.r == p) = false := by simp; omega
  simp [h2]
theorem works_far {l : List Ev} (p : Int) (h : ∀ x ∈ l, x.r < p) : worksR l p = 0 := by
  induction l with
  | nil => rfl
  | cons e l ih =>
    have h1 := h e (by simp)
    simp only [worksR]
    rw [if_neg (by omega), ih (fun x hx => h x (by simp [hx]))]; rfl

theorem open_here {l : List Ev} {e : Ev} (hb : ∀ x ∈ l, x.r ≤ l.length) (he : e.r ≤ l.length) : openR (l ++ [e]) ((l.length : Int) + 1) = true ↔ (e.k = 7 ∨ e.k = 12 ∨ e.k = 17) := by
  have hw : worksR (l ++ [e]) ((l.length : Int) + 1) = 0 := by
    apply works_far
    intro x hx
    rcases List.mem_append.1 hx with h | h
    · have := hb x h; omega
    · simp at h; subst h; omega
  have hn : ∀ ks, namedR (l ++ [e]) ((l.length : Int) + 1) ks = false := fun ks => by
    rw [namedR_snoc, named_far hb _ (by omega)]
    have : (e.r == (l.length : Int) + 1) = false := by simp; omega
    simp [this]
  unfold openR
  simp only [kindR_snoc, if_true, hw, hn]
  by_cases h7 : e.k = 7
  · simp [h7]
  · by_cases h12 : e.k = 12
    · simp [h12]
    · by_cases h17 : e.k = 17
      · simp [h17]
      · simp [h7, h12, h17]
/-- What ends what began at p. -/
def endsR (l : List Ev) (e : Ev) (p : Int) : Prop :=
  (kindR l p = 7 ∧ worksR l p ≠ 0 ∧ e.r = worksR l p ∧ (e.k = 9 ∨ e.k = 10 ∨ e.k = 11)) ∨ (kindR l p = 12 ∧ e.r = p ∧ (e.k = 13 ∨ e.k = 14)) ∨ (kindR l p = 17 ∧ e.r = p ∧ e.k = 18)
theorem open_snoc {l : List Ev} {e : Ev} (hb : ∀ x ∈ l, x.r ≤ l.length) (he : e.r ≤ l.length) {p : Int} (hp : p ≠ (l.length : Int) + 1) :
    openR (l ++ [e]) p = true ↔ (openR l p = true ∧ ¬ endsR l e p) := by
  unfold openR endsR
  rw [kindR_snoc, if_neg hp]
  by_cases h7 : kindR l p = 7
  · have hw := worksR_snoc l e p
    by_cases h0 : worksR l p = 0
    · simp only [h7, if_true, h0]
      by_cases h8 : e.k = 8 ∧ e.r = p
      · rw [h0] at hw; simp only [ne_eq, not_true, if_false, h8, and_self, if_true] at hw
        rw [hw, namedR_snoc, named_far hb _ (by omega)]
        have : (e.r == (l.length : Int) + 1) = false := by simp; omega
        simp [this]
      · rw [h0] at hw; simp only [ne_eq, not_true, if_false, h8] at hw
        rw [hw]; simp
    · rw [if_pos h0] at hw
      rw [hw]
      simp only [h7, if_true, namedR_snoc]
      generalize worksR l p = wp at *
      generalize namedR l wp [9, 10, 11] = nb at *
      cases nb <;> simp [h0]
      · constructor <;> intro h <;> grind
  · by_cases h12 : kindR l p = 12
    · simp only [h12, namedR_snoc]
      generalize namedR l p [13, 14] = nb at *
      cases nb <;> simp
      exact ⟨fun h he => h.resolve_left (fun h => h he), fun h => (Decidable.em (e.r = p)).elim (fun he => .inr (h he)) .inl⟩
    · by_cases h17 : kindR l p = 17
      · simp only [h17, namedR_snoc]
        generalize namedR l p [18] = nb at *
        cases nb <;> simp
        exact ⟨fun h he => h.resolve_left (fun h => h he), fun h => (Decidable.em (e.r = p)).elim (fun he => .inr (h he)) .inl⟩
      · simp [h7, h12, h17]
theorem task_2 {l : List Ev} {e : Ev} (h : e.k = 2) : taskR (l ++ [e]) = (1, (l.length : Int) + 1) := by
  have := lastR_le l 3
  unfold taskR
  simp only [lastR_snoc, h]
  simp
  rw [if_neg (by omega), if_pos (by omega)]
theorem task_3 {l : List Ev} {e : Ev} (hb : ∀ x ∈ l, x.r ≤ l.length) (h : e.k = 3) (he : e.r ≤ l.length) {r : Int} (ht : taskR l = (1, r)) : taskR (l ++ [e]) = (2, (l.length : Int) + 1) := by
  have h2 := lastR_le l 2
  have hn : namedR (l ++ [e]) ((l.length : Int) + 1) [4, 5, 6] = false := by
    rw [namedR_snoc, named_far hb _ (by omega)]
    have : (e.r == (l.length : Int) + 1) = false := by simp; omega
    simp [this]
  have h0 : lastR l 2 ≠ 0 := by
    intro h0; unfold taskR at ht; rw [if_pos h0] at ht; simp at ht
  unfold taskR
  simp only [lastR_snoc, h]
  simp [h0, hn]
  omega
theorem task_4 {l : List Ev} {e : Ev} (h : e.k = 4 ∨ e.k = 5 ∨ e.k = 6) (ht : taskR l = (2, e.r)) : taskR (l ++ [e]) = (0, 0) := by
  have e2 : e.k ≠ 2 := by omega
  have e3 : e.k ≠ 3 := by omega
  unfold taskR at ht ⊢
  simp only [lastR_snoc, e2, e3, if_false, namedR_snoc]
  by_cases h0 : lastR l 2 = 0
  · rw [if_pos h0] at ht; simp at ht
  · rw [if_neg h0] at ht ⊢
    by_cases h1 : lastR l 3 < lastR l 2
    · rw [if_pos h1] at ht; simp at ht
    · rw [if_neg h1] at ht ⊢
      by_cases hn : namedR l (lastR l 3) [4, 5, 6] = true
      · rw [if_pos hn] at ht; simp at ht
      · rw [if_neg hn] at ht
        injection ht with _ ht
        rw [if_pos]
        simp [ht]; exact .inr h
theorem task_same {l : List Ev} {e : Ev} (h2 : e.k ≠ 2) (h3 : e.k ≠ 3) (h4 : e.k ≠ 4) (h5 : e.k ≠ 5) (h6 : e.k ≠ 6) : taskR (l ++ [e]) = taskR l := by
  unfold taskR
  simp only [lastR_snoc, h2, h3, if_false, namedR_snoc]
  simp [h4, h5, h6]

theorem misfit_zero {b : Bo} {e : Ev} (h : b.misfit e = 0) : e.right = true ∧ b.now ≤ e.a ∧ (b.count = 0 ↔ e.k = 1) ∧ b.closed = false ∧ b.lacks e = 0 := by
  unfold Bo.misfit at h
  split at h
  · cases h
  rename_i h1
  split at h
  · cases h
  split at h
  · cases h
  rename_i h3
  split at h
  · cases h
  rename_i h4
  refine ⟨by simpa using h1, by omega, ?_, by simpa using h4, h⟩
  simp at h3
  constructor
  · intro h0; have : (e.k == 1) = true := by rw [← h3]; simpa using h0
    simpa using this
  · intro h0; have : (b.count == 0) = true := by rw [h3]; simpa using h0
    simpa using this
theorem lacks_zero {b : Bo} {e : Ev} (h : b.lacks e = 0) : (askK e.k ≠ 0 → (b.opn e.r).k = askK e.k) ∧ (askK e.k = 0 → e.r = 0 ∧ (opensK e.k = true → thingOf e ∉ b.used)) := by
  unfold Bo.lacks at h
  refine ⟨fun h0 => ?_, fun h0 => ?_⟩
  · rw [if_pos h0] at h; split at h
    · assumption
    · cases h
  · rw [if_neg (by simpa using h0)] at h
    split at h
    · cases h
    · rename_i hr
      refine ⟨by simpa using hr, fun ho hu => ?_⟩
      rw [if_pos ho, if_pos hu] at h
      split at h <;> cases h
def newSt (b : Bo) (e : Ev) : Sta := if opensK e.k = true then ⟨(thingOf e).1, (thingOf e).2, e.k⟩ else if e.k = 3 ∨ e.k = 8 then ⟨(b.opn e.r).tk, (b.opn e.r).ti, e.k⟩ else Sta.none
theorem Inv.far {l : List Ev} {b : Bo} (I : Inv l b) {p : Int} (h : ¬ (1 ≤ p ∧ p ≤ l.length)) : b.opn p = Sta.none :=
  I.nil p (Decidable.byContradiction fun h0 => h (I.rng p h0))
theorem Inv.opn_add {l : List Ev} {b : Bo} {e : Ev} (I : Inv l b) (p : Int) : (b.add e).opn p = if p = (l.length : Int) + 1 then newSt b e else if p = e.r then Sta.none else b.opn p := by
  unfold Bo.add newSt
  simp only [I.cnt]
  by_cases h : p = (l.length : Int) + 1
  · simp only [h, true_and, if_true]
    split
    · rfl
    · split
      · rfl
      · split
        · rfl
        · exact I.far (by omega)
  · simp [h]
theorem Inv.er {l : List Ev} {b : Bo} {e : Ev} (I : Inv l b) (h : b.lacks e = 0) : 0 ≤ e.r ∧ e.r ≤ l.length := by
  obtain ⟨h1, h2⟩ := lacks_zero h
  by_cases h0 : askK e.k = 0
  · have := (h2 h0).1; omega
  · have := I.rng e.r (by rw [h1 h0]; exact h0); omega
theorem ask_of (k : Int) : (askK k = 2 ↔ k = 3) ∧ (askK k = 3 ↔ k = 4 ∨ k = 5 ∨ k = 6) ∧ (askK k = 7 ↔ k = 8) ∧ (askK k = 8 ↔ k = 9 ∨ k = 10 ∨ k = 11) ∧ (askK k = 12 ↔ k = 13 ∨ k = 14) ∧ (askK k = 17 ↔ k = 18) ∧ (askK k = 0 ∨ askK k = 2 ∨ askK k = 3 ∨ askK k = 7 ∨ askK k = 8 ∨ askK k = 12 ∨ askK k = 17) := by
  unfold askK
  by_cases h1 : k = 3
  · simp [h1]
  by_cases h2 : k = 4 ∨ k = 5 ∨ k = 6
  · rcases h2 with h | h | h <;> simp [h]
  by_cases h3 : k = 8
  · simp [h3]
  by_cases h4 : k = 9 ∨ k = 10 ∨ k = 11
  · rcases h4 with h | h | h <;> simp [h]
  by_cases h5 : k = 13 ∨ k = 14
  · rcases h5 with h | h <;> simp [h]
  by_cases h6 : k = 18
  · simp [h6]
  · simp only [h1, h2, h3, h4, h5, h6, if_false]
    simp
theorem opens_of (k : Int) : opensK k = true ↔ k = 2 ∨ k = 7 ∨ k = 12 ∨ k = 17 := by
  unfold opensK; simp [or_assoc]

/-- How the task stands behind an event that fits. -/
theorem Inv.task {l : List Ev} {b : Bo} {e : Ev} (I : Inv l b) (h : b.lacks e = 0) :
    (e.k = 2 → (taskR l).1 = 0 ∧ taskR (l ++ [e]) = (1, (l.length : Int) + 1)) ∧
    (e.k = 3 → taskR l = (1, e.r) ∧ taskR (l ++ [e]) = (2, (l.length : Int) + 1)) ∧
    ((e.k = 4 ∨ e.k = 5 ∨ e.k = 6) → taskR l = (2, e.r) ∧ taskR (l ++ [e]) = (0, 0)) ∧
    (e.k ≠ 2 ∧ e.k ≠ 3 ∧ ¬ (e.k = 4 ∨ e.k = 5 ∨ e.k = 6) → taskR (l ++ [e]) = taskR l) := by
  obtain ⟨h1, h2⟩ := lacks_zero h
  have her := I.er h
  obtain ⟨a2, a3, -⟩ := ask_of e.k
  refine ⟨fun hk => ?_, fun hk => ?_, fun hk => ?_, fun hk => ?_⟩
  · refine ⟨?_, task_2 hk⟩
    have := (h2 (by unfold askK; simp [hk])).2 ((opens_of _).2 (.inl hk))
    unfold thingOf at this; rw [if_pos hk, I.uTask] at this
    simpa using this
  · have e1 := h1 (by rw [a2.2 hk]; decide)
    rw [a2.2 hk] at e1
    have e2 := (I.j2 e.r).1 e1
    exact ⟨e2, task_3 I.bd hk her.2 e2⟩
  · have e1 := h1 (by rw [a3.2 hk]; decide)
    rw [a3.2 hk] at e1
    have e2 := (I.j3 e.r).1 e1
    exact ⟨e2, task_4 hk e2⟩
  · exact task_same hk.1 hk.2.1 (by omega) (by omega) (by omega)

theorem Inv.pos8 {l : List Ev} {b : Bo} (I : Inv l b) {p : Int} (h : kindR l p = 8) : 1 ≤ refAt l p ∧ refAt l p ≤ l.length :=
  kindR_rng (l := l) (p := refAt l p) (by rw [(I.wk p h).1]; decide)
theorem open_kind {l : List Ev} {p : Int} (h : openR l p = true) : kindR l p = 7 ∨ kindR l p = 12 ∨ kindR l p = 17 := by
  unfold openR at h
  split at h
  · exact .inl (by assumption)
  · split at h
    · exact .inr (.inl (by assumption))
    · split at h
      · exact .inr (.inr (by assumption))
      · cases h
theorem works_at : ∀ {l : List Ev} {p : Int}, worksR l p ≠ 0 → (l.getD (worksR l p - 1).toNat default).k = 8 ∧ (l.getD (worksR l p - 1).toNat default).r = p
  | [], _, h => absurd rfl h
  | x :: l, p, h => by
    have hle := worksR_le l p
    unfold worksR at h ⊢
    by_cases h1 : x.k = 8 ∧ x.r = p
    · rw [if_pos h1]; simpa using h1
    · rw [if_neg h1] at h ⊢
      by_cases h2 : worksR l p = 0
      · rw [if_pos h2] at h; exact absurd rfl h
      · rw [if_neg h2]
        have ih := works_at h2
        rw [show (worksR l p + 1 - 1).toNat = (worksR l p - 1).toNat + 1 by omega]
        simpa [List.getD] using ih
/-- How what began at p stands behind an event that fits. -/
theorem Inv.opens {l : List Ev} {b : Bo} {e : Ev} (I : Inv l b) (h : b.lacks e = 0) {p : Int} (hp : p ≠ (l.length : Int) + 1) :
    openR (l ++ [e]) p = true ↔ (openR l p = true ∧ ¬ ((b.opn e.r).k = 8 ∧ (b.opn e.r).k = askK e.k ∧ p = refAt l e.r) ∧ ¬ ((b.opn e.r).k = askK e.k ∧ p = e.r ∧ ((b.opn e.r).k = 12 ∨ (b.opn e.r).k = 17))) := by
  rw [open_snoc I.bd (I.er h).2 hp]
  obtain ⟨h1, h2⟩ := lacks_zero h
  obtain ⟨a2, a3, a7, a8, a12, a17, -⟩ := ask_of e.k
  refine and_congr_right fun ho => ?_
  rw [← not_or]
  refine not_congr ?_
  unfold endsR
  constructor
  · rintro (⟨k7, hw, er, hk⟩ | ⟨k12, er, hk⟩ | ⟨k17, er, hk⟩)
    · left
      have e8 := h1 (by rw [a8.2 hk]; decide)
      rw [a8.2 hk] at e8 ⊢
      refine ⟨e8, e8, ?_⟩
      obtain ⟨j1, j2⟩ := (I.j8 e.r).1 e8
      obtain ⟨w1, w2⟩ := I.wk e.r j1
      -- both p and the activity that e.r names are begun by e.r
      have : worksR l p = e.r := er.symm
      have hwp := works_at hw
      rw [this] at hwp
      exact hwp.2.symm
    · right
      have e12 := h1 (by rw [a12.2 hk]; decide)
      rw [a12.2 hk] at e12 ⊢
      exact ⟨e12, er.symm, .inl e12⟩
    · right
      have e17 := h1 (by rw [a17.2 hk]; decide)
      rw [a17.2 hk] at e17 ⊢
      exact ⟨e17, er.symm, .inr e17⟩
  · rintro (⟨h8, ha, hp⟩ | ⟨ha, hp, h12 | h17⟩)
    · left
      have hk := a8.1 (ha.symm.trans h8)
      obtain ⟨j1, j2⟩ := (I.j8 e.r).1 h8
      obtain ⟨w1, w2⟩ := I.wk e.r j1
      rw [hp, w1, w2]
      have := kindR_rng (l := l) (p := e.r) (by rw [j1]; decide)
      exact ⟨rfl, by omega, rfl, hk⟩
    · right; left
      have hk := a12.1 (ha.symm.trans h12)
      rw [hp]
      exact ⟨((I.j12 e.r).1 h12).1, rfl, hk⟩
    · right; right
      have hk := a17.1 (ha.symm.trans h17)
      rw [hp]
      exact ⟨((I.j17 e.r).1 h17).1, rfl, hk⟩

theorem Inv.mem_add {l : List Ev} {b : Bo} {e : Ev} (I : Inv l b) (h : b.lacks e = 0) (t : Int × Int) :
    t ∈ (b.add e).used ↔ (opensK e.k = true ∧ (t = thingOf e ∨ t ∈ b.used)) ∨ ((e.k = 3 ∨ e.k = 8) ∧ t ∈ b.used) ∨ (opensK e.k = false ∧ e.k ≠ 3 ∧ e.k ≠ 8 ∧ t ∈ b.used ∧ t ≠ ((b.opn e.r).tk, (b.opn e.r).ti)) := by
  obtain ⟨-, lz2⟩ := lacks_zero h
  simp only [Bo.add]
  by_cases ho : opensK e.k = true
  · have h38 : ¬ (e.k = 3 ∨ e.k = 8) := by have := (opens_of _).1 ho; omega
    have ha : askK e.k = 0 := by rcases (opens_of _).1 ho with h | h | h | h <;> simp [askK, h]
    have := (lz2 ha).2 ho
    simp [ho, this, h38]
  · have ho2 : opensK e.k = false := by simpa using ho
    simp only [ho2, Bool.false_eq_true, if_false, false_and, false_or, true_and]
    by_cases h38 : e.k = 3 ∨ e.k = 8
    · rw [if_pos h38]
      constructor
      · intro h; exact .inl ⟨h38, h⟩
      · rintro (h | h)
        · exact h.2
        · omega
    · rw [if_neg h38, I.nodup.mem_erase_iff]
      constructor
      · intro h; exact .inr ⟨by omega, by omega, h.2, h.1⟩
      · rintro (h | h)
        · exact absurd h.1 h38
        · exact ⟨h.2.2.2, h.2.2.1⟩
theorem Inv.opn0 {l : List Ev} {b : Bo} {e : Ev} (I : Inv l b) (h : b.lacks e = 0) (ha : askK e.k = 0) : b.opn e.r = Sta.none :=
  I.far (by have := ((lacks_zero h).2 ha).1; omega)
theorem Inv.uTask_step {l : List Ev} {b : Bo} {e : Ev} (I : Inv l b) (h : b.lacks e = 0) : (2, 0) ∈ (b.add e).used ↔ (taskR (l ++ [e])).1 ≠ 0 := by
  rw [I.mem_add h]
  obtain ⟨t2, t3, t4, t0⟩ := I.task h
  obtain ⟨lz1, lz2⟩ := lacks_zero h
  obtain ⟨a2, a3, a7, a8, a12, a17, a0⟩ := ask_of e.k
  have ho := opens_of e.k
  have hu := I.uTask
  by_cases k2 : e.k = 2
  · have : thingOf e = (2, 0) := by unfold thingOf; rw [if_pos k2]
    rw [(t2 k2).2, this, ho.2 (.inl k2)]; simp
  by_cases k3 : e.k = 3
  · have ho3 : opensK e.k = false := by simp [k3, opensK]
    rw [(t3 k3).2]; rw [(t3 k3).1] at hu
    rw [ho3, hu]; simp [k3]
  by_cases k4 : e.k = 4 ∨ e.k = 5 ∨ e.k = 6
  · have ho3 : opensK e.k = false := by rcases k4 with h | h | h <;> simp [h, opensK]
    rw [(t4 k4).2]
    have h3 := lz1 (by rw [a3.2 k4]; decide)
    rw [a3.2 k4] at h3
    have h4 := I.t23 e.r (.inr h3)
    rw [ho3, h4.1, h4.2]; simp; omega
  rw [t0 ⟨k2, k3, k4⟩, ← hu]
  by_cases k7 : opensK e.k = true
  · have hne : (2, 0) ≠ thingOf e := by
      unfold thingOf; rw [if_neg k2]; intro h; injection h with h _; exact k2 h.symm
    simp [k7, hne]
  · have k7' : opensK e.k = false := by simpa using k7
    by_cases k8 : e.k = 8
    · rw [k7']; simp [k8]
    · have hne : (2, 0) ≠ ((b.opn e.r).tk, (b.opn e.r).ti) := by
        intro h2
        injection h2 with h2 _
        rcases a0 with a | a | a | a | a | a | a
        · rw [I.opn0 h a] at h2; cases h2
        · omega
        · exact k4 (a3.1 a)
        · omega
        · have := (I.t8 e.r (by rw [lz1 (by omega)]; exact a)).1; omega
        · have := (I.t7 e.r (.inr (.inl (by rw [lz1 (by omega)]; exact a)))).1; have := lz1 (by omega); omega
        · have := (I.t7 e.r (.inr (.inr (by rw [lz1 (by omega)]; exact a)))).1; have := lz1 (by omega); omega
      rw [k7']; simp [k8, k3, hne]
theorem Inv.uId_step {l : List Ev} {b : Bo} {e : Ev} (I : Inv l b) (h : b.lacks e = 0) {k i : Int} (hk : k ≠ 2) : (k, i) ∈ (b.add e).used ↔ ∃ p, kindR (l ++ [e]) p = k ∧ idAt (l ++ [e]) p = i ∧ openR (l ++ [e]) p = true := by
  rw [I.mem_add h]
  obtain ⟨lz1, lz2⟩ := lacks_zero h
  obtain ⟨a2, a3, a7, a8, a12, a17, a0⟩ := ask_of e.k
  have ho := opens_of e.k
  have her := I.er h
  have hoh := open_here (e := e) I.bd her.2
  have hop := fun p (hp : p ≠ (l.length : Int) + 1) => I.opens h hp
  have hu := I.uId k i hk
  have hx : (∃ p, kindR (l ++ [e]) p = k ∧ idAt (l ++ [e]) p = i ∧ openR (l ++ [e]) p = true) ↔
      ((e.k = k ∧ e.i = i ∧ (e.k = 7 ∨ e.k = 12 ∨ e.k = 17)) ∨ ∃ p, kindR l p = k ∧ idAt l p = i ∧ openR l p = true ∧ ¬ ((b.opn e.r).k = 8 ∧ (b.opn e.r).k = askK e.k ∧ p = refAt l e.r) ∧ ¬ ((b.opn e.r).k = askK e.k ∧ p = e.r ∧ ((b.opn e.r).k = 12 ∨ (b.opn e.r).k = 17))) := by
    constructor
    · rintro ⟨p, h1, h2, h3⟩
      have hp1 : 1 ≤ p := (kindR_rng (l := l ++ [e]) (p := p) (by have := open_kind h3; omega)).1
      by_cases hp : p = (l.length : Int) + 1
      · subst hp
        rw [kindR_snoc, if_pos rfl] at h1
        rw [idAt_snoc _ _ _ hp1, if_pos rfl] at h2
        exact .inl ⟨h1, h2, hoh.1 h3⟩
      · rw [kindR_snoc, if_neg hp] at h1
        rw [idAt_snoc _ _ _ hp1, if_neg hp] at h2
        have := (hop p hp).1 h3
        exact .inr ⟨p, h1, h2, this.1, this.2⟩
    · rintro (⟨h1, h2, h3⟩ | ⟨p, h1, h2, h3, h4⟩)
      · refine ⟨(l.length : Int) + 1, ?_, ?_, hoh.2 h3⟩
        · rw [kindR_snoc, if_pos rfl]; exact h1
        · rw [idAt_snoc _ _ _ (by omega), if_pos rfl]; exact h2
      · have hr := kindR_rng (l := l) (p := p) (by have := open_kind h3; omega)
        have hp : p ≠ (l.length : Int) + 1 := by omega
        refine ⟨p, ?_, ?_, (hop p hp).2 ⟨h3, h4⟩⟩
        · rw [kindR_snoc, if_neg hp]; exact h1
        · rw [idAt_snoc _ _ _ hr.1, if_neg hp]; exact h2
  rw [hx]
  -- nothing ends
  have quiet : (askK e.k = 0 ∨ askK e.k = 2 ∨ askK e.k = 3 ∨ askK e.k = 7) → ((∃ p, kindR l p = k ∧ idAt l p = i ∧ openR l p = true ∧ ¬ ((b.opn e.r).k = 8 ∧ (b.opn e.r).k = askK e.k ∧ p = refAt l e.r) ∧ ¬ ((b.opn e.r).k = askK e.k ∧ p = e.r ∧ ((b.opn e.r).k = 12 ∨ (b.opn e.r).k = 17))) ↔ (k, i) ∈ b.used) := by
    intro ha
    rw [hu]
    constructor
    · rintro ⟨p, h1, h2, h3, -⟩; exact ⟨p, h1, h2, h3⟩
    · rintro ⟨p, h1, h2, h3⟩; exact ⟨p, h1, h2, h3, fun h => by omega, fun h => by omega⟩
  by_cases ko : opensK e.k = true
  · have ha : askK e.k = 0 := by rcases ho.1 ko with h | h | h | h <;> simp [askK, h]
    rw [quiet (.inl ha)]
    have n3 : ¬ (e.k = 3 ∨ e.k = 8) := by have := ho.1 ko; omega
    simp only [ko, true_and, n3, false_and, Bool.true_eq_false, or_false]
    refine or_congr ?_ Iff.rfl
    unfold thingOf
    by_cases k2 : e.k = 2
    · rw [if_pos k2]
      constructor
      · intro h; injection h with h _; exact absurd h hk
      · rintro ⟨h, -⟩; exact absurd (h.symm.trans k2) hk
    · rw [if_neg k2]
      constructor
      · intro h; injection h with h1 h2; exact ⟨h1.symm, h2.symm, by have := ho.1 ko; omega⟩
      · rintro ⟨h1, h2, -⟩; rw [h1, h2]
  · have ko' : opensK e.k = false := by simpa using ko
    have nk : ¬ (e.k = k ∧ e.i = i ∧ (e.k = 7 ∨ e.k = 12 ∨ e.k = 17)) := fun h => ko (ho.2 (.inr h.2.2))
    simp only [ko', nk, Bool.false_eq_true, false_and, false_or, true_and]
    by_cases k38 : e.k = 3 ∨ e.k = 8
    · rw [quiet (by rcases k38 with h | h <;> simp [askK, h])]
      simp only [k38, true_and]
      constructor
      · rintro (h | h)
        · exact h
        · omega
      · exact .inl
    · have n3 : e.k ≠ 3 := fun h => k38 (.inl h)
      have n8 : e.k ≠ 8 := fun h => k38 (.inr h)
      simp only [n3, n8, false_and, false_or, ne_eq, not_false_eq_true, true_and]
      -- what is ended is at place c, of id t
      have ended : ∀ c, kindR l c = (b.opn e.r).tk → idAt l c = (b.opn e.r).ti → openR l c = true → ((∃ p, kindR l p = k ∧ idAt l p = i ∧ openR l p = true ∧ ¬ (p = c)) ↔ ((k, i) ∈ b.used ∧ ¬ (k, i) = ((b.opn e.r).tk, (b.opn e.r).ti))) := by
        intro c c1 c2 c3
        rw [hu]
        constructor
        · rintro ⟨p, h1, h2, h3, h4⟩
          refine ⟨⟨p, h1, h2, h3⟩, fun he => ?_⟩
          injection he with e1 e2
          exact h4 (I.un p c (by omega) (by omega) h3 c3)
        · rintro ⟨⟨p, h1, h2, h3⟩, h4⟩
          refine ⟨p, h1, h2, h3, fun he => h4 ?_⟩
          subst he
          rw [← h1, ← h2, c1, c2]
      rcases a0 with a | a | a | a | a | a | a
      · rw [quiet (.inl a), I.opn0 h a]
        constructor
        · exact fun h => h.1
        · intro h
          refine ⟨h, fun he => ?_⟩
          injection he with e1 _
          obtain ⟨p, h1, _, h3⟩ := hu.1 h
          have := open_kind h3
          simp [Sta.none] at e1
          omega
      · exact absurd (a2.1 a) n3
      · rw [quiet (.inr (.inr (.inl a)))]
        have h3 := I.t23 e.r (.inr (by rw [lz1 (by omega)]; exact a))
        constructor
        · exact fun h => h.1
        · intro h
          refine ⟨h, fun he => ?_⟩
          injection he with e1 _
          exact hk (e1.trans h3.1)
      · exact absurd (a7.1 a) n8
      · have h8 : (b.opn e.r).k = 8 := by rw [lz1 (by omega)]; exact a
        have j := (I.j8 e.r).1 h8
        have t := I.t8 e.r h8
        have w := I.wk e.r j.1
        rw [← ended (refAt l e.r) (w.1.trans t.1.symm) t.2.symm j.2]
        refine exists_congr fun p => and_congr_right fun _ => and_congr_right fun _ => and_congr_right fun _ => ?_
        constructor
        · intro h1; exact ⟨fun he => h1 he.2.2, fun he => by omega⟩
        · rintro ⟨h1, h2⟩; exact fun he => h1 ⟨h8, h8.trans a.symm, he⟩
      · have h12 : (b.opn e.r).k = 12 := by rw [lz1 (by omega)]; exact a
        have j := (I.j12 e.r).1 h12
        have t := I.t7 e.r (.inr (.inl h12))
        rw [← ended e.r (by omega) t.2.symm j.2]
        refine exists_congr fun p => and_congr_right fun _ => and_congr_right fun _ => and_congr_right fun _ => ?_
        constructor
        · intro h1; exact ⟨fun he => by omega, fun he => h1 he.2.1⟩
        · rintro ⟨h1, h2⟩; exact fun he => h2 ⟨h12.trans a.symm, he, .inl h12⟩
      · have h17 : (b.opn e.r).k = 17 := by rw [lz1 (by omega)]; exact a
        have j := (I.j17 e.r).1 h17
        have t := I.t7 e.r (.inr (.inr h17))
        rw [← ended e.r (by omega) t.2.symm j.2]
        refine exists_congr fun p => and_congr_right fun _ => and_congr_right fun _ => and_congr_right fun _ => ?_
        constructor
        · intro h1; exact ⟨fun he => by omega, fun he => h1 he.2.1⟩
        · rintro ⟨h1, h2⟩; exact fun he => h2 ⟨h17.trans a.symm, he, .inr h17⟩

set_option maxHeartbeats 4000000 in
theorem Inv.step {l : List Ev} {b : Bo} {e : Ev} (I : Inv l b) (hf : b.misfit e = 0) : Inv (l ++ [e]) (b.add e) := by
  obtain ⟨hr, hnow, hfst, hclo, hl⟩ := misfit_zero hf
  have her := I.er hl
  have hadd := fun p => I.opn_add (e := e) p
  have hK := fun p => kindR_snoc l e p
  have hRf := fun p => refAt_snoc l e p
  have hId := fun p => idAt_snoc l e p
  obtain ⟨t2, t3, t4, t0⟩ := I.task hl
  obtain ⟨lz1, lz2⟩ := lacks_zero hl
  obtain ⟨a2, a3, a7, a8, a12, a17, a0⟩ := ask_of e.k
  have ho := opens_of e.k
  have hlen : ((l ++ [e]).length : Int) = (l.length : Int) + 1 := by simp
  have hop := fun p (hp : p ≠ (l.length : Int) + 1) => I.opens hl hp
  have hoh := open_here (e := e) I.bd her.2
  have hke : 1 ≤ e.k := by unfold Ev.right at hr; simp at hr; omega
  have hN : (newSt b e).k = 0 ∧ newSt b e = Sta.none ∨ (newSt b e).k = e.k ∧ (opensK e.k = true ∨ e.k = 3 ∨ e.k = 8) := by
    unfold newSt; split
    · right; exact ⟨rfl, .inl (by assumption)⟩
    · split
      · right; exact ⟨rfl, .inr (by assumption)⟩
      · left; exact ⟨rfl, rfl⟩
  have hN2 : (opensK e.k = true ∨ e.k = 3 ∨ e.k = 8) → (newSt b e).k = e.k := by
    rintro (h | h)
    · unfold newSt; rw [if_pos h]
    · unfold newSt; split
      · rfl
      · first | rfl | rw [if_pos h]
  have hs0 : (Sta.none).k = 0 := rfl
  have hw8 : (b.opn e.r).k = 8 → kindR l (refAt l e.r) = 7 ∧ worksR l (refAt l e.r) = e.r := fun h => I.wk e.r ((I.j8 e.r).1 h).1
  constructor
  case cnt => simp [Bo.add, I.cnt]
  case now => simp [Bo.add]
  case clo =>
    have := I.clo; rw [hclo] at this
    simp [Bo.add, ← this]
  case rng =>
    intro p h
    rw [hadd] at h
    have := I.rng p
    grind
  case nil =>
    intro p h
    rw [hadd] at h ⊢
    have := I.nil p
    grind
  case kin =>
    intro p h
    rw [hadd] at h ⊢
    rw [hK]
    have := I.kin p
    grind
  case knd =>
    intro p
    rw [hadd]
    have := I.knd p
    grind
  case j2 =>
    intro p
    rw [hadd]
    have := I.j2 p
    have := I.j2 e.r
    have := I.rng p
    grind (splits := 25)
  case j3 =>
    intro p
    rw [hadd]
    have := I.j3 p
    have := I.j3 e.r
    have := I.rng p
    grind (splits := 25)
  case j7 =>
    intro p
    rw [hadd, hK, worksR_snoc]
    have := I.j7 p
    have := I.j7 e.r
    have := I.rng p
    have hw : worksR l ((l.length : Int) + 1) = 0 := works_far _ (fun x hx => by have := I.bd x hx; omega)
    clear hop hoh hId hRf t2 t3 t4 t0
    grind (splits := 25)
  case j12 =>
    intro p
    rw [hadd, hK]
    have := I.j12 p
    have := I.j12 e.r
    have := I.rng p
    have := hop p
    clear hop hId hRf t2 t3 t4 t0
    grind (splits := 25)
  case j17 =>
    intro p
    rw [hadd, hK]
    have := I.j17 p
    have := I.j17 e.r
    have := I.rng p
    have := hop p
    clear hop hId hRf t2 t3 t4 t0
    grind (splits := 25)
  case j8 =>
    intro p
    rw [hadd, hK]
    by_cases hp : p = (l.length : Int) + 1
    · subst hp
      rw [if_pos rfl, if_pos rfl, hRf _ (by omega), if_pos rfl]
      have := hop e.r (by omega)
      have := I.j7 e.r
      clear hop hId hRf t2 t3 t4 t0
      constructor
      · intro h8
        have e8 : e.k = 8 := by grind
        have h7 := lz1 (by rw [a7.2 e8]; decide)
        rw [a7.2 e8] at h7
        have h0 := (I.j7 e.r).1 h7
        refine ⟨e8, ?_⟩
        have : openR l e.r = true := by unfold openR; simp [h0]
        grind
      · rintro ⟨e8, _⟩
        rw [hN2 (.inr (.inr e8)), e8]
    · have hj := I.j8 p
      have hj2 := I.j8 e.r
      have hrg := I.rng p
      rw [if_neg hp, if_neg hp]
      by_cases h8 : kindR l p = 8
      · obtain ⟨w1, w2⟩ := I.wk p h8
        have hq := I.pos8 h8
        have hrg2 := kindR_rng (l := l) (p := p) (by rw [h8]; decide)
        rw [hRf p (by omega), if_neg hp]
        have h1 := hop (refAt l p) (by omega)
        have w3 := fun h : kindR l e.r = 8 => I.wk e.r h
        have hkr := I.kin e.r
        by_cases he : p = e.r
        · subst he
          simp only [if_true, hs0]
          have h2 := I.kin e.r
          have h3 := I.knd e.r
          have h4 := I.j7 e.r
          grind (splits := 25)
        · rw [if_neg he, hj, h1]
          have : ¬ ((b.opn e.r).k = 8 ∧ refAt l p = refAt l e.r) := fun ⟨x1, x2⟩ => by
            have := (I.wk e.r ((hj2.1 x1).1)).2
            rw [← x2, w2] at this
            exact he this
          have h5 : (b.opn e.r).k = 12 → refAt l p ≠ e.r := fun x y => by rw [y, ← hkr (by omega)] at w1; omega
          have h6 : (b.opn e.r).k = 17 → refAt l p ≠ e.r := fun x y => by rw [y, ← hkr (by omega)] at w1; omega
          grind (splits := 25)
      · clear hop hId hRf t2 t3 t4 t0
        grind (splits := 25)
  case t23 =>
    intro p
    rw [hadd]
    have := I.t23 p
    have := I.t23 e.r
    have hn : e.k = 2 → newSt b e = ⟨2, 0, 2⟩ := fun h => by unfold newSt thingOf; simp [opensK, h]
    have hn2 : e.k = 3 → newSt b e = ⟨(b.opn e.r).tk, (b.opn e.r).ti, 3⟩ := fun h => by unfold newSt; simp [opensK, h]
    clear hop hId hRf t2 t3 t4 t0 hoh
    grind (splits := 25)
  case t7 =>
    intro p h
    rw [hadd] at h ⊢
    have := I.t7 p
    have := I.rng p
    have hn : e.k = 7 ∨ e.k = 12 ∨ e.k = 17 → newSt b e = ⟨e.k, e.i, e.k⟩ := fun h => by
      unfold newSt thingOf; rw [if_pos (ho.2 (.inr h)), if_neg (by omega)]
    have := hId p
    clear hop hId hRf t2 t3 t4 t0 hoh
    grind (splits := 25)
  case t8 =>
    intro p h
    rw [hadd] at h ⊢
    by_cases hp : p = (l.length : Int) + 1
    · rw [if_pos hp] at h ⊢
      have e8 : e.k = 8 := by grind
      have hn : newSt b e = ⟨(b.opn e.r).tk, (b.opn e.r).ti, 8⟩ := by unfold newSt; simp [opensK, e8]
      have h7 := lz1 (by rw [a7.2 e8]; decide)
      rw [a7.2 e8] at h7
      have h5 := I.t7 e.r (.inl h7)
      have h6 := I.rng e.r (by omega)
      rw [hn, hRf p (by omega), if_pos hp, hId _ (by omega), if_neg (by omega)]
      exact ⟨h5.1.trans h7, h5.2⟩
    · rw [if_neg hp] at h ⊢
      by_cases he : p = e.r
      · rw [if_pos he] at h; cases h
      · rw [if_neg he] at h ⊢
        have h1 := I.t8 p h
        have h2 := I.rng p (by omega)
        have h3 := I.pos8 ((I.j8 p).1 h).1
        rw [hRf p (by omega), if_neg hp, hId _ (by omega), if_neg (by omega)]
        exact h1
  case wk =>
    intro p h
    rw [hK] at h
    have h0 := worksR_snoc l e
    by_cases hp : p = (l.length : Int) + 1
    · rw [if_pos hp] at h
      have h7 := lz1 (by rw [a7.2 h]; decide)
      rw [a7.2 h] at h7
      have h2 := (I.j7 e.r).1 h7
      rw [hRf p (by omega), if_pos hp, hK, if_neg (by omega), h0, h2.2]
      simp [h, hp, h2.1]
    · rw [if_neg hp] at h
      have h2 := I.wk p h
      have h3 := kindR_rng (l := l) (p := p) (by rw [h]; decide)
      have h4 := I.pos8 h
      rw [hRf p (by omega), if_neg hp, hK, if_neg (by omega), h0, h2.2, if_pos (by omega)]
      exact ⟨h2.1, rfl⟩
  case bd =>
    intro x hx
    rw [hlen]
    rcases List.mem_append.1 hx with h | h
    · have := I.bd x h; omega
    · simp at h; subst h; omega
  case un =>
    intro p q hk hi hop1 hop2
    have far : ∀ p, openR (l ++ [e]) p = true → 1 ≤ p ∧ p ≤ l.length + 1 := fun p h => by
      have := kindR_rng (l := l ++ [e]) (p := p) (by have := open_kind h; omega)
      omega
    have hx := far p hop1
    have hy := far q hop2
    have new : ∀ p, 1 ≤ p → p ≠ (l.length : Int) + 1 → kindR (l ++ [e]) p = e.k → idAt (l ++ [e]) p = e.i → openR (l ++ [e]) p = true → openR (l ++ [e]) ((l.length : Int) + 1) = true → False := fun p h1 h2 h3 h4 h5 h6 => by
      have ho1 := (hop p h2).1 h5
      have hc := hoh.1 h6
      rw [hK, if_neg h2] at h3
      rw [hId p h1, if_neg h2] at h4
      have hz : askK e.k = 0 := by rcases hc with h | h | h <;> simp [askK, h]
      have := (lz2 hz).2 (ho.2 (.inr hc))
      have ht : thingOf e = (e.k, e.i) := by unfold thingOf; rw [if_neg (by omega)]
      rw [ht, I.uId _ _ (by omega)] at this
      exact this ⟨p, h3, h4, ho1.1⟩
    by_cases hp : p = (l.length : Int) + 1
    · by_cases hq : q = (l.length : Int) + 1
      · omega
      · subst hp
        rw [hK, if_pos rfl] at hk
        rw [hId _ hx.1, if_pos rfl] at hi
        exact (new q hy.1 hq hk.symm hi.symm hop2 hop1).elim
    · by_cases hq : q = (l.length : Int) + 1
      · subst hq
        rw [hK _, hK _, if_pos rfl] at hk
        rw [hId _ hx.1, hId _ hy.1, if_pos rfl] at hi
        exact (new p hx.1 hp (by rw [hK]; exact hk) (by rw [hId _ hx.1]; exact hi) hop1 hop2).elim
      · rw [hK, hK, if_neg hp, if_neg hq] at hk
        rw [hId _ hx.1, hId _ hy.1, if_neg hp, if_neg hq] at hi
        exact I.un p q hk hi ((hop p hp).1 hop1).1 ((hop q hq).1 hop2).1
  case nodup =>
    have := I.nodup
    simp only [Bo.add]
    split
    · split
      · exact this
      · exact List.nodup_cons.2 ⟨by assumption, this⟩
    · split
      · exact this
      · exact this.erase _
  case u2 =>
    intro i hm
    have h1 := I.u2 i
    have hm2 : (2, i) ∈ b.used ∨ (opensK e.k = true ∧ (2, i) = thingOf e) := by
      simp only [Bo.add] at hm
      split at hm
      · split at hm
        · exact .inl hm
        · rcases List.mem_cons.1 hm with h | h
          · exact .inr ⟨by assumption, h⟩
          · exact .inl h
      · split at hm
        · exact .inl hm
        · exact .inl (List.mem_of_mem_erase hm)
    rcases hm2 with h | ⟨h2, h3⟩
    · exact h1 h
    · unfold thingOf at h3
      split at h3
      · injection h3
      · injection h3 with h3 _; omega
  case uTask => exact I.uTask_step hl
  case uId => exact fun k i hk => I.uId_step hl hk

theorem Hist.inv {l : List Ev} {b : Bo} (h : Hist l b) : Inv l b := by
  induction h with
  | nil => exact Inv.new
  | snoc _ hf ih => exact ih.step hf
theorem Hist.book {l : List Ev} {b : Bo} (h : Hist l b) : b = bookOf l := by
  induction h with
  | nil => rfl
  | snoc _ hf ih => rw [ih]; simp [bookOf]

/-- WHAT THE BOOK SAYS OF THE NEXT EVENT IS WHAT THE REFERENCE SAYS. -/
theorem Inv.why {l : List Ev} {b : Bo} (I : Inv l b) (e : Ev) : b.misfit e = whyR l e := by
  unfold Bo.misfit whyR
  by_cases hr : e.right = false
  · simp [hr]
  rw [if_neg hr, if_neg hr]
  have hr1 : e.right = true := by simpa using hr
  have hea : 0 ≤ e.a ∧ 1 ≤ e.k := by unfold Ev.right at hr1; simp [inE] at hr1; omega
  have hnow : (e.a < b.now) ↔ (l ≠ [] ∧ e.a < (l.getLast?.getD default).a) := by
    rw [I.now]
    cases hl : l.getLast? with
    | none =>
      have : l = [] := List.getLast?_eq_none_iff.1 hl
      simp [this]; omega
    | some x =>
      have : l ≠ [] := fun h => by subst h; cases hl
      simp [this]
  by_cases hn : e.a < b.now
  · rw [if_pos hn, if_pos (hnow.1 hn)]
  rw [if_neg hn, if_neg (fun h => hn (hnow.2 h)), I.cnt, I.clo]
  by_cases hf : ((l.length == 0) != (e.k == 1)) = true
  · rw [if_pos hf, if_pos hf]
  rw [if_neg hf, if_neg hf]
  by_cases hc : (l.any fun x => closesK x.k) = true
  · rw [if_pos hc, if_pos hc]
  rw [if_neg hc, if_neg hc]
  unfold Bo.lacks
  obtain ⟨a2, a3, a7, a8, a12, a17, a0⟩ := ask_of e.k
  have key : askK e.k ≠ 0 → ((b.opn e.r).k = askK e.k ↔ refsR l e = true) := by
    intro h0
    unfold refsR
    rcases a0 with a | a | a | a | a | a | a
    · exact absurd a h0
    · have := a2.1 a
      rw [a, if_pos this, I.j2 e.r]
      obtain ⟨x, y⟩ := taskR l
      simp only [Prod.mk.injEq, Bool.and_eq_true, beq_iff_eq]
      constructor <;> rintro ⟨h1, h2⟩ <;> exact ⟨h1, h2.symm⟩
    · have h3 := a3.1 a
      rw [a, if_neg (by omega), if_pos h3, I.j3 e.r]
      obtain ⟨x, y⟩ := taskR l
      simp only [Prod.mk.injEq, Bool.and_eq_true, beq_iff_eq]
      constructor <;> rintro ⟨h1, h2⟩ <;> exact ⟨h1, h2.symm⟩
    · have h8 := a7.1 a
      rw [a, if_neg (by omega), if_neg (by omega), if_pos h8, I.j7 e.r]; simp
    · have h9 := a8.1 a
      rw [a, if_neg (by omega), if_neg (by omega), if_neg (by omega), if_pos h9, I.j8 e.r]; simp
    · have h13 := a12.1 a
      rw [a, if_neg (by omega), if_neg (by omega), if_neg (by omega), if_neg (by omega), if_pos h13, I.j12 e.r]; simp
    · have h18 := a17.1 a
      rw [a, if_neg (by omega), if_neg (by omega), if_neg (by omega), if_neg (by omega), if_neg (by omega), if_pos h18, I.j17 e.r]; simp
  by_cases h0 : askK e.k = 0
  · have hrr : refsR l e = (e.r == 0) := by
      have n3 : e.k ≠ 3 := fun h => by rw [a2.2 h] at h0; cases h0
      have n4 : ¬ (e.k = 4 ∨ e.k = 5 ∨ e.k = 6) := fun h => by rw [a3.2 h] at h0; cases h0
      have n8 : e.k ≠ 8 := fun h => by rw [a7.2 h] at h0; cases h0
      have n9 : ¬ (e.k = 9 ∨ e.k = 10 ∨ e.k = 11) := fun h => by rw [a8.2 h] at h0; cases h0
      have n13 : ¬ (e.k = 13 ∨ e.k = 14) := fun h => by rw [a12.2 h] at h0; cases h0
      have n18 : e.k ≠ 18 := fun h => by rw [a17.2 h] at h0; cases h0
      unfold refsR
      rw [if_neg n3, if_neg n4, if_neg n8, if_neg n9, if_neg n13, if_neg n18]
    rw [if_neg (by simpa using h0), hrr]
    by_cases hz : e.r = 0
    · have e1 : (e.r == 0) = true := by simpa using hz
      rw [if_neg (by simpa using hz), e1]
      simp only [Bool.true_eq_false, if_false]
      by_cases k2 : e.k = 2
      · have ht : thingOf e = (2, 0) := by unfold thingOf; rw [if_pos k2]
        rw [if_pos ((opens_of _).2 (.inl k2)), ht]
        by_cases hu : (taskR l).1 = 0
        · rw [if_neg (fun h => (I.uTask.1 h) hu), if_neg (fun h => h.2 hu), if_neg (fun h => by omega)]
        · rw [if_pos (I.uTask.2 hu), if_pos k2, if_pos ⟨k2, hu⟩]
      · rw [if_neg (c := e.k = 2 ∧ _) (fun h => k2 h.1)]
        by_cases k7 : e.k = 7 ∨ e.k = 12 ∨ e.k = 17
        · have ht : thingOf e = (e.k, e.i) := by unfold thingOf; rw [if_neg k2]
          have hu : ((e.k, e.i) ∈ b.used) ↔ (∃ i, i < l.length ∧ (l.getD i default).k = e.k ∧ (l.getD i default).i = e.i ∧ openR l (i + 1) = true) := by
            rw [I.uId _ _ k2]
            constructor
            · rintro ⟨p, h1, h2, h3⟩
              have hr := kindR_rng (l := l) (p := p) (by omega)
              refine ⟨(p - 1).toNat, by omega, ?_, h2, ?_⟩
              · unfold kindR at h1; rw [if_pos hr] at h1; exact h1
              · rw [show (((p - 1).toNat : Nat) : Int) + 1 = p by omega]; exact h3
            · rintro ⟨i, h1, h2, h3, h4⟩
              refine ⟨(i : Int) + 1, ?_, ?_, h4⟩
              · unfold kindR; rw [if_pos (by omega), show ((i : Int) + 1 - 1).toNat = i by omega]; exact h2
              · unfold idAt; rw [show ((i : Int) + 1 - 1).toNat = i by omega]; exact h3
          rw [if_pos ((opens_of _).2 (.inr k7)), ht]
          by_cases hm : (e.k, e.i) ∈ b.used
          · rw [if_pos hm, if_neg k2, if_pos ⟨k7, hu.1 hm⟩]
          · rw [if_neg hm, if_neg (fun h => hm (hu.2 h.2))]
        · rw [if_neg (fun h => by have := (opens_of _).1 h; omega), if_neg (fun h => k7 h.1)]
    · have e1 : (e.r == 0) = false := by simpa using hz
      rw [if_pos hz, e1]; simp
  · rw [if_pos h0]
    have hno : ∀ x : Nat, (if e.k = 2 ∧ (taskR l).1 ≠ 0 then 6 else if (e.k = 7 ∨ e.k = 12 ∨ e.k = 17) ∧ (∃ i, i < l.length ∧ (l.getD i default).k = e.k ∧ (l.getD i default).i = e.i ∧ openR l (i + 1) = true) then 7 else 0) = 0 := fun _ => by
      have n2 : e.k ≠ 2 := fun h => h0 (by simp [askK, h])
      have n7 : ¬ (e.k = 7 ∨ e.k = 12 ∨ e.k = 17) := fun h => h0 (by rcases h with h | h | h <;> simp [askK, h])
      rw [if_neg (fun h => n2 h.1), if_neg (fun h => n7 h.1)]
    by_cases hx : refsR l e = true
    · rw [if_pos ((key h0).2 hx), if_neg (by simp [hx]), hno 0]
    · rw [if_neg (fun h => hx ((key h0).1 h)), if_pos (by simpa using hx)]
/-- The reference's check. -/
def refCheck (l : List Ev) : Nat → List Ev → Option (Nat × Nat)
  | _, [] => none
  | i, e :: m => if whyR (l.take i) e ≠ 0 then some (i + 1, whyR (l.take i) e) else refCheck l (i + 1) m
theorem check_same (l : List Ev) : ∀ (m a : List Ev) (b : Bo), l = a ++ m → Hist a b → b.check m = refCheck l a.length m
  | [], a, b, _, _ => rfl
  | e :: m, a, b, hl, hh => by
    have hi := hh.inv
    have ht : l.take a.length = a := by rw [hl]; simp
    unfold Bo.check refCheck
    rw [ht, ← hi.why e, hi.cnt]
    by_cases h : b.misfit e = 0
    · rw [if_neg (by simpa using h), if_neg (by simpa using h)]
      have := check_same l m (a ++ [e]) (b.add e) (by rw [hl]; simp) (.snoc hh h)
      rw [this]; simp
    · rw [if_pos h, if_pos h]
theorem check_hist : ∀ (m a : List Ev) (b : Bo), Hist a b → b.check m = none → Hist (a ++ m) (m.foldl Bo.add b)
  | [], a, b, h, _ => by simpa using h
  | e :: m, a, b, h, hc => by
    unfold Bo.check at hc
    split at hc
    · cases hc
    · rename_i h1
      have := check_hist m (a ++ [e]) (b.add e) (.snoc h (by simpa using h1)) hc
      simpa using this
theorem hist_of {l : List Ev} (h : Bo.new.check l = none) : Hist l (bookOf l) := by
  have := check_hist l [] Bo.new .nil h
  rw [List.nil_append] at this
  exact this
theorem check_append : ∀ (l m : List Ev) (b : Bo), b.check (l ++ m) = (b.check l).or ((l.foldl Bo.add b).check m)
  | [], m, b => rfl
  | e :: l, m, b => by
    simp only [List.cons_append, Bo.check, List.foldl_cons]
    split
    · rfl
    · exact check_append l m (b.add e)
/-- Behind what closes nothing may stand. -/
theorem closed_misfit {b : Bo} (h : b.closed = true) (e : Ev) : b.misfit e ≠ 0 := by
  unfold Bo.misfit
  split
  · simp
  split
  · simp
  split
  · simp
  · first | (rw [if_pos h]; simp) | simp
end Go.Proofs.YtkinbcmnfpkncaaDoor
