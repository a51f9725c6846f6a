import Derived.Test.YtieoeoonopcjbaaGreatDoorKs02
import Derived.Test.YtieoeoonopcjbaaGreatDoorChecked
import Derived.Laws.IdiomCopy
import Derived.Deep.Upon
import Derived.Lib.AppendZerosOnto
import Derived.Lib.SliceRun
import Derived.Deep.QuietTactic
import Derived.BigQuiet
import Derived.Laws.EntriesVeiled
import Derived.StillTailTactics
import Derived.Deep.RegionHeld3
import Derived.Deep.DeepAppendWide

/- Histories as plain data: what may come next, what a book of them says, what the reference asks. -/
namespace Go.Proofs.YtieoeoonopcjbaaGreatDoor

structure Ev where
  k : Int
  a : Int
  r : Int
  i : Int
  l : Int
  n : Int
  d : List UInt8
instance : Inhabited Ev := ⟨⟨0, 0, 0, 0, 0, 0, []⟩⟩

def inE (v : Int) : Bool := decide (0 ≤ v) && decide (v ≤ 1099511627776)
def Ev.right (e : Ev) : Bool := decide (1 ≤ e.k) && decide (e.k ≤ 23) && inE e.a && inE e.r && inE e.i && inE e.l && inE e.n && decide (e.d.length ≤ 4096)
def closesK (k : Int) : Bool := decide (19 ≤ k) && decide (k ≤ 23)
def opensK (k : Int) : Bool := k == 2 || k == 7 || k == 12 || k == 17
/-- The kind that an event's Ref asks for; 0: it has none. -/
def askK (k : Int) : Int := if k = 3 then 2 else if k = 4 ∨ k = 5 ∨ k = 6 then 3 else if k = 8 then 7 else if k = 9 ∨ k = 10 ∨ k = 11 then 8 else if k = 13 ∨ k = 14 then 12 else if k = 18 then 17 else 0
def thingOf (e : Ev) : Int × Int := if e.k = 2 then (2, 0) else (e.k, e.i)

/-! ### the program's book -/
structure Sta where
  tk : Int
  ti : Int
  k : Int
def Sta.none : Sta := ⟨0, 0, 0⟩
structure Bo where
  count : Nat
  now : Int
  closed : Bool
  opn : Int → Sta
  used : List (Int × Int)
def Bo.new : Bo := ⟨0, 0, false, fun _ => Sta.none, []⟩
/-- 0: nothing; 1 event, 2 time, 3 first, 4 closed, 5 ref, 6 task, 7 id. -/
def Bo.lacks (b : Bo) (e : Ev) : Nat :=
  if askK e.k ≠ 0 then (if (b.opn e.r).k = askK e.k then 0 else 5)
  else if e.r ≠ 0 then 5
  else if opensK e.k = true then (if thingOf e ∈ b.used then (if e.k = 2 then 6 else 7) else 0) else 0
def Bo.misfit (b : Bo) (e : Ev) : Nat :=
  if e.right = false then 1 else if e.a < b.now then 2 else if (b.count == 0) != (e.k == 1) then 3 else if b.closed = true then 4 else b.lacks e
def Bo.add (b : Bo) (e : Ev) : Bo where
  count := b.count + 1
  now := e.a
  closed := closesK e.k
  opn p := if p = (b.count : Int) + 1 ∧ opensK e.k = true then ⟨(thingOf e).1, (thingOf e).2, e.k⟩
    else if p = (b.count : Int) + 1 ∧ (e.k = 3 ∨ e.k = 8) then ⟨(b.opn e.r).tk, (b.opn e.r).ti, e.k⟩
    else if p = e.r then Sta.none else b.opn p
  used := if opensK e.k = true then (if thingOf e ∈ b.used then b.used else thingOf e :: b.used)
    else if e.k = 3 ∨ e.k = 8 then b.used else b.used.erase ((b.opn e.r).tk, (b.opn e.r).ti)
def bookOf (l : List Ev) : Bo := l.foldl Bo.add Bo.new
def Bo.check : Bo → List Ev → Option (Nat × Nat)
  | _, [] => none
  | b, e :: l => if b.misfit e ≠ 0 then some (b.count + 1, b.misfit e) else (b.add e).check l

/-! ### the reference -/
def kindR (l : List Ev) (p : Int) : Int := if 1 ≤ p ∧ p ≤ l.length then (l.getD (p - 1).toNat default).k else 0
def namedR (l : List Ev) (p : Int) (ks : List Int) : Bool := l.any fun e => e.r == p && ks.contains e.k
def worksR : List Ev → Int → Int
  | [], _ => 0
  | e :: l, p => if e.k = 8 ∧ e.r = p then 1 else if worksR l p = 0 then 0 else worksR l p + 1
def openR (l : List Ev) (p : Int) : Bool :=
  if kindR l p = 7 then (worksR l p == 0 || !namedR l (worksR l p) [9, 10, 11])
  else if kindR l p = 12 then !namedR l p [13, 14]
  else if kindR l p = 17 then !namedR l p [18]
  else false
def lastV : List Ev → Int → Int
  | [], _ => 0
  | e :: l, k => if e.k = k then (l.length : Int) + 1 else lastV l k
def lastR (l : List Ev) (k : Int) : Int := lastV l.reverse k
def taskR (l : List Ev) : Int × Int :=
  if lastR l 2 = 0 then (0, 0) else if lastR l 3 < lastR l 2 then (1, lastR l 2)
  else if namedR l (lastR l 3) [4, 5, 6] = true then (0, 0) else (2, lastR l 3)
def refAt (l : List Ev) (p : Int) : Int := (l.getD (p - 1).toNat default).r
def idAt (l : List Ev) (p : Int) : Int := (l.getD (p - 1).toNat default).i
def refsR (l : List Ev) (e : Ev) : Bool :=
  if e.k = 3 then (taskR l).1 == 1 && e.r == (taskR l).2
  else if e.k = 4 ∨ e.k = 5 ∨ e.k = 6 then (taskR l).1 == 2 && e.r == (taskR l).2
  else if e.k = 8 then kindR l e.r == 7 && worksR l e.r == 0
  else if e.k = 9 ∨ e.k = 10 ∨ e.k = 11 then kindR l e.r == 8 && openR l (refAt l e.r)
  else if e.k = 13 ∨ e.k = 14 then kindR l e.r == 12 && openR l e.r
  else if e.k = 18 then kindR l e.r == 17 && openR l e.r
  else e.r == 0
def whyR (l : List Ev) (e : Ev) : Nat :=
  if e.right = false then 1
  else if l ≠ [] ∧ e.a < (l.getLast?.getD default).a then 2
  else if (l.length == 0) != (e.k == 1) then 3
  else if l.any (fun x => closesK x.k) = true then 4
  else if refsR l e = false then 5
  else if e.k = 2 ∧ (taskR l).1 ≠ 0 then 6
  else if (e.k = 7 ∨ e.k = 12 ∨ e.k = 17) ∧ (∃ i, i < l.length ∧ (l.getD i default).k = e.k ∧ (l.getD i default).i = e.i ∧ openR l (i + 1) = true) then 7
  else 0

/-! ### one event more -/
theorem kindR_snoc (l : List Ev) (e : Ev) (p : Int) : kindR (l ++ [e]) p = if p = (l.length : Int) + 1 then e.k else kindR l p := by
  unfold kindR
  by_cases h : p = (l.length : Int) + 1
  · subst h
    rw [if_pos (by simp; omega), if_pos rfl]
    rw [show ((l.length : Int) + 1 - 1).toNat = l.length by omega]
    simp [List.getD]
  · rw [if_neg h]
    by_cases h2 : 1 ≤ p ∧ p ≤ l.length
    · rw [if_pos (by simp; omega), if_pos h2]
      have : (p - 1).toNat < l.length := by omega
      generalize (p - 1).toNat = j at *
      simp [List.getD, List.getElem?_append_left this]
    · rw [if_neg h2, if_neg (by simp; omega)]
theorem at_snoc (l : List Ev) (e : Ev) (p : Int) (h : 1 ≤ p) : (l ++ [e]).getD (p - 1).toNat default = if p = (l.length : Int) + 1 then e else l.getD (p - 1).toNat default := by
  by_cases h1 : p = (l.length : Int) + 1
  · subst h1
    rw [if_pos rfl, show ((l.length : Int) + 1 - 1).toNat = l.length by omega]
    simp [List.getD]
  · rw [if_neg h1]
    by_cases h2 : p ≤ l.length
    · have : (p - 1).toNat < l.length := by omega
      generalize (p - 1).toNat = j at *
      simp [List.getD, List.getElem?_append_left this]
    · have h3 : l.length ≤ (p - 1).toNat := by omega
      have h4 : (l ++ [e]).length ≤ (p - 1).toNat := by simp; omega
      simp only [List.getD, List.getElem?_eq_none h3, List.getElem?_eq_none h4]
theorem namedR_snoc (l : List Ev) (e : Ev) (p : Int) (ks : List Int) : namedR (l ++ [e]) p ks = (namedR l p ks || (e.r == p && ks.contains e.k)) := by
  simp [namedR]
theorem worksR_le (l : List Ev) (p : Int) : 0 ≤ worksR l p ∧ worksR l p ≤ l.length := by
  induction l with
  | nil => simp [worksR]
  | cons e l ih => simp only [worksR, List.length_cons]; split <;> (try split) <;> omega
theorem worksR_snoc (l : List Ev) (e : Ev) (p : Int) : worksR (l ++ [e]) p = if worksR l p ≠ 0 then worksR l p else if e.k = 8 ∧ e.r = p then (l.length : Int) + 1 else 0 := by
  induction l with
  | nil => simp [worksR]
  | cons x l ih =>
    have := worksR_le l p
    simp only [List.cons_append, worksR, ih, List.length_cons]
    by_cases h : x.k = 8 ∧ x.r = p
    · simp [h]
    · by_cases h2 : worksR l p = 0
      · by_cases h3 : e.k = 8 ∧ e.r = p
        · simp only [h, h2, h3]; simp; omega
        · simp [h, h2, h3]
      · have : worksR l p + 1 ≠ 0 := by omega
        simp [h, h2, this]
theorem lastR_snoc (l : List Ev) (e : Ev) (k : Int) : lastR (l ++ [e]) k = if e.k = k then (l.length : Int) + 1 else lastR l k := by
  simp [lastR, lastV]
theorem lastV_le (l : List Ev) (k : Int) : 0 ≤ lastV l k ∧ lastV l k ≤ l.length := by
  induction l with
  | nil => simp [lastV]
  | cons e l ih => simp only [lastV, List.length_cons]; split <;> omega
theorem lastR_le (l : List Ev) (k : Int) : 0 ≤ lastR l k ∧ lastR l k ≤ l.length := by
  have := lastV_le l.reverse k; simpa [lastR] using this

/-- A history that may be, and its book. -/
inductive Hist : List Ev → Bo → Prop
  | nil : Hist [] Bo.new
  | snoc {l : List Ev} {b : Bo} {e : Ev} : Hist l b → b.misfit e = 0 → Hist (l ++ [e]) (b.add e)

/-- What a book says, in the reference's words. -/
structure Inv (l : List Ev) (b : Bo) : Prop where
  cnt : b.count = l.length
  now : b.now = (l.getLast?.map Ev.a).getD 0
  clo : b.closed = l.any (fun x => closesK x.k)
  rng : ∀ p, (b.opn p).k ≠ 0 → 1 ≤ p ∧ p ≤ l.length
  nil : ∀ p, (b.opn p).k = 0 → b.opn p = Sta.none
  kin : ∀ p, (b.opn p).k ≠ 0 → (b.opn p).k = kindR l p
  knd : ∀ p, (b.opn p).k = 0 ∨ (b.opn p).k = 2 ∨ (b.opn p).k = 3 ∨ (b.opn p).k = 7 ∨ (b.opn p).k = 8 ∨ (b.opn p).k = 12 ∨ (b.opn p).k = 17
  j2 : ∀ p, (b.opn p).k = 2 ↔ (taskR l = (1, p))
  j3 : ∀ p, (b.opn p).k = 3 ↔ (taskR l = (2, p))
  j7 : ∀ p, (b.opn p).k = 7 ↔ (kindR l p = 7 ∧ worksR l p = 0)
  j8 : ∀ p, (b.opn p).k = 8 ↔ (kindR l p = 8 ∧ openR l (refAt l p) = true)
  j12 : ∀ p, (b.opn p).k = 12 ↔ (kindR l p = 12 ∧ openR l p = true)
  j17 : ∀ p, (b.opn p).k = 17 ↔ (kindR l p = 17 ∧ openR l p = true)
  t23 : ∀ p, (b.opn p).k = 2 ∨ (b.opn p).k = 3 → (b.opn p).tk = 2 ∧ (b.opn p).ti = 0
  t7 : ∀ p, (b.opn p).k = 7 ∨ (b.opn p).k = 12 ∨ (b.opn p).k = 17 → (b.opn p).tk = (b.opn p).k ∧ (b.opn p).ti = idAt l p
  t8 : ∀ p, (b.opn p).k = 8 → (b.opn p).tk = 7 ∧ (b.opn p).ti = idAt l (refAt l p)
  uTask : (2, 0) ∈ b.used ↔ (taskR l).1 ≠ 0
  uId : ∀ k i, k ≠ 2 → ((k, i) ∈ b.used ↔ ∃ p, kindR l p = k ∧ idAt l p = i ∧ openR l p = true)
  u2 : ∀ i, (2, i) ∈ b.used → i = 0
  nodup : b.used.Nodup
  wk : ∀ p, kindR l p = 8 → kindR l (refAt l p) = 7 ∧ worksR l (refAt l p) = p
  un : ∀ p q, kindR l p = kindR l q → idAt l p = idAt l q → openR l p = true → openR l q = true → p = q
  bd : ∀ x ∈ l, x.r ≤ l.length

theorem kindR_nil (p : Int) : kindR [] p = 0 := by
  unfold kindR; rw [if_neg (by simp; omega)]
theorem openR_nil (p : Int) : openR [] p = false := by
  unfold openR; rw [kindR_nil]; rfl
theorem Inv.new : Inv [] Bo.new := by
  constructor <;> simp [Bo.new, Sta.none, taskR, lastR, lastV, kindR_nil, openR_nil]
theorem refAt_snoc (l : List Ev) (e : Ev) (p : Int) (h : 1 ≤ p) : refAt (l ++ [e]) p = if p = (l.length : Int) + 1 then e.r else refAt l p := by
  unfold refAt; rw [at_snoc l e p h]; split <;> rfl
theorem idAt_snoc (l : List Ev) (e : Ev) (p : Int) (h : 1 ≤ p) : idAt (l ++ [e]) p = if p = (l.length : Int) + 1 then e.i else idAt l p := by
  unfold idAt; rw [at_snoc l e p h]; split <;> rfl
theorem kindR_rng {l : List Ev} {p : Int} (h : kindR l p ≠ 0) : 1 ≤ p ∧ p ≤ l.length := by
  unfold kindR at h; split at h
  · assumption
  · exact absurd rfl h
theorem named_far {l : List Ev} (hb : ∀ x ∈ l, x.r ≤ l.length) (p : Int) (hp : l.length < p) (ks : List Int) : namedR l p ks = false := by
  unfold namedR
  rw [List.any_eq_false]
  intro x hx
  have := hb x hx
  have h2 : (x.r == p) = false := by simp; omega
  simp [h2]
theorem works_far {l : List Ev} (p : Int) (h : ∀ x ∈ l, x.r < p) : worksR l p = 0 := by
  induction l with
  | nil => rfl
  | cons e l ih =>
    have h1 := h e (by simp)
    simp only [worksR]
    rw [if_neg (by omega), ih (fun x hx => h x (by simp [hx]))]; rfl

theorem open_here {l : List Ev} {e : Ev} (hb : ∀ x ∈ l, x.r ≤ l.length) (he : e.r ≤ l.length) : openR (l ++ [e]) ((l.length : Int) + 1) = true ↔ (e.k = 7 ∨ e.k = 12 ∨ e.k = 17) := by
  have hw : worksR (l ++ [e]) ((l.length : Int) + 1) = 0 := by
    apply works_far
    intro x hx
    rcases List.mem_append.1 hx with h | h
    · have := hb x h; omega
    · simp at h; subst h; omega
  have hn : ∀ ks, namedR (l ++ [e]) ((l.length : Int) + 1) ks = false := fun ks => by
    rw [namedR_snoc, named_far hb _ (by omega)]
    have : (e.r == (l.length : Int) + 1) = false := by simp; omega
    simp [this]
  unfold openR
  simp only [kindR_snoc, if_true, hw, hn]
  by_cases h7 : e.k = 7
  · simp [h7]
  · by_cases h12 : e.k = 12
    · simp [h12]
    · by_cases h17 : e.k = 17
      · simp [h17]
      · simp [h7, h12, h17]
/-- What ends what began at p. -/
def endsR (l : List Ev) (e : Ev) (p : Int) : Prop :=
  (kindR l p = 7 ∧ worksR l p ≠ 0 ∧ e.r = worksR l p ∧ (e.k = 9 ∨ e.k = 10 ∨ e.k = 11)) ∨ (kindR l p = 12 ∧ e.r = p ∧ (e.k = 13 ∨ e.k = 14)) ∨ (kindR l p = 17 ∧ e.r = p ∧ e.k = 18)
theorem open_snoc {l : List Ev} {e : Ev} (hb : ∀ x ∈ l, x.r ≤ l.length) (he : e.r ≤ l.length) {p : Int} (hp : p ≠ (l.length : Int) + 1) :
    openR (l ++ [e]) p = true ↔ (openR l p = true ∧ ¬ endsR l e p) := by
  unfold openR endsR
  rw [kindR_snoc, if_neg hp]
  by_cases h7 : kindR l p = 7
  · have hw := worksR_snoc l e p
    by_cases h0 : worksR l p = 0
    · simp only [h7, if_true, h0]
      by_cases h8 : e.k = 8 ∧ e.r = p
      · rw [h0] at hw; simp only [ne_eq, not_true, if_false, h8, and_self, if_true] at hw
        rw [hw, namedR_snoc, named_far hb _ (by omega)]
        have : (e.r == (l.length : Int) + 1) = false := by simp; omega
        simp [this]
      · rw [h0] at hw; simp only [ne_eq, not_true, if_false, h8] at hw
        rw [hw]; simp
    · rw [if_pos h0] at hw
      rw [hw]
      simp only [h7, if_true, namedR_snoc]
      generalize worksR l p = wp at *
      generalize namedR l wp [9, 10, 11] = nb at *
      cases nb <;> simp [h0]
      · constructor <;> intro h <;> grind
  · by_cases h12 : kindR l p = 12
    · simp only [h12, namedR_snoc]
      generalize namedR l p [13, 14] = nb at *
      cases nb <;> simp
      exact ⟨fun h he => h.resolve_left (fun h => h he), fun h => (Decidable.em (e.r = p)).elim (fun he => .inr (h he)) .inl⟩
    · by_cases h17 : kindR l p = 17
      · simp only [h17, namedR_snoc]
        generalize namedR l p [18] = nb at *
        cases nb <;> simp
        exact ⟨fun h he => h.resolve_left (fun h => h he), fun h => (Decidable.em (e.r = p)).elim (fun he => .inr (h he)) .inl⟩
      · simp [h7, h12, h17]
theorem task_2 {l : List Ev} {e : Ev} (h : e.k = 2) : taskR (l ++ [e]) = (1, (l.length : Int) + 1) := by
  have := lastR_le l 3
  unfold taskR
  simp only [lastR_snoc, h]
  simp
  rw [if_neg (by omega), if_pos (by omega)]
theorem task_3 {l : List Ev} {e : Ev} (hb : ∀ x ∈ l, x.r ≤ l.length) (h : e.k = 3) (he : e.r ≤ l.length) {r : Int} (ht : taskR l = (1, r)) : taskR (l ++ [e]) = (2, (l.length : Int) + 1) := by
  have h2 := lastR_le l 2
  have hn : namedR (l ++ [e]) ((l.length : Int) + 1) [4, 5, 6] = false := by
    rw [namedR_snoc, named_far hb _ (by omega)]
    have : (e.r == (l.length : Int) + 1) = false := by simp; omega
    simp [this]
  have h0 : lastR l 2 ≠ 0 := by
    intro h0; unfold taskR at ht; rw [if_pos h0] at ht; simp at ht
  unfold taskR
  simp only [lastR_snoc, h]
  simp [h0, hn]
  omega
theorem task_4 {l : List Ev} {e : Ev} (h : e.k = 4 ∨ e.k = 5 ∨ e.k = 6) (ht : taskR l = (2, e.r)) : taskR (l ++ [e]) = (0, 0) := by
  have e2 : e.k ≠ 2 := by omega
  have e3 : e.k ≠ 3 := by omega
  unfold taskR at ht ⊢
  simp only [lastR_snoc, e2, e3, if_false, namedR_snoc]
  by_cases h0 : lastR l 2 = 0
  · rw [if_pos h0] at ht; simp at ht
  · rw [if_neg h0] at ht ⊢
    by_cases h1 : lastR l 3 < lastR l 2
    · rw [if_pos h1] at ht; simp at ht
    · rw [if_neg h1] at ht ⊢
      by_cases hn : namedR l (lastR l 3) [4, 5, 6] = true
      · rw [if_pos hn] at ht; simp at ht
      · rw [if_neg hn] at ht
        injection ht with _ ht
        rw [if_pos]
        simp [ht]; exact .inr h
theorem task_same {l : List Ev} {e : Ev} (h2 : e.k ≠ 2) (h3 : e.k ≠ 3) (h4 : e.k ≠ 4) (h5 : e.k ≠ 5) (h6 : e.k ≠ 6) : taskR (l ++ [e]) = taskR l := by
  unfold taskR
  simp only [lastR_snoc, h2, h3, if_false, namedR_snoc]
  simp [h4, h5, h6]

theorem misfit_zero {b : Bo} {e : Ev} (h : b.misfit e = 0) : e.right = true ∧ b.now ≤ e.a ∧ (b.count = 0 ↔ e.k = 1) ∧ b.closed = false ∧ b.lacks e = 0 := by
  unfold Bo.misfit at h
  split at h
  · cases h
  rename_i h1
  split at h
  · cases h
  split at h
  · cases h
  rename_i h3
  split at h
  · cases h
  rename_i h4
  refine ⟨by simpa using h1, by omega, ?_, by simpa using h4, h⟩
  simp at h3
  constructor
  · intro h0; have : (e.k == 1) = true := by rw [← h3]; simpa using h0
    simpa using this
  · intro h0; have : (b.count == 0) = true := by rw [h3]; simpa using h0
    simpa using this
theorem lacks_zero {b : Bo} {e : Ev} (h : b.lacks e = 0) : (askK e.k ≠ 0 → (b.opn e.r).k = askK e.k) ∧ (askK e.k = 0 → e.r = 0 ∧ (opensK e.k = true → thingOf e ∉ b.used)) := by
  unfold Bo.lacks at h
  refine ⟨fun h0 => ?_, fun h0 => ?_⟩
  · rw [if_pos h0] at h; split at h
    · assumption
    · cases h
  · rw [if_neg (by simpa using h0)] at h
    split at h
    · cases h
    · rename_i hr
      refine ⟨by simpa using hr, fun ho hu => ?_⟩
      rw [if_pos ho, if_pos hu] at h
      split at h <;> cases h
def newSt (b : Bo) (e : Ev) : Sta := if opensK e.k = true then ⟨(thingOf e).1, (thingOf e).2, e.k⟩ else if e.k = 3 ∨ e.k = 8 then ⟨(b.opn e.r).tk, (b.opn e.r).ti, e.k⟩ else Sta.none
theorem Inv.far {l : List Ev} {b : Bo} (I : Inv l b) {p : Int} (h : ¬ (1 ≤ p ∧ p ≤ l.length)) : b.opn p = Sta.none :=
  I.nil p (Decidable.byContradiction fun h0 => h (I.rng p h0))
theorem Inv.opn_add {l : List Ev} {b : Bo} {e : Ev} (I : Inv l b) (p : Int) : (b.add e).opn p = if p = (l.length : Int) + 1 then newSt b e else if p = e.r then Sta.none else b.opn p := by
  unfold Bo.add newSt
  simp only [I.cnt]
  by_cases h : p = (l.length : Int) + 1
  · simp only [h, true_and, if_true]
    split
    · rfl
    · split
      · rfl
      · split
        · rfl
        · exact I.far (by omega)
  · simp [h]
theorem Inv.er {l : List Ev} {b : Bo} {e : Ev} (I : Inv l b) (h : b.lacks e = 0) : 0 ≤ e.r ∧ e.r ≤ l.length := by
  obtain ⟨h1, h2⟩ := lacks_zero h
  by_cases h0 : askK e.k = 0
  · have := (h2 h0).1; omega
  · have := I.rng e.r (by rw [h1 h0]; exact h0); omega
theorem ask_of (k : Int) : (askK k = 2 ↔ k = 3) ∧ (askK k = 3 ↔ k = 4 ∨ k = 5 ∨ k = 6) ∧ (askK k = 7 ↔ k = 8) ∧ (askK k = 8 ↔ k = 9 ∨ k = 10 ∨ k = 11) ∧ (askK k = 12 ↔ k = 13 ∨ k = 14) ∧ (askK k = 17 ↔ k = 18) ∧ (askK k = 0 ∨ askK k = 2 ∨ askK k = 3 ∨ askK k = 7 ∨ askK k = 8 ∨ askK k = 12 ∨ askK k = 17) := by
  unfold askK
  by_cases h1 : k = 3
  · simp [h1]
  by_cases h2 : k = 4 ∨ k = 5 ∨ k = 6
  · rcases h2 with h | h | h <;> simp [h]
  by_cases h3 : k = 8
  · simp [h3]
  by_cases h4 : k = 9 ∨ k = 10 ∨ k = 11
  · rcases h4 with h | h | h <;> simp [h]
  by_cases h5 : k = 13 ∨ k = 14
  · rcases h5 with h | h <;> simp [h]
  by_cases h6 : k = 18
  · simp [h6]
  · simp only [h1, h2, h3, h4, h5, h6, if_false]
    simp
theorem opens_of (k : Int) : opensK k = true ↔ k = 2 ∨ k = 7 ∨ k = 12 ∨ k = 17 := by
  unfold opensK; simp [or_assoc]

/-- How the task stands behind an event that fits. -/
theorem Inv.task {l : List Ev} {b : Bo} {e : Ev} (I : Inv l b) (h : b.lacks e = 0) :
    (e.k = 2 → (taskR l).1 = 0 ∧ taskR (l ++ [e]) = (1, (l.length : Int) + 1)) ∧
    (e.k = 3 → taskR l = (1, e.r) ∧ taskR (l ++ [e]) = (2, (l.length : Int) + 1)) ∧
    ((e.k = 4 ∨ e.k = 5 ∨ e.k = 6) → taskR l = (2, e.r) ∧ taskR (l ++ [e]) = (0, 0)) ∧
    (e.k ≠ 2 ∧ e.k ≠ 3 ∧ ¬ (e.k = 4 ∨ e.k = 5 ∨ e.k = 6) → taskR (l ++ [e]) = taskR l) := by
  obtain ⟨h1, h2⟩ := lacks_zero h
  have her := I.er h
  obtain ⟨a2, a3, -⟩ := ask_of e.k
  refine ⟨fun hk => ?_, fun hk => ?_, fun hk => ?_, fun hk => ?_⟩
  · refine ⟨?_, task_2 hk⟩
    have := (h2 (by unfold askK; simp [hk])).2 ((opens_of _).2 (.inl hk))
    unfold thingOf at this; rw [if_pos hk, I.uTask] at this
    simpa using this
  · have e1 := h1 (by rw [a2.2 hk]; decide)
    rw [a2.2 hk] at e1
    have e2 := (I.j2 e.r).1 e1
    exact ⟨e2, task_3 I.bd hk her.2 e2⟩
  · have e1 := h1 (by rw [a3.2 hk]; decide)
    rw [a3.2 hk] at e1
    have e2 := (I.j3 e.r).1 e1
    exact ⟨e2, task_4 hk e2⟩
  · exact task_same hk.1 hk.2.1 (by omega) (by omega) (by omega)

theorem Inv.pos8 {l : List Ev} {b : Bo} (I : Inv l b) {p : Int} (h : kindR l p = 8) : 1 ≤ refAt l p ∧ refAt l p ≤ l.length :=
  kindR_rng (l := l) (p := refAt l p) (by rw [(I.wk p h).1]; decide)
theorem open_kind {l : List Ev} {p : Int} (h : openR l p = true) : kindR l p = 7 ∨ kindR l p = 12 ∨ kindR l p = 17 := by
  unfold openR at h
  split at h
  · exact .inl (by assumption)
  · split at h
    · exact .inr (.inl (by assumption))
    · split at h
      · exact .inr (.inr (by assumption))
      · cases h
theorem works_at : ∀ {l : List Ev} {p : Int}, worksR l p ≠ 0 → (l.getD (worksR l p - 1).toNat default).k = 8 ∧ (l.getD (worksR l p - 1).toNat default).r = p
  | [], _, h => absurd rfl h
  | x :: l, p, h => by
    have hle := worksR_le l p
    unfold worksR at h ⊢
    by_cases h1 : x.k = 8 ∧ x.r = p
    · rw [if_pos h1]; simpa using h1
    · rw [if_neg h1] at h ⊢
      by_cases h2 : worksR l p = 0
      · rw [if_pos h2] at h; exact absurd rfl h
      · rw [if_neg h2]
        have ih := works_at h2
        rw [show (worksR l p + 1 - 1).toNat = (worksR l p - 1).toNat + 1 by omega]
        simpa [List.getD] using ih
/-- How what began at p stands behind an event that fits. -/
theorem Inv.opens {l : List Ev} {b : Bo} {e : Ev} (I : Inv l b) (h : b.lacks e = 0) {p : Int} (hp : p ≠ (l.length : Int) + 1) :
    openR (l ++ [e]) p = true ↔ (openR l p = true ∧ ¬ ((b.opn e.r).k = 8 ∧ (b.opn e.r).k = askK e.k ∧ p = refAt l e.r) ∧ ¬ ((b.opn e.r).k = askK e.k ∧ p = e.r ∧ ((b.opn e.r).k = 12 ∨ (b.opn e.r).k = 17))) := by
  rw [open_snoc I.bd (I.er h).2 hp]
  obtain ⟨h1, h2⟩ := lacks_zero h
  obtain ⟨a2, a3, a7, a8, a12, a17, -⟩ := ask_of e.k
  refine and_congr_right fun ho => ?_
  rw [← not_or]
  refine not_congr ?_
  unfold endsR
  constructor
  · rintro (⟨k7, hw, er, hk⟩ | ⟨k12, er, hk⟩ | ⟨k17, er, hk⟩)
    · left
      have e8 := h1 (by rw [a8.2 hk]; decide)
      rw [a8.2 hk] at e8 ⊢
      refine ⟨e8, e8, ?_⟩
      obtain ⟨j1, j2⟩ := (I.j8 e.r).1 e8
      obtain ⟨w1, w2⟩ := I.wk e.r j1
      -- both p and the activity that e.r names are begun by e.r
      have : worksR l p = e.r := er.symm
      have hwp := works_at hw
      rw [this] at hwp
      exact hwp.2.symm
    · right
      have e12 := h1 (by rw [a12.2 hk]; decide)
      rw [a12.2 hk] at e12 ⊢
      exact ⟨e12, er.symm, .inl e12⟩
    · right
      have e17 := h1 (by rw [a17.2 hk]; decide)
      rw [a17.2 hk] at e17 ⊢
      exact ⟨e17, er.symm, .inr e17⟩
  · rintro (⟨h8, ha, hp⟩ | ⟨ha, hp, h12 | h17⟩)
    · left
      have hk := a8.1 (ha.symm.trans h8)
      obtain ⟨j1, j2⟩ := (I.j8 e.r).1 h8
      obtain ⟨w1, w2⟩ := I.wk e.r j1
      rw [hp, w1, w2]
      have := kindR_rng (l := l) (p := e.r) (by rw [j1]; decide)
      exact ⟨rfl, by omega, rfl, hk⟩
    · right; left
      have hk := a12.1 (ha.symm.trans h12)
      rw [hp]
      exact ⟨((I.j12 e.r).1 h12).1, rfl, hk⟩
    · right; right
      have hk := a17.1 (ha.symm.trans h17)
      rw [hp]
      exact ⟨((I.j17 e.r).1 h17).1, rfl, hk⟩

theorem Inv.mem_add {l : List Ev} {b : Bo} {e : Ev} (I : Inv l b) (h : b.lacks e = 0) (t : Int × Int) :
    t ∈ (b.add e).used ↔ (opensK e.k = true ∧ (t = thingOf e ∨ t ∈ b.used)) ∨ ((e.k = 3 ∨ e.k = 8) ∧ t ∈ b.used) ∨ (opensK e.k = false ∧ e.k ≠ 3 ∧ e.k ≠ 8 ∧ t ∈ b.used ∧ t ≠ ((b.opn e.r).tk, (b.opn e.r).ti)) := by
  obtain ⟨-, lz2⟩ := lacks_zero h
  simp only [Bo.add]
  by_cases ho : opensK e.k = true
  · have h38 : ¬ (e.k = 3 ∨ e.k = 8) := by have := (opens_of _).1 ho; omega
    have ha : askK e.k = 0 := by rcases (opens_of _).1 ho with h | h | h | h <;> simp [askK, h]
    have := (lz2 ha).2 ho
    simp [ho, this, h38]
  · have ho2 : opensK e.k = false := by simpa using ho
    simp only [ho2, Bool.false_eq_true, if_false, false_and, false_or, true_and]
    by_cases h38 : e.k = 3 ∨ e.k = 8
    · rw [if_pos h38]
      constructor
      · intro h; exact .inl ⟨h38, h⟩
      · rintro (h | h)
        · exact h.2
        · omega
    · rw [if_neg h38, I.nodup.mem_erase_iff]
      constructor
      · intro h; exact .inr ⟨by omega, by omega, h.2, h.1⟩
      · rintro (h | h)
        · exact absurd h.1 h38
        · exact ⟨h.2.2.2, h.2.2.1⟩
theorem Inv.opn0 {l : List Ev} {b : Bo} {e : Ev} (I : Inv l b) (h : b.lacks e = 0) (ha : askK e.k = 0) : b.opn e.r = Sta.none :=
  I.far (by have := ((lacks_zero h).2 ha).1; omega)
theorem Inv.uTask_step {l : List Ev} {b : Bo} {e : Ev} (I : Inv l b) (h : b.lacks e = 0) : (2, 0) ∈ (b.add e).used ↔ (taskR (l ++ [e])).1 ≠ 0 := by
  rw [I.mem_add h]
  obtain ⟨t2, t3, t4, t0⟩ := I.task h
  obtain ⟨lz1, lz2⟩ := lacks_zero h
  obtain ⟨a2, a3, a7, a8, a12, a17, a0⟩ := ask_of e.k
  have ho := opens_of e.k
  have hu := I.uTask
  by_cases k2 : e.k = 2
  · have : thingOf e = (2, 0) := by unfold thingOf; rw [if_pos k2]
    rw [(t2 k2).2, this, ho.2 (.inl k2)]; simp
  by_cases k3 : e.k = 3
  · have ho3 : opensK e.k = false := by simp [k3, opensK]
    rw [(t3 k3).2]; rw [(t3 k3).1] at hu
    rw [ho3, hu]; simp [k3]
  by_cases k4 : e.k = 4 ∨ e.k = 5 ∨ e.k = 6
  · have ho3 : opensK e.k = false := by rcases k4 with h | h | h <;> simp [h, opensK]
    rw [(t4 k4).2]
    have h3 := lz1 (by rw [a3.2 k4]; decide)
    rw [a3.2 k4] at h3
    have h4 := I.t23 e.r (.inr h3)
    rw [ho3, h4.1, h4.2]; simp; omega
  rw [t0 ⟨k2, k3, k4⟩, ← hu]
  by_cases k7 : opensK e.k = true
  · have hne : (2, 0) ≠ thingOf e := by
      unfold thingOf; rw [if_neg k2]; intro h; injection h with h _; exact k2 h.symm
    simp [k7, hne]
  · have k7' : opensK e.k = false := by simpa using k7
    by_cases k8 : e.k = 8
    · rw [k7']; simp [k8]
    · have hne : (2, 0) ≠ ((b.opn e.r).tk, (b.opn e.r).ti) := by
        intro h2
        injection h2 with h2 _
        rcases a0 with a | a | a | a | a | a | a
        · rw [I.opn0 h a] at h2; cases h2
        · omega
        · exact k4 (a3.1 a)
        · omega
        · have := (I.t8 e.r (by rw [lz1 (by omega)]; exact a)).1; omega
        · have := (I.t7 e.r (.inr (.inl (by rw [lz1 (by omega)]; exact a)))).1; have := lz1 (by omega); omega
        · have := (I.t7 e.r (.inr (.inr (by rw [lz1 (by omega)]; exact a)))).1; have := lz1 (by omega); omega
      rw [k7']; simp [k8, k3, hne]
theorem Inv.uId_step {l : List Ev} {b : Bo} {e : Ev} (I : Inv l b) (h : b.lacks e = 0) {k i : Int} (hk : k ≠ 2) : (k, i) ∈ (b.add e).used ↔ ∃ p, kindR (l ++ [e]) p = k ∧ idAt (l ++ [e]) p = i ∧ openR (l ++ [e]) p = true := by
  rw [I.mem_add h]
  obtain ⟨lz1, lz2⟩ := lacks_zero h
  obtain ⟨a2, a3, a7, a8, a12, a17, a0⟩ := ask_of e.k
  have ho := opens_of e.k
  have her := I.er h
  have hoh := open_here (e := e) I.bd her.2
  have hop := fun p (hp : p ≠ (l.length : Int) + 1) => I.opens h hp
  have hu := I.uId k i hk
  have hx : (∃ p, kindR (l ++ [e]) p = k ∧ idAt (l ++ [e]) p = i ∧ openR (l ++ [e]) p = true) ↔
      ((e.k = k ∧ e.i = i ∧ (e.k = 7 ∨ e.k = 12 ∨ e.k = 17)) ∨ ∃ p, kindR l p = k ∧ idAt l p = i ∧ openR l p = true ∧ ¬ ((b.opn e.r).k = 8 ∧ (b.opn e.r).k = askK e.k ∧ p = refAt l e.r) ∧ ¬ ((b.opn e.r).k = askK e.k ∧ p = e.r ∧ ((b.opn e.r).k = 12 ∨ (b.opn e.r).k = 17))) := by
    constructor
    · rintro ⟨p, h1, h2, h3⟩
      have hp1 : 1 ≤ p := (kindR_rng (l := l ++ [e]) (p := p) (by have := open_kind h3; omega)).1
      by_cases hp : p = (l.length : Int) + 1
      · subst hp
        rw [kindR_snoc, if_pos rfl] at h1
        rw [idAt_snoc _ _ _ hp1, if_pos rfl] at h2
        exact .inl ⟨h1, h2, hoh.1 h3⟩
      · rw [kindR_snoc, if_neg hp] at h1
        rw [idAt_snoc _ _ _ hp1, if_neg hp] at h2
        have := (hop p hp).1 h3
        exact .inr ⟨p, h1, h2, this.1, this.2⟩
    · rintro (⟨h1, h2, h3⟩ | ⟨p, h1, h2, h3, h4⟩)
      · refine ⟨(l.length : Int) + 1, ?_, ?_, hoh.2 h3⟩
        · rw [kindR_snoc, if_pos rfl]; exact h1
        · rw [idAt_snoc _ _ _ (by omega), if_pos rfl]; exact h2
      · have hr := kindR_rng (l := l) (p := p) (by have := open_kind h3; omega)
        have hp : p ≠ (l.length : Int) + 1 := by omega
        refine ⟨p, ?_, ?_, (hop p hp).2 ⟨h3, h4⟩⟩
        · rw [kindR_snoc, if_neg hp]; exact h1
        · rw [idAt_snoc _ _ _ hr.1, if_neg hp]; exact h2
  rw [hx]
  -- nothing ends
  have quiet : (askK e.k = 0 ∨ askK e.k = 2 ∨ askK e.k = 3 ∨ askK e.k = 7) → ((∃ p, kindR l p = k ∧ idAt l p = i ∧ openR l p = true ∧ ¬ ((b.opn e.r).k = 8 ∧ (b.opn e.r).k = askK e.k ∧ p = refAt l e.r) ∧ ¬ ((b.opn e.r).k = askK e.k ∧ p = e.r ∧ ((b.opn e.r).k = 12 ∨ (b.opn e.r).k = 17))) ↔ (k, i) ∈ b.used) := by
    intro ha
    rw [hu]
    constructor
    · rintro ⟨p, h1, h2, h3, -⟩; exact ⟨p, h1, h2, h3⟩
    · rintro ⟨p, h1, h2, h3⟩; exact ⟨p, h1, h2, h3, fun h => by omega, fun h => by omega⟩
  by_cases ko : opensK e.k = true
  · have ha : askK e.k = 0 := by rcases ho.1 ko with h | h | h | h <;> simp [askK, h]
    rw [quiet (.inl ha)]
    have n3 : ¬ (e.k = 3 ∨ e.k = 8) := by have := ho.1 ko; omega
    simp only [ko, true_and, n3, false_and, Bool.true_eq_false, or_false]
    refine or_congr ?_ Iff.rfl
    unfold thingOf
    by_cases k2 : e.k = 2
    · rw [if_pos k2]
      constructor
      · intro h; injection h with h _; exact absurd h hk
      · rintro ⟨h, -⟩; exact absurd (h.symm.trans k2) hk
    · rw [if_neg k2]
      constructor
      · intro h; injection h with h1 h2; exact ⟨h1.symm, h2.symm, by have := ho.1 ko; omega⟩
      · rintro ⟨h1, h2, -⟩; rw [h1, h2]
  · have ko' : opensK e.k = false := by simpa using ko
    have nk : ¬ (e.k = k ∧ e.i = i ∧ (e.k = 7 ∨ e.k = 12 ∨ e.k = 17)) := fun h => ko (ho.2 (.inr h.2.2))
    simp only [ko', nk, Bool.false_eq_true, false_and, false_or, true_and]
    by_cases k38 : e.k = 3 ∨ e.k = 8
    · rw [quiet (by rcases k38 with h | h <;> simp [askK, h])]
      simp only [k38, true_and]
      constructor
      · rintro (h | h)
        · exact h
        · omega
      · exact .inl
    · have n3 : e.k ≠ 3 := fun h => k38 (.inl h)
      have n8 : e.k ≠ 8 := fun h => k38 (.inr h)
      simp only [n3, n8, false_and, false_or, ne_eq, not_false_eq_true, true_and]
      -- what is ended is at place c, of id t
      have ended : ∀ c, kindR l c = (b.opn e.r).tk → idAt l c = (b.opn e.r).ti → openR l c = true → ((∃ p, kindR l p = k ∧ idAt l p = i ∧ openR l p = true ∧ ¬ (p = c)) ↔ ((k, i) ∈ b.used ∧ ¬ (k, i) = ((b.opn e.r).tk, (b.opn e.r).ti))) := by
        intro c c1 c2 c3
        rw [hu]
        constructor
        · rintro ⟨p, h1, h2, h3, h4⟩
          refine ⟨⟨p, h1, h2, h3⟩, fun he => ?_⟩
          injection he with e1 e2
          exact h4 (I.un p c (by omega) (by omega) h3 c3)
        · rintro ⟨⟨p, h1, h2, h3⟩, h4⟩
          refine ⟨p, h1, h2, h3, fun he => h4 ?_⟩
          subst he
          rw [← h1, ← h2, c1, c2]
      rcases a0 with a | a | a | a | a | a | a
      · rw [quiet (.inl a), I.opn0 h a]
        constructor
        · exact fun h => h.1
        · intro h
          refine ⟨h, fun he => ?_⟩
          injection he with e1 _
          obtain ⟨p, h1, _, h3⟩ := hu.1 h
          have := open_kind h3
          simp [Sta.none] at e1
          omega
      · exact absurd (a2.1 a) n3
      · rw [quiet (.inr (.inr (.inl a)))]
        have h3 := I.t23 e.r (.inr (by rw [lz1 (by omega)]; exact a))
        constructor
        · exact fun h => h.1
        · intro h
          refine ⟨h, fun he => ?_⟩
          injection he with e1 _
          exact hk (e1.trans h3.1)
      · exact absurd (a7.1 a) n8
      · have h8 : (b.opn e.r).k = 8 := by rw [lz1 (by omega)]; exact a
        have j := (I.j8 e.r).1 h8
        have t := I.t8 e.r h8
        have w := I.wk e.r j.1
        rw [← ended (refAt l e.r) (w.1.trans t.1.symm) t.2.symm j.2]
        refine exists_congr fun p => and_congr_right fun _ => and_congr_right fun _ => and_congr_right fun _ => ?_
        constructor
        · intro h1; exact ⟨fun he => h1 he.2.2, fun he => by omega⟩
        · rintro ⟨h1, h2⟩; exact fun he => h1 ⟨h8, h8.trans a.symm, he⟩
      · have h12 : (b.opn e.r).k = 12 := by rw [lz1 (by omega)]; exact a
        have j := (I.j12 e.r).1 h12
        have t := I.t7 e.r (.inr (.inl h12))
        rw [← ended e.r (by omega) t.2.symm j.2]
        refine exists_congr fun p => and_congr_right fun _ => and_congr_right fun _ => and_congr_right fun _ => ?_
        constructor
        · intro h1; exact ⟨fun he => by omega, fun he => h1 he.2.1⟩
        · rintro ⟨h1, h2⟩; exact fun he => h2 ⟨h12.trans a.symm, he, .inl h12⟩
      · have h17 : (b.opn e.r).k = 17 := by rw [lz1 (by omega)]; exact a
        have j := (I.j17 e.r).1 h17
        have t := I.t7 e.r (.inr (.inr h17))
        rw [← ended e.r (by omega) t.2.symm j.2]
        refine exists_congr fun p => and_congr_right fun _ => and_congr_right fun _ => and_congr_right fun _ => ?_
        constructor
        · intro h1; exact ⟨fun he => by omega, fun he => h1 he.2.1⟩
        · rintro ⟨h1, h2⟩; exact fun he => h2 ⟨h17.trans a.symm, he, .inr h17⟩

set_option maxHeartbeats 4000000 in
theorem Inv.step {l : List Ev} {b : Bo} {e : Ev} (I : Inv l b) (hf : b.misfit e = 0) : Inv (l ++ [e]) (b.add e) := by
  obtain ⟨hr, hnow, hfst, hclo, hl⟩ := misfit_zero hf
  have her := I.er hl
  have hadd := fun p => I.opn_add (e := e) p
  have hK := fun p => kindR_snoc l e p
  have hRf := fun p => refAt_snoc l e p
  have hId := fun p => idAt_snoc l e p
  obtain ⟨t2, t3, t4, t0⟩ := I.task hl
  obtain ⟨lz1, lz2⟩ := lacks_zero hl
  obtain ⟨a2, a3, a7, a8, a12, a17, a0⟩ := ask_of e.k
  have ho := opens_of e.k
  have hlen : ((l ++ [e]).length : Int) = (l.length : Int) + 1 := by simp
  have hop := fun p (hp : p ≠ (l.length : Int) + 1) => I.opens hl hp
  have hoh := open_here (e := e) I.bd her.2
  have hke : 1 ≤ e.k := by unfold Ev.right at hr; simp at hr; omega
  have hN : (newSt b e).k = 0 ∧ newSt b e = Sta.none ∨ (newSt b e).k = e.k ∧ (opensK e.k = true ∨ e.k = 3 ∨ e.k = 8) := by
    unfold newSt; split
    · right; exact ⟨rfl, .inl (by assumption)⟩
    · split
      · right; exact ⟨rfl, .inr (by assumption)⟩
      · left; exact ⟨rfl, rfl⟩
  have hN2 : (opensK e.k = true ∨ e.k = 3 ∨ e.k = 8) → (newSt b e).k = e.k := by
    rintro (h | h)
    · unfold newSt; rw [if_pos h]
    · unfold newSt; split
      · rfl
      · first | rfl | rw [if_pos h]
  have hs0 : (Sta.none).k = 0 := rfl
  have hw8 : (b.opn e.r).k = 8 → kindR l (refAt l e.r) = 7 ∧ worksR l (refAt l e.r) = e.r := fun h => I.wk e.r ((I.j8 e.r).1 h).1
  constructor
  case cnt => simp [Bo.add, I.cnt]
  case now => simp [Bo.add]
  case clo =>
    have := I.clo; rw [hclo] at this
    simp [Bo.add, ← this]
  case rng =>
    intro p h
    rw [hadd] at h
    have := I.rng p
    grind
  case nil =>
    intro p h
    rw [hadd] at h ⊢
    have := I.nil p
    grind
  case kin =>
    intro p h
    rw [hadd] at h ⊢
    rw [hK]
    have := I.kin p
    grind
  case knd =>
    intro p
    rw [hadd]
    have := I.knd p
    grind
  case j2 =>
    intro p
    rw [hadd]
    have := I.j2 p
    have := I.j2 e.r
    have := I.rng p
    grind (splits := 25)
  case j3 =>
    intro p
    rw [hadd]
    have := I.j3 p
    have := I.j3 e.r
    have := I.rng p
    grind (splits := 25)
  case j7 =>
    intro p
    rw [hadd, hK, worksR_snoc]
    have := I.j7 p
    have := I.j7 e.r
    have := I.rng p
    have hw : worksR l ((l.length : Int) + 1) = 0 := works_far _ (fun x hx => by have := I.bd x hx; omega)
    clear hop hoh hId hRf t2 t3 t4 t0
    grind (splits := 25)
  case j12 =>
    intro p
    rw [hadd, hK]
    have := I.j12 p
    have := I.j12 e.r
    have := I.rng p
    have := hop p
    clear hop hId hRf t2 t3 t4 t0
    grind (splits := 25)
  case j17 =>
    intro p
    rw [hadd, hK]
    have := I.j17 p
    have := I.j17 e.r
    have := I.rng p
    have := hop p
    clear hop hId hRf t2 t3 t4 t0
    grind (splits := 25)
  case j8 =>
    intro p
    rw [hadd, hK]
    by_cases hp : p = (l.length : Int) + 1
    · subst hp
      rw [if_pos rfl, if_pos rfl, hRf _ (by omega), if_pos rfl]
      have := hop e.r (by omega)
      have := I.j7 e.r
      clear hop hId hRf t2 t3 t4 t0
      constructor
      · intro h8
        have e8 : e.k = 8 := by grind
        have h7 := lz1 (by rw [a7.2 e8]; decide)
        rw [a7.2 e8] at h7
        have h0 := (I.j7 e.r).1 h7
        refine ⟨e8, ?_⟩
        have : openR l e.r = true := by unfold openR; simp [h0]
        grind
      · rintro ⟨e8, _⟩
        rw [hN2 (.inr (.inr e8)), e8]
    · have hj := I.j8 p
      have hj2 := I.j8 e.r
      have hrg := I.rng p
      rw [if_neg hp, if_neg hp]
      by_cases h8 : kindR l p = 8
      · obtain ⟨w1, w2⟩ := I.wk p h8
        have hq := I.pos8 h8
        have hrg2 := kindR_rng (l := l) (p := p) (by rw [h8]; decide)
        rw [hRf p (by omega), if_neg hp]
        have h1 := hop (refAt l p) (by omega)
        have w3 := fun h : kindR l e.r = 8 => I.wk e.r h
        have hkr := I.kin e.r
        by_cases he : p = e.r
        · subst he
          simp only [if_true, hs0]
          have h2 := I.kin e.r
          have h3 := I.knd e.r
          have h4 := I.j7 e.r
          grind (splits := 25)
        · rw [if_neg he, hj, h1]
          have : ¬ ((b.opn e.r).k = 8 ∧ refAt l p = refAt l e.r) := fun ⟨x1, x2⟩ => by
            have := (I.wk e.r ((hj2.1 x1).1)).2
            rw [← x2, w2] at this
            exact he this
          have h5 : (b.opn e.r).k = 12 → refAt l p ≠ e.r := fun x y => by rw [y, ← hkr (by omega)] at w1; omega
          have h6 : (b.opn e.r).k = 17 → refAt l p ≠ e.r := fun x y => by rw [y, ← hkr (by omega)] at w1; omega
          grind (splits := 25)
      · clear hop hId hRf t2 t3 t4 t0
        grind (splits := 25)
  case t23 =>
    intro p
    rw [hadd]
    have := I.t23 p
    have := I.t23 e.r
    have hn : e.k = 2 → newSt b e = ⟨2, 0, 2⟩ := fun h => by unfold newSt thingOf; simp [opensK, h]
    have hn2 : e.k = 3 → newSt b e = ⟨(b.opn e.r).tk, (b.opn e.r).ti, 3⟩ := fun h => by unfold newSt; simp [opensK, h]
    clear hop hId hRf t2 t3 t4 t0 hoh
    grind (splits := 25)
  case t7 =>
    intro p h
    rw [hadd] at h ⊢
    have := I.t7 p
    have := I.rng p
    have hn : e.k = 7 ∨ e.k = 12 ∨ e.k = 17 → newSt b e = ⟨e.k, e.i, e.k⟩ := fun h => by
      unfold newSt thingOf; rw [if_pos (ho.2 (.inr h)), if_neg (by omega)]
    have := hId p
    clear hop hId hRf t2 t3 t4 t0 hoh
    grind (splits := 25)
  case t8 =>
    intro p h
    rw [hadd] at h ⊢
    by_cases hp : p = (l.length : Int) + 1
    · rw [if_pos hp] at h ⊢
      have e8 : e.k = 8 := by grind
      have hn : newSt b e = ⟨(b.opn e.r).tk, (b.opn e.r).ti, 8⟩ := by unfold newSt; simp [opensK, e8]
      have h7 := lz1 (by rw [a7.2 e8]; decide)
      rw [a7.2 e8] at h7
      have h5 := I.t7 e.r (.inl h7)
      have h6 := I.rng e.r (by omega)
      rw [hn, hRf p (by omega), if_pos hp, hId _ (by omega), if_neg (by omega)]
      exact ⟨h5.1.trans h7, h5.2⟩
    · rw [if_neg hp] at h ⊢
      by_cases he : p = e.r
      · rw [if_pos he] at h; cases h
      · rw [if_neg he] at h ⊢
        have h1 := I.t8 p h
        have h2 := I.rng p (by omega)
        have h3 := I.pos8 ((I.j8 p).1 h).1
        rw [hRf p (by omega), if_neg hp, hId _ (by omega), if_neg (by omega)]
        exact h1
  case wk =>
    intro p h
    rw [hK] at h
    have h0 := worksR_snoc l e
    by_cases hp : p = (l.length : Int) + 1
    · rw [if_pos hp] at h
      have h7 := lz1 (by rw [a7.2 h]; decide)
      rw [a7.2 h] at h7
      have h2 := (I.j7 e.r).1 h7
      rw [hRf p (by omega), if_pos hp, hK, if_neg (by omega), h0, h2.2]
      simp [h, hp, h2.1]
    · rw [if_neg hp] at h
      have h2 := I.wk p h
      have h3 := kindR_rng (l := l) (p := p) (by rw [h]; decide)
      have h4 := I.pos8 h
      rw [hRf p (by omega), if_neg hp, hK, if_neg (by omega), h0, h2.2, if_pos (by omega)]
      exact ⟨h2.1, rfl⟩
  case bd =>
    intro x hx
    rw [hlen]
    rcases List.mem_append.1 hx with h | h
    · have := I.bd x h; omega
    · simp at h; subst h; omega
  case un =>
    intro p q hk hi hop1 hop2
    have far : ∀ p, openR (l ++ [e]) p = true → 1 ≤ p ∧ p ≤ l.length + 1 := fun p h => by
      have := kindR_rng (l := l ++ [e]) (p := p) (by have := open_kind h; omega)
      omega
    have hx := far p hop1
    have hy := far q hop2
    have new : ∀ p, 1 ≤ p → p ≠ (l.length : Int) + 1 → kindR (l ++ [e]) p = e.k → idAt (l ++ [e]) p = e.i → openR (l ++ [e]) p = true → openR (l ++ [e]) ((l.length : Int) + 1) = true → False := fun p h1 h2 h3 h4 h5 h6 => by
      have ho1 := (hop p h2).1 h5
      have hc := hoh.1 h6
      rw [hK, if_neg h2] at h3
      rw [hId p h1, if_neg h2] at h4
      have hz : askK e.k = 0 := by rcases hc with h | h | h <;> simp [askK, h]
      have := (lz2 hz).2 (ho.2 (.inr hc))
      have ht : thingOf e = (e.k, e.i) := by unfold thingOf; rw [if_neg (by omega)]
      rw [ht, I.uId _ _ (by omega)] at this
      exact this ⟨p, h3, h4, ho1.1⟩
    by_cases hp : p = (l.length : Int) + 1
    · by_cases hq : q = (l.length : Int) + 1
      · omega
      · subst hp
        rw [hK, if_pos rfl] at hk
        rw [hId _ hx.1, if_pos rfl] at hi
        exact (new q hy.1 hq hk.symm hi.symm hop2 hop1).elim
    · by_cases hq : q = (l.length : Int) + 1
      · subst hq
        rw [hK _, hK _, if_pos rfl] at hk
        rw [hId _ hx.1, hId _ hy.1, if_pos rfl] at hi
        exact (new p hx.1 hp (by rw [hK]; exact hk) (by rw [hId _ hx.1]; exact hi) hop1 hop2).elim
      · rw [hK, hK, if_neg hp, if_neg hq] at hk
        rw [hId _ hx.1, hId _ hy.1, if_neg hp, if_neg hq] at hi
        exact I.un p q hk hi ((hop p hp).1 hop1).1 ((hop q hq).1 hop2).1
  case nodup =>
    have := I.nodup
    simp only [Bo.add]
    split
    · split
      · exact this
      · exact List.nodup_cons.2 ⟨by assumption, this⟩
    · split
      · exact this
      · exact this.erase _
  case u2 =>
    intro i hm
    have h1 := I.u2 i
    have hm2 : (2, i) ∈ b.used ∨ (opensK e.k = true ∧ (2, i) = thingOf e) := by
      simp only [Bo.add] at hm
      split at hm
      · split at hm
        · exact .inl hm
        · rcases List.mem_cons.1 hm with h | h
          · exact .inr ⟨by assumption, h⟩
          · exact .inl h
      · split at hm
        · exact .inl hm
        · exact .inl (List.mem_of_mem_erase hm)
    rcases hm2 with h | ⟨h2, h3⟩
    · exact h1 h
    · unfold thingOf at h3
      split at h3
      · injection h3
      · injection h3 with h3 _; omega
  case uTask => exact I.uTask_step hl
  case uId => exact fun k i hk => I.uId_step hl hk

theorem Hist.inv {l : List Ev} {b : Bo} (h : Hist l b) : Inv l b := by
  induction h with
  | nil => exact Inv.new
  | snoc _ hf ih => exact ih.step hf
theorem Hist.book {l : List Ev} {b : Bo} (h : Hist l b) : b = bookOf l := by
  induction h with
  | nil => rfl
  | snoc _ hf ih => rw [ih]; simp [bookOf]

/-- WHAT THE BOOK SAYS OF THE NEXT EVENT IS WHAT THE REFERENCE SAYS. -/
theorem Inv.why {l : List Ev} {b : Bo} (I : Inv l b) (e : Ev) : b.misfit e = whyR l e := by
  unfold Bo.misfit whyR
  by_cases hr : e.right = false
  · simp [hr]
  rw [if_neg hr, if_neg hr]
  have hr1 : e.right = true := by simpa using hr
  have hea : 0 ≤ e.a ∧ 1 ≤ e.k := by unfold Ev.right at hr1; simp [inE] at hr1; omega
  have hnow : (e.a < b.now) ↔ (l ≠ [] ∧ e.a < (l.getLast?.getD default).a) := by
    rw [I.now]
    cases hl : l.getLast? with
    | none =>
      have : l = [] := List.getLast?_eq_none_iff.1 hl
      simp [this]; omega
    | some x =>
      have : l ≠ [] := fun h => by subst h; cases hl
      simp [this]
  by_cases hn : e.a < b.now
  · rw [if_pos hn, if_pos (hnow.1 hn)]
  rw [if_neg hn, if_neg (fun h => hn (hnow.2 h)), I.cnt, I.clo]
  by_cases hf : ((l.length == 0) != (e.k == 1)) = true
  · rw [if_pos hf, if_pos hf]
  rw [if_neg hf, if_neg hf]
  by_cases hc : (l.any fun x => closesK x.k) = true
  · rw [if_pos hc, if_pos hc]
  rw [if_neg hc, if_neg hc]
  unfold Bo.lacks
  obtain ⟨a2, a3, a7, a8, a12, a17, a0⟩ := ask_of e.k
  have key : askK e.k ≠ 0 → ((b.opn e.r).k = askK e.k ↔ refsR l e = true) := by
    intro h0
    unfold refsR
    rcases a0 with a | a | a | a | a | a | a
    · exact absurd a h0
    · have := a2.1 a
      rw [a, if_pos this, I.j2 e.r]
      obtain ⟨x, y⟩ := taskR l
      simp only [Prod.mk.injEq, Bool.and_eq_true, beq_iff_eq]
      constructor <;> rintro ⟨h1, h2⟩ <;> exact ⟨h1, h2.symm⟩
    · have h3 := a3.1 a
      rw [a, if_neg (by omega), if_pos h3, I.j3 e.r]
      obtain ⟨x, y⟩ := taskR l
      simp only [Prod.mk.injEq, Bool.and_eq_true, beq_iff_eq]
      constructor <;> rintro ⟨h1, h2⟩ <;> exact ⟨h1, h2.symm⟩
    · have h8 := a7.1 a
      rw [a, if_neg (by omega), if_neg (by omega), if_pos h8, I.j7 e.r]; simp
    · have h9 := a8.1 a
      rw [a, if_neg (by omega), if_neg (by omega), if_neg (by omega), if_pos h9, I.j8 e.r]; simp
    · have h13 := a12.1 a
      rw [a, if_neg (by omega), if_neg (by omega), if_neg (by omega), if_neg (by omega), if_pos h13, I.j12 e.r]; simp
    · have h18 := a17.1 a
      rw [a, if_neg (by omega), if_neg (by omega), if_neg (by omega), if_neg (by omega), if_neg (by omega), if_pos h18, I.j17 e.r]; simp
  by_cases h0 : askK e.k = 0
  · have hrr : refsR l e = (e.r == 0) := by
      have n3 : e.k ≠ 3 := fun h => by rw [a2.2 h] at h0; cases h0
      have n4 : ¬ (e.k = 4 ∨ e.k = 5 ∨ e.k = 6) := fun h => by rw [a3.2 h] at h0; cases h0
      have n8 : e.k ≠ 8 := fun h => by rw [a7.2 h] at h0; cases h0
      have n9 : ¬ (e.k = 9 ∨ e.k = 10 ∨ e.k = 11) := fun h => by rw [a8.2 h] at h0; cases h0
      have n13 : ¬ (e.k = 13 ∨ e.k = 14) := fun h => by rw [a12.2 h] at h0; cases h0
      have n18 : e.k ≠ 18 := fun h => by rw [a17.2 h] at h0; cases h0
      unfold refsR
      rw [if_neg n3, if_neg n4, if_neg n8, if_neg n9, if_neg n13, if_neg n18]
    rw [if_neg (by simpa using h0), hrr]
    by_cases hz : e.r = 0
    · have e1 : (e.r == 0) = true := by simpa using hz
      rw [if_neg (by simpa using hz), e1]
      simp only [Bool.true_eq_false, if_false]
      by_cases k2 : e.k = 2
      · have ht : thingOf e = (2, 0) := by unfold thingOf; rw [if_pos k2]
        rw [if_pos ((opens_of _).2 (.inl k2)), ht]
        by_cases hu : (taskR l).1 = 0
        · rw [if_neg (fun h => (I.uTask.1 h) hu), if_neg (fun h => h.2 hu), if_neg (fun h => by omega)]
        · rw [if_pos (I.uTask.2 hu), if_pos k2, if_pos ⟨k2, hu⟩]
      · rw [if_neg (c := e.k = 2 ∧ _) (fun h => k2 h.1)]
        by_cases k7 : e.k = 7 ∨ e.k = 12 ∨ e.k = 17
        · have ht : thingOf e = (e.k, e.i) := by unfold thingOf; rw [if_neg k2]
          have hu : ((e.k, e.i) ∈ b.used) ↔ (∃ i, i < l.length ∧ (l.getD i default).k = e.k ∧ (l.getD i default).i = e.i ∧ openR l (i + 1) = true) := by
            rw [I.uId _ _ k2]
            constructor
            · rintro ⟨p, h1, h2, h3⟩
              have hr := kindR_rng (l := l) (p := p) (by omega)
              refine ⟨(p - 1).toNat, by omega, ?_, h2, ?_⟩
              · unfold kindR at h1; rw [if_pos hr] at h1; exact h1
              · rw [show (((p - 1).toNat : Nat) : Int) + 1 = p by omega]; exact h3
            · rintro ⟨i, h1, h2, h3, h4⟩
              refine ⟨(i : Int) + 1, ?_, ?_, h4⟩
              · unfold kindR; rw [if_pos (by omega), show ((i : Int) + 1 - 1).toNat = i by omega]; exact h2
              · unfold idAt; rw [show ((i : Int) + 1 - 1).toNat = i by omega]; exact h3
          rw [if_pos ((opens_of _).2 (.inr k7)), ht]
          by_cases hm : (e.k, e.i) ∈ b.used
          · rw [if_pos hm, if_neg k2, if_pos ⟨k7, hu.1 hm⟩]
          · rw [if_neg hm, if_neg (fun h => hm (hu.2 h.2))]
        · rw [if_neg (fun h => by have := (opens_of _).1 h; omega), if_neg (fun h => k7 h.1)]
    · have e1 : (e.r == 0) = false := by simpa using hz
      rw [if_pos hz, e1]; simp
  · rw [if_pos h0]
    have hno : ∀ x : Nat, (if e.k = 2 ∧ (taskR l).1 ≠ 0 then 6 else if (e.k = 7 ∨ e.k = 12 ∨ e.k = 17) ∧ (∃ i, i < l.length ∧ (l.getD i default).k = e.k ∧ (l.getD i default).i = e.i ∧ openR l (i + 1) = true) then 7 else 0) = 0 := fun _ => by
      have n2 : e.k ≠ 2 := fun h => h0 (by simp [askK, h])
      have n7 : ¬ (e.k = 7 ∨ e.k = 12 ∨ e.k = 17) := fun h => h0 (by rcases h with h | h | h <;> simp [askK, h])
      rw [if_neg (fun h => n2 h.1), if_neg (fun h => n7 h.1)]
    by_cases hx : refsR l e = true
    · rw [if_pos ((key h0).2 hx), if_neg (by simp [hx]), hno 0]
    · rw [if_neg (fun h => hx ((key h0).1 h)), if_pos (by simpa using hx)]
/-- The reference's check. -/
def refCheck (l : List Ev) : Nat → List Ev → Option (Nat × Nat)
  | _, [] => none
  | i, e :: m => if whyR (l.take i) e ≠ 0 then some (i + 1, whyR (l.take i) e) else refCheck l (i + 1) m
theorem check_same (l : List Ev) : ∀ (m a : List Ev) (b : Bo), l = a ++ m → Hist a b → b.check m = refCheck l a.length m
  | [], a, b, _, _ => rfl
  | e :: m, a, b, hl, hh => by
    have hi := hh.inv
    have ht : l.take a.length = a := by rw [hl]; simp
    unfold Bo.check refCheck
    rw [ht, ← hi.why e, hi.cnt]
    by_cases h : b.misfit e = 0
    · rw [if_neg (by simpa using h), if_neg (by simpa using h)]
      have := check_same l m (a ++ [e]) (b.add e) (by rw [hl]; simp) (.snoc hh h)
      rw [this]; simp
    · rw [if_pos h, if_pos h]
theorem check_hist : ∀ (m a : List Ev) (b : Bo), Hist a b → b.check m = none → Hist (a ++ m) (m.foldl Bo.add b)
  | [], a, b, h, _ => by simpa using h
  | e :: m, a, b, h, hc => by
    unfold Bo.check at hc
    split at hc
    · cases hc
    · rename_i h1
      have := check_hist m (a ++ [e]) (b.add e) (.snoc h (by simpa using h1)) hc
      simpa using this
theorem hist_of {l : List Ev} (h : Bo.new.check l = none) : Hist l (bookOf l) := by
  have := check_hist l [] Bo.new .nil h
  rw [List.nil_append] at this
  exact this
theorem check_append : ∀ (l m : List Ev) (b : Bo), b.check (l ++ m) = (b.check l).or ((l.foldl Bo.add b).check m)
  | [], m, b => rfl
  | e :: l, m, b => by
    simp only [List.cons_append, Bo.check, List.foldl_cons]
    split
    · rfl
    · exact check_append l m (b.add e)
/-- Behind what closes nothing may stand. -/
theorem closed_misfit {b : Bo} (h : b.closed = true) (e : Ev) : b.misfit e ≠ 0 := by
  unfold Bo.misfit
  split
  · simp
  split
  · simp
  split
  · simp
  · first | (rw [if_pos h]; simp) | simp
end Go.Proofs.YtieoeoonopcjbaaGreatDoor

/- event: what Decode reads, in plain words, the program's way and the reference's. -/
namespace Go.Proofs.YtieoeoonopcjbaaGreatDoor

def evW : ByteArray := ⟨#[101, 118, 101, 110, 116]⟩
def cntW : ByteArray := ⟨#[99, 111, 117, 110, 116]⟩
def datW : ByteArray := ⟨#[100, 97, 116, 97]⟩

/-! ### an event -/
def evN (xs : List UInt8) (s : St) : Int × St := stBetween xs evW 0 1099511627776 s
def evS1 (xs : List UInt8) (s : St) : Int × St := stBetween xs evW 1 23 s
def evS2 (xs : List UInt8) (s : St) : Int × St := evN xs (evS1 xs s).2
def evS3 (xs : List UInt8) (s : St) : Int × St := evN xs (evS2 xs s).2
def evS4 (xs : List UInt8) (s : St) : Int × St := evN xs (evS3 xs s).2
def evS5 (xs : List UInt8) (s : St) : Int × St := evN xs (evS4 xs s).2
def evS6 (xs : List UInt8) (s : St) : Int × St := evN xs (evS5 xs s).2
def evS7 (xs : List UInt8) (s : St) : List UInt8 × St := stBytes xs datW 4096 (evS6 xs s).2
def evR (xs : List UInt8) (s : St) : Ev × St := (⟨(evS1 xs s).1, (evS2 xs s).1, (evS3 xs s).1, (evS4 xs s).1, (evS5 xs s).1, (evS6 xs s).1, (evS7 xs s).1⟩, (evS7 xs s).2)
def St.isBad : St → Prop
  | .bad _ _ _ => True
  | .at_ _ => False
theorem btw_bad (xs : List UInt8) (wh : ByteArray) (lo hi : Int) {s : St} (h : s.isBad) : stBetween xs wh lo hi s = (0, s) := by
  cases s with
  | bad er a w => rfl
  | at_ k => exact h.elim
theorem byt_bad (xs : List UInt8) (wh : ByteArray) (most : Int) {s : St} (h : s.isBad) : stBytes xs wh most s = ([], s) := by
  cases s with
  | bad er a w => rfl
  | at_ k => exact h.elim
/-- A number in bounds, or none, and then nothing more turns. -/
theorem btw_cases (xs : List UInt8) (wh : ByteArray) (lo hi : Int) (s : St) : (lo ≤ (stBetween xs wh lo hi s).1 ∧ (stBetween xs wh lo hi s).1 ≤ hi) ∨ ((stBetween xs wh lo hi s).1 = 0 ∧ (stBetween xs wh lo hi s).2.isBad) := by
  cases s with
  | bad er a w0 => exact .inr ⟨rfl, trivial⟩
  | at_ k =>
    cases hN : rdNum (xs.drop k) with
    | bad b =>
      have e : stBetween xs wh lo hi (.at_ k) = (0, .bad b k wh) := by simp [stBetween, srWithin, hN]
      rw [e]; exact .inr ⟨rfl, trivial⟩
    | ok u m =>
      by_cases hr : unfN u < lo ∨ hi < unfN u
      · have e : stBetween xs wh lo hi (.at_ k) = (0, .bad 8 k wh) := by simp only [stBetween, srWithin, hN, if_pos hr]
        rw [e]; exact .inr ⟨rfl, trivial⟩
      · have e : stBetween xs wh lo hi (.at_ k) = (unfN u, .at_ (k + m)) := by simp only [stBetween, srWithin, hN, if_neg hr]
        rw [e]; exact .inl ⟨by simp only; omega, by simp only; omega⟩
theorem byt_cases (xs : List UInt8) (wh : ByteArray) (most : Int) (hm : 0 ≤ most) (s : St) : ((stBytes xs wh most s).1.length : Int) ≤ most := by
  cases s with
  | bad er a w0 => simpa [stBytes] using hm
  | at_ k =>
    cases hN : rdNum (xs.drop k) with
    | bad b =>
      have e : stBytes xs wh most (.at_ k) = ([], .bad b k wh) := by simp [stBytes, srRun, hN]
      rw [e]; simpa using hm
    | ok u m =>
      by_cases h1 : unfN u < 0
      · have e : stBytes xs wh most (.at_ k) = ([], .bad 8 k wh) := by simp only [stBytes, srRun, hN, if_pos h1]
        rw [e]; simpa using hm
      by_cases h2 : most < unfN u
      · have e : stBytes xs wh most (.at_ k) = ([], .bad 10 k wh) := by simp only [stBytes, srRun, hN, if_neg h1, if_pos h2]
        rw [e]; simpa using hm
      by_cases h3 : (xs.length : Int) - (k + m : Nat) < unfN u
      · have e : stBytes xs wh most (.at_ k) = ([], .bad 7 k wh) := by simp only [stBytes, srRun, hN, if_neg h1, if_neg h2, if_pos h3]
        rw [e]; simpa using hm
      have e : stBytes xs wh most (.at_ k) = ((xs.drop (k + m)).take (unfN u).toNat, .at_ (k + m + (unfN u).toNat)) := by simp only [stBytes, srRun, hN, if_neg h1, if_neg h2, if_neg h3]
      rw [e]; simp only [List.length_take]; omega
theorem evR_bad (xs : List UInt8) {s : St} (h : s.isBad) : evR xs s = (⟨0, 0, 0, 0, 0, 0, []⟩, s) := by
  simp only [evR, evS7, evS6, evS5, evS4, evS3, evS2, evS1, evN, btw_bad _ _ _ _ h, byt_bad _ _ _ h]
theorem evR_zero (xs : List UInt8) {s : St} (h : (evR xs s).1.k = 0) : (evR xs s).2.isBad := by
  have hb : (evS1 xs s).2.isBad := by
    rcases btw_cases xs evW 1 23 s with h1 | h1
    · have : (evS1 xs s).1 = 0 := h
      unfold evS1 at this; omega
    · exact h1.2
  have e2 : evS2 xs s = (0, (evS1 xs s).2) := btw_bad _ _ _ _ hb
  have e3 : evS3 xs s = (0, (evS1 xs s).2) := by unfold evS3; rw [e2]; exact btw_bad _ _ _ _ hb
  have e4 : evS4 xs s = (0, (evS1 xs s).2) := by unfold evS4; rw [e3]; exact btw_bad _ _ _ _ hb
  have e5 : evS5 xs s = (0, (evS1 xs s).2) := by unfold evS5; rw [e4]; exact btw_bad _ _ _ _ hb
  have e6 : evS6 xs s = (0, (evS1 xs s).2) := by unfold evS6; rw [e5]; exact btw_bad _ _ _ _ hb
  have e7 : evS7 xs s = ([], (evS1 xs s).2) := by unfold evS7; rw [e6]; exact byt_bad _ _ _ hb
  show (evS7 xs s).2.isBad
  rw [e7]; exact hb
/-- What is read of an event may be an event's. -/
structure Ev.may (e : Ev) : Prop where
  k : 0 ≤ e.k ∧ e.k ≤ 23
  a : 0 ≤ e.a ∧ e.a ≤ 1099511627776
  r : 0 ≤ e.r ∧ e.r ≤ 1099511627776
  i : 0 ≤ e.i ∧ e.i ≤ 1099511627776
  l : 0 ≤ e.l ∧ e.l ≤ 1099511627776
  n : 0 ≤ e.n ∧ e.n ≤ 1099511627776
  d : e.d.length ≤ 4096
theorem evN_may (xs : List UInt8) (s : St) : 0 ≤ (evN xs s).1 ∧ (evN xs s).1 ≤ 1099511627776 := by
  rcases btw_cases xs evW 0 1099511627776 s with h | h <;> unfold evN <;> omega
theorem evR_may (xs : List UInt8) (s : St) : (evR xs s).1.may :=
  ⟨by rcases btw_cases xs evW 1 23 s with h | h <;> (show 0 ≤ (evS1 xs s).1 ∧ (evS1 xs s).1 ≤ 23) <;> unfold evS1 <;> omega,
    evN_may _ _, evN_may _ _, evN_may _ _, evN_may _ _, evN_may _ _, by have := byt_cases xs datW 4096 (by decide) (evS6 xs s).2; show (evS7 xs s).1.length ≤ 4096; unfold evS7; omega⟩

/-! ### the events -/
/-- The program's way: it leaves off with nothing at the first event whose kind can't be read. -/
def rdE (xs : List UInt8) : Nat → St → Bool × List Ev × St
  | 0, s => (true, [], s)
  | k + 1, s => if (evR xs s).1.k = 0 then (false, [], (evR xs s).2) else ((rdE xs k (evR xs s).2).1, (evR xs s).1 :: (rdE xs k (evR xs s).2).2.1, (rdE xs k (evR xs s).2).2.2)
/-- The reference's: it stops behind the first fault. -/
def refE (xs : List UInt8) : Nat → St → List Ev × St
  | 0, s => ([], s)
  | k + 1, s => match s with
    | .bad er a w => ([], .bad er a w)
    | .at_ j => ((evR xs (.at_ j)).1 :: (refE xs k (evR xs (.at_ j)).2).1, (refE xs k (evR xs (.at_ j)).2).2)
theorem refE_bad (xs : List UInt8) (k : Nat) {s : St} (h : s.isBad) : refE xs k s = ([], s) := by
  cases s with
  | at_ j => exact h.elim
  | bad er a w => cases k <;> rfl
/-- BOTH END ALIKE, AND WHERE ALL COULD BE READ THEY READ THE SAME. -/
theorem rd_same (xs : List UInt8) : ∀ (k : Nat) (s : St), (rdE xs k s).2.2 = (refE xs k s).2 ∧ (¬ (refE xs k s).2.isBad → (rdE xs k s).1 = true ∧ (rdE xs k s).2.1 = (refE xs k s).1)
  | 0, _ => ⟨rfl, fun _ => ⟨rfl, rfl⟩⟩
  | k + 1, .bad er a w => by
    have e := evR_bad xs (s := .bad er a w) trivial
    have e1 : rdE xs (k + 1) (.bad er a w) = (false, [], .bad er a w) := by unfold rdE; rw [e]; rfl
    rw [e1, refE_bad xs (k + 1) (s := .bad er a w) trivial]
    exact ⟨rfl, fun h => absurd trivial h⟩
  | k + 1, .at_ j => by
    have e2 : refE xs (k + 1) (.at_ j) = ((evR xs (.at_ j)).1 :: (refE xs k (evR xs (.at_ j)).2).1, (refE xs k (evR xs (.at_ j)).2).2) := rfl
    rw [e2]
    by_cases h0 : (evR xs (.at_ j)).1.k = 0
    · have hb := evR_zero xs h0
      have e1 : rdE xs (k + 1) (.at_ j) = (false, [], (evR xs (.at_ j)).2) := by rw [rdE, if_pos h0]
      rw [e1, refE_bad xs k hb]
      exact ⟨rfl, fun h => absurd hb h⟩
    · have e1 : rdE xs (k + 1) (.at_ j) = ((rdE xs k (evR xs (.at_ j)).2).1, (evR xs (.at_ j)).1 :: (rdE xs k (evR xs (.at_ j)).2).2.1, (rdE xs k (evR xs (.at_ j)).2).2.2) := by rw [rdE, if_neg h0]
      rw [e1]
      obtain ⟨h1, h2⟩ := rd_same xs k (evR xs (.at_ j)).2
      refine ⟨h1, fun h => ?_⟩
      obtain ⟨h3, h4⟩ := h2 h
      exact ⟨h3, by simp only; rw [h4]⟩
def cntR (xs : List UInt8) : Int × St := stBetween xs cntW 0 4096 (.at_ 0)
def decE (xs : List UInt8) : List Ev × St := refE xs (cntR xs).1.toNat (cntR xs).2
theorem cntR_rng (xs : List UInt8) : 0 ≤ (cntR xs).1 ∧ (cntR xs).1 ≤ 4096 := by
  rcases btw_cases xs cntW 0 4096 (.at_ 0) with h | h <;> unfold cntR <;> omega
theorem refE_len (xs : List UInt8) : ∀ (k : Nat) (s : St), (refE xs k s).1.length ≤ k
  | 0, _ => Nat.le_refl _
  | k + 1, .bad er a w => by simp [refE]
  | k + 1, .at_ j => by have := refE_len xs k (evR xs (.at_ j)).2; simp only [refE, List.length_cons]; omega
theorem refE_may (xs : List UInt8) : ∀ (k : Nat) (s : St), ∀ e ∈ (refE xs k s).1, e.may
  | 0, _, e, h => by simp [refE] at h
  | k + 1, .bad er a w, e, h => by simp [refE] at h
  | k + 1, .at_ j, e, h => by
    simp only [refE, List.mem_cons] at h
    rcases h with rfl | h
    · exact evR_may _ _
    · exact refE_may xs k _ e h
end Go.Proofs.YtieoeoonopcjbaaGreatDoor

/- Rows of structs at any place of a block that is known whole: append, copy, clear. -/
namespace Go.Proofs.YtieoeoonopcjbaaGreatDoor
open Go.RowKit

/-- Cells laid over a block's from a place on. -/
def lay : Array Value → Nat → List Value → Array Value
  | cur, _, [] => cur
  | cur, o, v :: r => lay (cur.setIfInBounds o v) (o + 1) r
theorem lay_nil (cur : Array Value) (o : Nat) : lay cur o [] = cur := rfl
theorem lay_size : ∀ (cs : List Value) (cur : Array Value) (o : Nat), (lay cur o cs).size = cur.size
  | [], _, _ => rfl
  | v :: r, cur, o => by unfold lay; rw [lay_size r]; simp
theorem lay_out : ∀ (cs : List Value) (cur : Array Value) (o x : Nat), (x < o ∨ o + cs.length ≤ x) → (lay cur o cs)[x]? = cur[x]?
  | [], _, _, _, _ => rfl
  | v :: r, cur, o, x, h => by
    unfold lay
    simp only [List.length_cons] at h
    rw [lay_out r _ (o + 1) x (by omega), Array.getElem?_setIfInBounds_ne (by omega)]
theorem lay_in : ∀ (cs : List Value) (cur : Array Value) (o j : Nat), j < cs.length → o + cs.length ≤ cur.size → (lay cur o cs)[o + j]? = cs[j]?
  | [], _, _, _, h, _ => by simp at h
  | v :: r, cur, o, 0, _, hb => by
    unfold lay
    simp only [List.length_cons] at hb
    rw [lay_out r _ (o + 1) (o + 0) (by omega), Nat.add_zero, Array.getElem?_setIfInBounds_self_of_lt (by omega)]
    rfl
  | v :: r, cur, o, j + 1, h, hb => by
    unfold lay
    simp only [List.length_cons] at h hb
    have := lay_in r (cur.setIfInBounds o v) (o + 1) j (by omega) (by simp; omega)
    rw [show o + (j + 1) = o + 1 + j by omega, this]
    simp
theorem Bk.setCells {g : Nat} {t : TypeId} : ∀ (cs : List Value) {w : World} {cur : Array Value} (o : Nat), Bk w g t cur → Bk (w.setCells g o cs) g t (lay cur o cs)
  | [], _, _, _, h => h
  | v :: r, _, _, o, h => Bk.setCells r (o + 1) (h.set o v)
theorem Fr.setCells {g : Nat} {S : Nat → Prop} : ∀ (cs : List Value) {a w : World} (o : Nat), Fr S a w → (g < a.heap.size → S g) → Fr S a (w.setCells g o cs)
  | [], _, _, _, h, _ => h
  | v :: r, _, _, o, h, hs => Fr.setCells r (o + 1) (Fr.setCell (p := ⟨g, o, none⟩) h hs v) hs
theorem Bk.there {w : World} {g : Nat} {t : TypeId} {cs : Array Value} (h : Bk w g t cs) {i : Nat} (hi : i < cs.size) : (w.cell? ⟨g, i, none⟩).isSome = true := by
  rw [h.cell i, Array.getElem?_eq_getElem hi]; rfl

/-- n elements of k cells each, of type T, are at v. -/
def Row (w : World) (T : TypeId) (k : Nat) (v : Value) (n : Nat) (cs : List Value) : Prop :=
  cs.length = n * k ∧ ((v = .slice none 0 0 ∧ n = 0) ∨ ∃ b off cap cur, v = .slice (some ⟨b, off, none⟩) n cap ∧ Bk w b T cur ∧ n ≤ cap ∧ cap ≤ maxLen ∧ off + cap * k ≤ cur.size ∧ ∀ j, j < cs.length → cur[off + j]? = cs[j]?)
theorem Row.nil (w : World) (T : TypeId) (k : Nat) : Row w T k (.slice none 0 0) 0 [] := ⟨by simp, .inl ⟨rfl, rfl⟩⟩
theorem Row.bk {w : World} {T : TypeId} {k n : Nat} {v : Value} {cs : List Value} (h : Row w T k v n cs) {g : Nat} (hg : v.ownBlock = some g) : ∃ cur, Bk w g T cur := by
  rcases h.2 with ⟨rfl, _⟩ | ⟨b, off, cap, cur, rfl, hb, _⟩
  · simp [Value.ownBlock] at hg
  · have : b = g := by simpa [Value.ownBlock] using hg
    subst this; exact ⟨cur, hb⟩
theorem Row.lt {w : World} {T : TypeId} {k n : Nat} {v : Value} {cs : List Value} (h : Row w T k v n cs) {g : Nat} (hg : v.ownBlock = some g) : g < w.heap.size := by
  obtain ⟨cur, hb⟩ := h.bk hg
  exact hb.lt
theorem Row.fr {S : Nat → Prop} {w w' : World} {T : TypeId} {k n : Nat} {v : Value} {cs : List Value} (h : Row w T k v n cs) (hf : Fr S w w') (hS : ∀ g, v.ownBlock = some g → ¬ S g) : Row w' T k v n cs := by
  refine ⟨h.1, ?_⟩
  rcases h.2 with hn | ⟨b, off, cap, cur, rfl, hb, rest⟩
  · exact .inl hn
  · exact .inr ⟨b, off, cap, cur, rfl, hb.fr hf (hS b rfl), rest⟩
theorem Row.fr0 {w w' : World} {T : TypeId} {k n : Nat} {v : Value} {cs : List Value} (h : Row w T k v n cs) (hf : Fr (fun _ => False) w w') : Row w' T k v n cs := h.fr hf (fun _ _ h => h)
theorem Row.ne {w : World} {T t : TypeId} {k n : Nat} {v : Value} {cs : List Value} {g : Nat} {c : Array Value} (h : Row w T k v n cs) (hg : Bk w g t c) (hne : T ≠ t) : v.ownBlock ≠ some g := fun e => by
  obtain ⟨cur, hb⟩ := h.bk e
  exact Bk.ne hb hg hne rfl
theorem Row.form {w : World} {T : TypeId} {k n : Nat} {v : Value} {cs : List Value} (h : Row w T k v n cs) : ∃ A c, v = .slice A n c ∧ n ≤ c ∧ c ≤ maxLen ∧ (0 < n → ∃ b off, A = some ⟨b, off, none⟩) := by
  rcases h.2 with ⟨rfl, h0⟩ | ⟨b, off, cap, cur, rfl, _, h1, h2, _⟩
  · exact ⟨none, 0, by rw [h0], by omega, by unfold maxLen; omega, fun h => by omega⟩
  · exact ⟨_, cap, rfl, h1, h2, fun _ => ⟨b, off, rfl⟩⟩
theorem Row.cell {w : World} {T : TypeId} {k n m c b off : Nat} {cs : List Value} (h : Row w T k (.slice (some ⟨b, off, none⟩) m c) n cs) {j : Nat} {u : Value} (hj : cs[j]? = some u) : w.cell? ⟨b, off + j, none⟩ = some u := by
  rcases h.2 with ⟨e, _⟩ | ⟨b', off', cap, cur, e, hb, _, _, _, hc⟩
  · cases e
  · injection e with e1 e2 e3
    injection e1 with e1
    injection e1 with e1 e4
    subst e1 e4
    rw [hb.cell, hc j (List.getElem?_eq_some_iff.1 hj).1, hj]
theorem Row.len {w : World} {T : TypeId} {k n m c : Nat} {A : Option Addr} {cs : List Value} (h : Row w T k (.slice A m c) n cs) : m = n := by
  obtain ⟨A', c', e, _⟩ := h.form
  injection e

/-- n elements of k cells each, wherever they are: what reads alone. -/
def Sl (w : World) (k : Nat) (x : Value) (n : Nat) (cs : List Value) : Prop :=
  cs.length = n * k ∧ ∃ A c, x = .slice A n c ∧ (0 < n → ∃ b off, A = some ⟨b, off, none⟩ ∧ ∀ j u, cs[j]? = some u → w.cell? ⟨b, off + j, none⟩ = some u)
theorem Row.sl {w : World} {T : TypeId} {k n : Nat} {v : Value} {cs : List Value} (h : Row w T k v n cs) : Sl w k v n cs := by
  obtain ⟨A, c, rfl, _, _, hA⟩ := h.form
  refine ⟨h.1, A, c, rfl, fun h0 => ?_⟩
  obtain ⟨b, off, rfl⟩ := hA h0
  exact ⟨b, off, rfl, fun j u hu => h.cell hu⟩
theorem Sl.at {w : World} {k n b off m c : Nat} {cs : List Value} (hm : m = n) (hl : cs.length = n * k) (hc : ∀ j u, cs[j]? = some u → w.cell? ⟨b, off + j, none⟩ = some u) : Sl w k (.slice (some ⟨b, off, none⟩) m c) n cs :=
  ⟨hl, _, c, by rw [hm], fun _ => ⟨b, off, rfl, hc⟩⟩
theorem Sl.none {w : World} {k : Nat} {A : Option Addr} {c : Nat} : Sl w k (.slice A 0 c) 0 [] := ⟨by simp, A, c, rfl, fun h => by omega⟩
theorem Sl.fr {S : Nat → Prop} {w w' : World} {k n : Nat} {x : Value} {cs : List Value} (h : Sl w k x n cs) (hk : 0 < k) (hf : Fr S w w') (hS : ∀ g, x.ownBlock = some g → ¬ S g) : Sl w' k x n cs := by
  obtain ⟨hl, A, c, rfl, hA⟩ := h
  refine ⟨hl, A, c, rfl, fun h0 => ?_⟩
  obtain ⟨b, off, rfl, hc⟩ := hA h0
  exact ⟨b, off, rfl, fun j u hu => by
    have h1 := hc j u hu
    rw [← h1]
    exact hf.cell (p := ⟨b, off + j, .none⟩) (World.block_lt_of_cell? w _ h1) (hS b rfl)⟩
theorem Sl.src {P : Program} {w : World} {k n : Nat} {x : Value} {cs : List Value} (h : Sl w k x n cs) {tx e : TypeId} (hk : P.underlying tx = some (.slice e)) (h1 : ∀ u ∈ cs, u.oneCell' = true) : Src P k tx x n cs w := by
  obtain ⟨hl, A, c, rfl, hA⟩ := h
  by_cases h0 : 0 < n
  · obtain ⟨b, off, rfl, hc⟩ := hA h0
    exact Src.ofSlice w hk ⟨b, off, .none⟩ n c cs hl (fun j u hu => by rw [add_at]; exact hc j u hu) h1
  · obtain rfl : n = 0 := by omega
    have hl0 : cs = [] := List.eq_nil_of_length_eq_zero (by simpa using hl)
    subst hl0
    rcases A with _ | a
    · exact Src.ofNil w hk c
    · exact Src.ofSlice w hk a 0 c [] (by simp) (fun j u hu => by simp at hu) (fun u hu => by simp at hu)

/-- What the laws ask of the element type e, its slice t, k cells each. -/
structure TE (P : Program) (t e : TypeId) (k by' : Nat) (z : Value) : Prop where
  sl : P.underlying t = some (.slice e)
  info : (P.info? e).map (fun i => (i.zero, i.size, i.bytes)) = some (some z, k, by')
  zs : z.cells.size = k
  k0 : 0 < k

section
variable {P : Program} {w : World}

theorem run_appendR {t e : TypeId} {k by' : Nat} {z : Value} (hT : TE P t e k by' z) (ty : TypeId) {v : Value} {n : Nat} {cs : List Value} (h : Row w e k v n cs) {x : Value} {m : Nat} {xs : List Value} (hx : Sl w k x m xs) (h1 : ∀ u ∈ xs, u.oneCell' = true)
    (h63 : n + m ≤ maxLen) (hb : (n + m) * by' ≤ 140737488355328) :
    ∃ v' w', (Builtin.append_ #[t, t] ty #[v, x]).run P w = .ok v' w' ∧ Row w' e k v' (n + m) (cs ++ xs) ∧ Fr (fun g => v.ownBlock = some g) w w' ∧ Moved w v v' := by
  obtain ⟨i, hi, hz, hsz, hby⟩ := info_parts hT.info
  subst hsz
  subst hby
  have hs := hx.src hT.sl h1
  have hlen : (cs ++ xs).length = (n + m) * i.size := by rw [List.length_append, h.1, hx.1, Nat.add_mul]
  have h63' : ((n + m : Nat) : Int) ≤ 9223372036854775807 := by simp only [maxLen] at h63; omega
  have grown : ∀ (base : Option Addr) (old : Nat), old < n + m →
      (Builtin.firstCells i.size n (.slice base n old)).run P w.drew = .ok cs.toArray w.drew →
      ∃ v' w', (Builtin.append_ #[t, t] ty #[.slice base n old, x]).run P w = .ok v' w' ∧ Row w' e i.size v' (n + m) (cs ++ xs) ∧ Fr (fun g => (Value.slice base n old).ownBlock = some g) w w' ∧ Moved w (.slice base n old) v' := by
    intro base old ho hold
    have hr := run_append_grow_src (P := P) w t t ty e i z hT.sl hi hz base n old cs hold x m xs hs ho h63' (growslice_fits ho hb)
    have hge := grownCap_ge w (n + m) old e
    have hcm := grownCap_le_maxLen w (n + m) old e h63
    refine ⟨_, _, hr, ⟨hlen, .inr ⟨w.heap.size, 0, _, _, rfl, Bk.new _ _ _, hge, hcm, ?_, fun j hj => ?_⟩⟩, (Fr.refl _ _).drew.alloc _, .inr ⟨w.heap.size, rfl, Nat.le_refl _⟩⟩
    · simp only [Array.size_append, List.size_toArray, size_zeroCells, hT.zs, hlen, ← Nat.add_mul, Nat.zero_add]
      have : n + m + (grownCap w (n + m) old e - (n + m)) = grownCap w (n + m) old e := by omega
      rw [this]; exact Nat.le_refl _
    · rw [Nat.zero_add, Array.getElem?_append_left (by simpa using hj)]
      simp
  rcases h.2 with ⟨rfl, rfl⟩ | ⟨b, off, cap, cur, rfl, hbk, hnc, hcm, hsz, hc⟩
  · have hcs : cs = [] := List.eq_nil_of_length_eq_zero (by simpa using h.1)
    subst hcs
    by_cases hm : m = 0
    · subst hm
      have hx0 : xs = [] := List.eq_nil_of_length_eq_zero (by simpa using hx.1)
      subst hx0
      exact ⟨_, w, run_append_nothing w t t ty e i hT.sl hi none 0 0 (Nat.le_refl _) x hs, Row.nil _ _ _, Fr.refl _ _, Moved.refl _ _⟩
    · exact grown none 0 (by omega) (by simp [Builtin.firstCells])
  · by_cases hroom : n + m ≤ cap
    · have hfit : n * i.size + m * i.size ≤ cap * i.size := by rw [← Nat.add_mul]; exact Nat.mul_le_mul_right _ hroom
      have hxl := hx.1
      have hr := run_append_room_src (P := P) w t t ty e i hT.sl hi b off n cap x m xs hs hroom (fun j hj => hbk.there (by omega)) (fun j hj => hbk.frozen _)
      refine ⟨_, _, hr, ⟨hlen, .inr ⟨b, off, cap, _, rfl, hbk.setCells xs _, hroom, hcm, by rw [lay_size]; exact hsz, fun j hj => ?_⟩⟩, Fr.setCells xs _ (Fr.refl _ _) (fun _ => rfl), .inl rfl⟩
      have hl0 := h.1
      by_cases hj0 : j < cs.length
      · rw [lay_out _ _ _ _ (.inl (by omega)), hc j hj0, List.getElem?_append_left hj0]
      · rw [List.length_append] at hj
        rw [List.getElem?_append_right (by omega), ← lay_in xs cur (off + n * i.size) (j - cs.length) (by omega) (by omega)]
        congr 1; omega
    · refine grown (some ⟨b, off, none⟩) cap (by omega) ?_
      exact run_firstCells_some (P := P) w.drew i.size n ⟨b, off, none⟩ n cap cs h.1 (fun j u hu => by
        rw [add_at]
        show w.cell? _ = _
        rw [hbk.cell, hc j (List.getElem?_eq_some_iff.1 hu).1, hu])

theorem wpList_appendR {t e : TypeId} {k by' : Nat} {z : Value} (hT : TE P t e k by' z) {ops : Array Oper} {rest : List Oper} {o : Oper} {a : Go.Act} {Q : Exit → Go.Act → World → Prop} (hgd : o.guard = none) (s y : Operand)
    (ho : o.op = .call { callee := .builtin .append, args := #[s, y], argTypes := #[t, t] })
    (v : Value) (n : Nat) (cs : List Value) (hs : a.eval s = v) (h : Row w e k v n cs) (x : Value) (m : Nat) (xs : List Value) (hy : a.eval y = x) (hx : Sl w k x m xs) (h1 : ∀ u ∈ xs, u.oneCell' = true)
    (h63 : n + m ≤ maxLen) (hb : (n + m) * by' ≤ 140737488355328)
    (hK : ∀ A' c' w', Row w' e k (.slice A' (n + m) c') (n + m) (cs ++ xs) → Fr (fun g => v.ownBlock = some g) w w' → Moved w v (.slice A' (n + m) c') → wpList P ops Q rest (a.put o.dst (.slice A' (n + m) c')) w') :
    wpList P ops Q (o :: rest) a w := by
  refine wpList_plain hgd fun K hK' => ?_
  obtain ⟨v', w', hr, h2, h3, h4⟩ := run_appendR (P := P) hT o.type h hx h1 h63 hb
  obtain ⟨A', c', rfl, _⟩ := h2.form
  unfold Oper.wp execOp
  simp only [ho, resolve, invoke, builtin, Sem.run_bind, Sem.run_pure, Result.andThen_ok, List.map_toArray, List.map_cons, List.map_nil, hs, hy, hr]
  exact hK' _ _ (hK A' c' w' h2 h3 h4)
theorem stepOf_appendR {t e : TypeId} {k by' : Nat} {z : Value} (hT : TE P t e k by' z) {ops : Array Oper} {o : Oper} {a : Go.Act} {K' : Go.Act → World → Prop} {Q : Exit → Go.Act → World → Prop} (hgd : o.guard = none) (s y : Operand)
    (ho : o.op = .call { callee := .builtin .append, args := #[s, y], argTypes := #[t, t] })
    (v : Value) (n : Nat) (cs : List Value) (hs : a.eval s = v) (h : Row w e k v n cs) (x : Value) (m : Nat) (xs : List Value) (hy : a.eval y = x) (hx : Sl w k x m xs) (h1 : ∀ u ∈ xs, u.oneCell' = true)
    (h63 : n + m ≤ maxLen) (hb : (n + m) * by' ≤ 140737488355328)
    (hK : ∀ A' c' w', Row w' e k (.slice A' (n + m) c') (n + m) (cs ++ xs) → Fr (fun g => v.ownBlock = some g) w w' → Moved w v (.slice A' (n + m) c') → K' (a.put o.dst (.slice A' (n + m) c')) w') :
    if Region.wanted o (yielded ops a.tmps) = true then Oper.wp P o a w K' Q else K' (a.put o.dst undef) w := by
  rw [if_pos (by simp [Region.wanted, hgd])]
  obtain ⟨v', w', hr, h2, h3, h4⟩ := run_appendR (P := P) hT o.type h hx h1 h63 hb
  obtain ⟨A', c', rfl, _⟩ := h2.form
  unfold Oper.wp execOp
  simp only [ho, resolve, invoke, builtin, Sem.run_bind, Sem.run_pure, Result.andThen_ok, List.map_toArray, List.map_cons, List.map_nil, hs, hy, hr]
  exact hK A' c' w' h2 h3 h4

theorem run_copyR {t e : TypeId} {k by' : Nat} {z : Value} (hT : TE P t e k by' z) (ty : TypeId) {b off d dc : Nat} {cur : Array Value} (hbk : Bk w b e cur) {m sl sc : Nat} {A : Option Addr} {xs : List Value} (hm : m = Nat.min sl d)
    (hx : xs.length = m * k) (hc : 0 < m → ∃ b' o', A = some ⟨b', o', none⟩ ∧ ∀ j u, xs[j]? = some u → w.cell? ⟨b', o' + j, none⟩ = some u) (h1 : ∀ u ∈ xs, u.oneCell' = true) (hfit : off + m * k ≤ cur.size) :
    (Builtin.copy_ #[t, t] ty #[.slice (some ⟨b, off, none⟩) d dc, .slice A sl sc]).run P w = .ok (goInt m) (w.setCells b off xs) := by
  obtain ⟨i, hi, hz, hsz, hby⟩ := info_parts hT.info
  subst hsz
  have hst := run_storeCells_cells (P := P) b off xs 0 w (fun j hj => hbk.there (by omega)) (fun j hj => hbk.frozen _) h1
  simp only [Nat.add_zero] at hst
  have hf : (Builtin.firstCells i.size m (.slice A sl sc)).run P w = .ok xs.toArray w := by
    by_cases h0 : 0 < m
    · obtain ⟨b', o', rfl, hc'⟩ := hc h0
      exact run_firstCells_some (P := P) w i.size m ⟨b', o', none⟩ sl sc xs hx (fun j u hu => by rw [add_at]; exact hc' j u hu)
    · obtain rfl : m = 0 := by omega
      have hx0 : xs = [] := List.eq_nil_of_length_eq_zero (by simpa using hx)
      subst hx0
      rcases A with _ | a
      · simp [Builtin.firstCells]
      · exact run_firstCells_some (P := P) w i.size 0 a sl sc [] (by simp) (fun j u hu => by simp at hu)
  simp [Builtin.copy_, run_underlying hT.sl, Builtin.lenOf, sizeOf, typeInfo, hi, ← hm, hf, hst]

theorem wpList_copyR {t e : TypeId} {k by' : Nat} {z : Value} (hT : TE P t e k by' z) {ops : Array Oper} {rest : List Oper} {o : Oper} {a : Go.Act} {Q : Exit → Go.Act → World → Prop} (hgd : o.guard = none) (d s : Operand)
    (ho : o.op = .call { callee := .builtin .copy, args := #[d, s], argTypes := #[t, t] }) {b off dl dc : Nat} {cur : Array Value} (hbk : Bk w b e cur) (hd : a.eval d = .slice (some ⟨b, off, none⟩) dl dc) {m sl sc : Nat} {A : Option Addr} (hs : a.eval s = .slice A sl sc) (xs : List Value) (hm : m = Nat.min sl dl)
    (hx : xs.length = m * k) (hc : 0 < m → ∃ b' o', A = some ⟨b', o', none⟩ ∧ ∀ j u, xs[j]? = some u → w.cell? ⟨b', o' + j, none⟩ = some u) (h1 : ∀ u ∈ xs, u.oneCell' = true) (hfit : off + m * k ≤ cur.size)
    (hK : wpList P ops Q rest (a.put o.dst (goInt m)) (w.setCells b off xs)) : wpList P ops Q (o :: rest) a w := by
  refine wpList_plain hgd fun K hK' => ?_
  have hr := run_copyR (P := P) hT o.type hbk (dc := dc) (sc := sc) hm hx hc h1 hfit
  unfold Oper.wp execOp
  simp only [ho, resolve, invoke, builtin, Sem.run_bind, Sem.run_pure, Result.andThen_ok, List.map_toArray, List.map_cons, List.map_nil, hd, hs, hr]
  exact hK' _ _ hK
theorem stepOf_copyR {t e : TypeId} {k by' : Nat} {z : Value} (hT : TE P t e k by' z) {ops : Array Oper} {o : Oper} {a : Go.Act} {K' : Go.Act → World → Prop} {Q : Exit → Go.Act → World → Prop} {E : Prop} (hgd : o.guard = none) (d s : Operand)
    (ho : o.op = .call { callee := .builtin .copy, args := #[d, s], argTypes := #[t, t] }) {b off dl dc : Nat} {cur : Array Value} (hbk : Bk w b e cur) (hd : a.eval d = .slice (some ⟨b, off, none⟩) dl dc) {m sl sc : Nat} {A : Option Addr} (hs : a.eval s = .slice A sl sc) (xs : List Value) (hm : m = Nat.min sl dl)
    (hx : xs.length = m * k) (hc : 0 < m → ∃ b' o', A = some ⟨b', o', none⟩ ∧ ∀ j u, xs[j]? = some u → w.cell? ⟨b', o' + j, none⟩ = some u) (h1 : ∀ u ∈ xs, u.oneCell' = true) (hfit : off + m * k ≤ cur.size)
    (hK : K' (a.put o.dst (goInt m)) (w.setCells b off xs)) : if Region.wanted o (yielded ops a.tmps) = true then Oper.wp P o a w K' Q else E := by
  rw [if_pos (by simp [Region.wanted, hgd])]
  have hr := run_copyR (P := P) hT o.type hbk (dc := dc) (sc := sc) hm hx hc h1 hfit
  unfold Oper.wp execOp
  simp only [ho, resolve, invoke, builtin, Sem.run_bind, Sem.run_pure, Result.andThen_ok, List.map_toArray, List.map_cons, List.map_nil, hd, hs, hr]
  exact hK
end
end Go.Proofs.YtieoeoonopcjbaaGreatDoor

/- Events in memory: rows of them, one by value. -/
namespace Go.Proofs.YtieoeoonopcjbaaGreatDoor
open Go.RowKit

theorem flat_at {α : Type} [Inhabited α] {f : α → List Value} {k : Nat} (hf : ∀ a, (f a).length = k) : ∀ {l : List α} {i j : Nat}, i < l.length → j < k → (l.flatMap f)[i * k + j]? = (f (l.getD i default))[j]?
  | [], i, _, hi, _ => by simp at hi
  | a :: l, 0, j, _, hj => by rw [List.flatMap_cons, Nat.zero_mul, Nat.zero_add, List.getElem?_append_left (by rw [hf]; exact hj)]; rfl
  | a :: l, i + 1, j, hi, hj => by
    have h1 := flat_at hf (l := l) (i := i) (j := j) (by simpa using hi) hj
    rw [List.flatMap_cons, List.getElem?_append_right (by rw [hf, Nat.add_mul]; omega), hf, show (i + 1) * k + j - k = i * k + j by rw [Nat.add_mul]; omega, h1]
    rfl
theorem flat_len {α : Type} {f : α → List Value} {k : Nat} (hf : ∀ a, (f a).length = k) (l : List α) : (l.flatMap f).length = l.length * k := by
  induction l with
  | nil => simp
  | cons a l ih => rw [List.flatMap_cons, List.length_append, hf, ih, List.length_cons, Nat.add_mul]; omega
theorem flat_take {α : Type} {f : α → List Value} {k : Nat} (hf : ∀ a, (f a).length = k) : ∀ (l : List α) (i : Nat), (l.flatMap f).take (i * k) = (l.take i).flatMap f
  | [], i => by simp
  | a :: l, 0 => by simp
  | a :: l, i + 1 => by
    rw [List.flatMap_cons, List.take_succ_cons, List.flatMap_cons, ← flat_take hf l i, Nat.add_mul, Nat.one_mul, Nat.add_comm, List.take_append, hf, Nat.add_sub_cancel_left, List.take_of_length_le (by rw [hf]; omega)]
theorem flat_drop {α : Type} {f : α → List Value} {k : Nat} (hf : ∀ a, (f a).length = k) : ∀ (l : List α) (i : Nat), (l.flatMap f).drop (i * k) = (l.drop i).flatMap f
  | [], i => by simp
  | a :: l, 0 => by simp
  | a :: l, i + 1 => by
    rw [List.flatMap_cons, List.drop_succ_cons, ← flat_drop hf l i, Nat.add_mul, Nat.one_mul, Nat.add_comm, List.drop_append, hf, Nat.add_sub_cancel_left, List.drop_of_length_le (by rw [hf]; omega), List.nil_append]
theorem getD_mem {α : Type} [Inhabited α] {l : List α} {i : Nat} (h : i < l.length) : l.getD i default ∈ l := by
  rw [show l.getD i default = l[i] by simp [List.getD, h]]; exact List.getElem_mem h
theorem getD_map {α β : Type} [Inhabited α] [Inhabited β] (f : α → β) {l : List α} {i : Nat} (h : i < l.length) : (l.map f).getD i default = f (l.getD i default) := by
  simp [List.getD, h]
theorem take_succ_getD {α : Type} [Inhabited α] {l : List α} {j : Nat} (h : j < l.length) : l.take (j + 1) = l.take j ++ [l.getD j default] := by
  rw [List.take_add_one, List.getElem?_eq_getElem h]; simp [List.getD, h]
theorem drop_getD {α : Type} [Inhabited α] {l : List α} {j : Nat} (h : j < l.length) : l.drop j = l.getD j default :: l.drop (j + 1) := by
  rw [List.drop_eq_getElem_cons h]; simp [List.getD, h]

section
variable {P : Program} {w : World}
theorem run_appendW {t e : TypeId} {k by' : Nat} {z : Value} (hT : TE P t e k by' z) (ty : TypeId) {v : Value} {n : Nat} {cs : List Value} (h : Row w e k v n cs) {x : Value} {m : Nat} {xs : List Value} (hx : Sl w k x m xs) (h1 : ∀ u ∈ xs, u.oneCell' = true)
    (h63 : n + m ≤ maxLen) (hb : (n + m + (n + m) / 4 + 192) * by' ≤ 281474976710656) :
    ∃ v' w', (Builtin.append_ #[t, t] ty #[v, x]).run P w = .ok v' w' ∧ Row w' e k v' (n + m) (cs ++ xs) ∧ Fr (fun g => v.ownBlock = some g) w w' ∧ Moved w v v' := by
  obtain ⟨i, hi, hz, hsz, hby⟩ := info_parts hT.info
  subst hsz
  subst hby
  have hs := hx.src hT.sl h1
  have hlen : (cs ++ xs).length = (n + m) * i.size := by rw [List.length_append, h.1, hx.1, Nat.add_mul]
  have h63' : ((n + m : Nat) : Int) ≤ 9223372036854775807 := by simp only [maxLen] at h63; omega
  have grown : ∀ (base : Option Addr) (old : Nat), old < n + m →
      (Builtin.firstCells i.size n (.slice base n old)).run P w.drew = .ok cs.toArray w.drew →
      ∃ v' w', (Builtin.append_ #[t, t] ty #[.slice base n old, x]).run P w = .ok v' w' ∧ Row w' e i.size v' (n + m) (cs ++ xs) ∧ Fr (fun g => (Value.slice base n old).ownBlock = some g) w w' ∧ Moved w (.slice base n old) v' := by
    intro base old ho hold
    have hr := run_append_grow_src (P := P) w t t ty e i z hT.sl hi hz base n old cs hold x m xs hs ho h63' (growslice_fits_wide ho hb)
    have hge := grownCap_ge w (n + m) old e
    have hcm := grownCap_le_maxLen w (n + m) old e h63
    refine ⟨_, _, hr, ⟨hlen, .inr ⟨w.heap.size, 0, _, _, rfl, Bk.new _ _ _, hge, hcm, ?_, fun j hj => ?_⟩⟩, (Fr.refl _ _).drew.alloc _, .inr ⟨w.heap.size, rfl, Nat.le_refl _⟩⟩
    · simp only [Array.size_append, List.size_toArray, size_zeroCells, hT.zs, hlen, ← Nat.add_mul, Nat.zero_add]
      have : n + m + (grownCap w (n + m) old e - (n + m)) = grownCap w (n + m) old e := by omega
      rw [this]; exact Nat.le_refl _
    · rw [Nat.zero_add, Array.getElem?_append_left (by simpa using hj)]
      simp
  rcases h.2 with ⟨rfl, rfl⟩ | ⟨b, off, cap, cur, rfl, hbk, hnc, hcm, hsz, hc⟩
  · have hcs : cs = [] := List.eq_nil_of_length_eq_zero (by simpa using h.1)
    subst hcs
    by_cases hm : m = 0
    · subst hm
      have hx0 : xs = [] := List.eq_nil_of_length_eq_zero (by simpa using hx.1)
      subst hx0
      exact ⟨_, w, run_append_nothing w t t ty e i hT.sl hi none 0 0 (Nat.le_refl _) x hs, Row.nil _ _ _, Fr.refl _ _, Moved.refl _ _⟩
    · exact grown none 0 (by omega) (by simp [Builtin.firstCells])
  · by_cases hroom : n + m ≤ cap
    · have hfit : n * i.size + m * i.size ≤ cap * i.size := by rw [← Nat.add_mul]; exact Nat.mul_le_mul_right _ hroom
      have hxl := hx.1
      have hr := run_append_room_src (P := P) w t t ty e i hT.sl hi b off n cap x m xs hs hroom (fun j hj => hbk.there (by omega)) (fun j hj => hbk.frozen _)
      refine ⟨_, _, hr, ⟨hlen, .inr ⟨b, off, cap, _, rfl, hbk.setCells xs _, hroom, hcm, by rw [lay_size]; exact hsz, fun j hj => ?_⟩⟩, Fr.setCells xs _ (Fr.refl _ _) (fun _ => rfl), .inl rfl⟩
      have hl0 := h.1
      by_cases hj0 : j < cs.length
      · rw [lay_out _ _ _ _ (.inl (by omega)), hc j hj0, List.getElem?_append_left hj0]
      · rw [List.length_append] at hj
        rw [List.getElem?_append_right (by omega), ← lay_in xs cur (off + n * i.size) (j - cs.length) (by omega) (by omega)]
        congr 1; omega
    · refine grown (some ⟨b, off, none⟩) cap (by omega) ?_
      exact run_firstCells_some (P := P) w.drew i.size n ⟨b, off, none⟩ n cap cs h.1 (fun j u hu => by
        rw [add_at]
        show w.cell? _ = _
        rw [hbk.cell, hc j (List.getElem?_eq_some_iff.1 hu).1, hu])

theorem stepOf_appendW {t e : TypeId} {k by' : Nat} {z : Value} (hT : TE P t e k by' z) {ops : Array Oper} {o : Oper} {a : Go.Act} {K' : Go.Act → World → Prop} {Q : Exit → Go.Act → World → Prop} (hgd : o.guard = none) (s y : Operand)
    (ho : o.op = .call { callee := .builtin .append, args := #[s, y], argTypes := #[t, t] })
    (v : Value) (n : Nat) (cs : List Value) (hs : a.eval s = v) (h : Row w e k v n cs) (x : Value) (m : Nat) (xs : List Value) (hy : a.eval y = x) (hx : Sl w k x m xs) (h1 : ∀ u ∈ xs, u.oneCell' = true)
    (h63 : n + m ≤ maxLen) (hb : (n + m + (n + m) / 4 + 192) * by' ≤ 281474976710656)
    (hK : ∀ A' c' w', Row w' e k (.slice A' (n + m) c') (n + m) (cs ++ xs) → Fr (fun g => v.ownBlock = some g) w w' → Moved w v (.slice A' (n + m) c') → K' (a.put o.dst (.slice A' (n + m) c')) w') :
    if Region.wanted o (yielded ops a.tmps) = true then Oper.wp P o a w K' Q else K' (a.put o.dst undef) w := by
  rw [if_pos (by simp [Region.wanted, hgd])]
  obtain ⟨v', w', hr, h2, h3, h4⟩ := run_appendW (P := P) hT o.type h hx h1 h63 hb
  obtain ⟨A', c', rfl, _⟩ := h2.form
  unfold Oper.wp execOp
  simp only [ho, resolve, invoke, builtin, Sem.run_bind, Sem.run_pure, Result.andThen_ok, List.map_toArray, List.map_cons, List.map_nil, hs, hy, hr]
  exact hK A' c' w' h2 h3 h4

end

/-- An event and where its bytes lie. -/
structure VL where
  e : Ev
  A : Option Addr
  c : Nat
instance : Inhabited VL := ⟨⟨default, none, 0⟩⟩
def VL.bv (p : VL) : Value := .slice p.A p.e.d.length p.c
def VL.cells (p : VL) : List Value := [.int .i64 p.e.k, .int .i64 p.e.a, .int .i64 p.e.r, .int .i64 p.e.i, .int .i64 p.e.l, .int .i64 p.e.n, p.bv]
/-- It as a value. -/
def VL.val (p : VL) : Value := .agg p.cells.toArray
def vlc (ps : List VL) : List Value := ps.flatMap VL.cells
theorem VL.cells_len (p : VL) : p.cells.length = 7 := rfl
theorem vlc_at {ps : List VL} {i j : Nat} (hi : i < ps.length) (hj : j < 7) : (vlc ps)[i * 7 + j]? = (ps.getD i default).cells[j]? := flat_at VL.cells_len hi hj
theorem vlc_len (ps : List VL) : (vlc ps).length = ps.length * 7 := flat_len VL.cells_len ps
theorem vlc_one (ps : List VL) : ∀ u ∈ vlc ps, u.oneCell' = true := by
  intro u hu
  obtain ⟨p, _, hp⟩ := List.mem_flatMap.1 hu
  simp [VL.cells, VL.bv] at hp
  rcases hp with rfl | rfl | rfl | rfl | rfl | rfl | rfl <;> rfl
theorem vlc_app (a b : List VL) : vlc (a ++ b) = vlc a ++ vlc b := by simp [vlc]
theorem vlc_take (ps : List VL) (i : Nat) : (vlc ps).take (i * 7) = vlc (ps.take i) := flat_take VL.cells_len ps i
theorem vlc_drop (ps : List VL) (i : Nat) : (vlc ps).drop (i * 7) = vlc (ps.drop i) := flat_drop VL.cells_len ps i
/-- Its numbers and its length may be. -/
def N64 (x : Int) : Prop := -9223372036854775808 ≤ x ∧ x ≤ 9223372036854775807
structure VL.ok (p : VL) : Prop where
  k : N64 p.e.k
  a : N64 p.e.a
  r : N64 p.e.r
  i : N64 p.e.i
  l : N64 p.e.l
  n : N64 p.e.n
  d : p.e.d.length ≤ 140737488355328

/-- Its bytes can be read; they lie within F. -/
structure RdV (w : World) (F : Nat → Prop) (p : VL) : Prop where
  rd : Rd8 w p.A p.e.d
  ok : p.ok
  inF : ∀ ad, p.A = some ad → 0 < p.e.d.length → F ad.block
theorem RdV.fr {S F : Nat → Prop} {w w' : World} {p : VL} (h : RdV w F p) (hf : Fr S w w') (hS : ∀ k, F k → ¬ S k) : RdV w' F p :=
  ⟨h.rd.fr hf (fun ad e h0 => hS _ (h.inF ad e h0)), h.ok, h.inF⟩
/-- Entries that can be read at a slice; all lies within F. -/
structure Vs (w : World) (A : Option Addr) (n : Nat) (ps : List VL) (F : Nat → Prop) : Prop where
  len : ps.length = n
  row : 0 < n → ∃ b off, A = some ⟨b, off, none⟩ ∧ F b ∧ ∀ j u, (vlc ps)[j]? = some u → w.cell? ⟨b, off + j, none⟩ = some u
  each : ∀ p ∈ ps, RdV w F p
theorem Vs.fr {S F : Nat → Prop} {w w' : World} {A : Option Addr} {n : Nat} {ps : List VL} (h : Vs w A n ps F) (hf : Fr S w w') (hS : ∀ k, F k → ¬ S k) : Vs w' A n ps F := by
  refine ⟨h.len, fun h0 => ?_, fun p hp => (h.each p hp).fr hf hS⟩
  obtain ⟨b, off, e, hb, hc⟩ := h.row h0
  exact ⟨b, off, e, hb, fun j u hu => by
    have h1 := hc j u hu
    rw [← h1]
    exact hf.cell (p := ⟨b, off + j, .none⟩) (World.block_lt_of_cell? w _ h1) (hS b hb)⟩
theorem Vs.fr0 {F : Nat → Prop} {w w' : World} {A : Option Addr} {n : Nat} {ps : List VL} (h : Vs w A n ps F) (hf : Fr (fun _ => False) w w') : Vs w' A n ps F := h.fr hf (fun _ _ h => h)
theorem Vs.at {F : Nat → Prop} {w : World} {A : Option Addr} {n : Nat} {ps : List VL} (h : Vs w A n ps F) {i : Nat} (hi : i < n) :
    ∃ b off, A = some ⟨b, off, none⟩ ∧ F b ∧ (∀ j u, (ps.getD i default).cells[j]? = some u → w.cell? ⟨b, off + i * 7 + j, none⟩ = some u) ∧ RdV w F (ps.getD i default) := by
  obtain ⟨b, off, e, hb, hc⟩ := h.row (by omega)
  have hi' : i < ps.length := by rw [h.len]; exact hi
  refine ⟨b, off, e, hb, fun j u hu => ?_, h.each _ (getD_mem hi')⟩
  have hj : j < 7 := by
    have := (List.getElem?_eq_some_iff.1 hu).1
    rw [VL.cells_len] at this; exact this
  rw [Nat.add_assoc]
  exact hc _ _ ((vlc_at hi' hj).trans hu)
theorem Vs.sl {F : Nat → Prop} {w : World} {A : Option Addr} {n c : Nat} {ps : List VL} (h : Vs w A n ps F) : Sl w 7 (.slice A n c) n (vlc ps) :=
  ⟨by rw [vlc_len, h.len], A, c, rfl, fun h0 => by
    obtain ⟨b, off, e, _, hc⟩ := h.row h0
    exact ⟨b, off, e, hc⟩⟩
theorem Vs.mono {F G : Nat → Prop} {w : World} {A : Option Addr} {n : Nat} {ps : List VL} (h : Vs w A n ps F) (hG : ∀ k, F k → G k) : Vs w A n ps G :=
  ⟨h.len, fun h0 => by obtain ⟨b, off, e, hb, hc⟩ := h.row h0; exact ⟨b, off, e, hG b hb, hc⟩, fun p hp => ⟨(h.each p hp).rd, (h.each p hp).ok, fun ad e h0 => hG _ ((h.each p hp).inF ad e h0)⟩⟩
theorem Vs.nil (w : World) (A : Option Addr) (F : Nat → Prop) : Vs w A 0 [] F := ⟨rfl, fun h => by omega, fun p hp => by cases hp⟩
/-- A piece from i on. -/
theorem Vs.drop {F : Nat → Prop} {w : World} {b off n : Nat} {ps : List VL} (h : Vs w (some ⟨b, off, none⟩) n ps F) (i : Nat) (hi : i ≤ n) : Vs w (some ⟨b, off + i * 7, none⟩) (n - i) (ps.drop i) F := by
  refine ⟨by rw [List.length_drop, h.len], fun h0 => ?_, fun p hp => h.each p (List.mem_of_mem_drop hp)⟩
  obtain ⟨b', off', e, hb, hc⟩ := h.row (by omega)
  injection e with e
  injection e with e1 e2
  subst e1 e2
  refine ⟨_, _, rfl, hb, fun j u hu => ?_⟩
  rw [← vlc_drop, List.getElem?_drop] at hu
  rw [Nat.add_assoc]
  exact hc _ _ hu
theorem Vs.take {F : Nat → Prop} {w : World} {A : Option Addr} {n : Nat} {ps : List VL} (h : Vs w A n ps F) (i : Nat) (hi : i ≤ n) : Vs w A i (ps.take i) F := by
  refine ⟨by rw [List.length_take, h.len]; omega, fun h0 => ?_, fun p hp => h.each p (List.mem_of_mem_take hp)⟩
  obtain ⟨b', off', e, hb, hc⟩ := h.row (by omega)
  refine ⟨_, _, e, hb, fun j u hu => ?_⟩
  rw [← vlc_take, List.getElem?_take] at hu
  split at hu
  · exact hc _ _ hu
  · cases hu

/-- Its bytes are its own. -/
structure OwV (w : World) (p : VL) : Prop where
  own : Own8 w 5 p.bv p.e.d
  ok : p.ok
theorem OwV.fr {S : Nat → Prop} {w w' : World} {p : VL} (h : OwV w p) (hf : Fr S w w') (hS : ∀ k, p.bv.ownBlock = some k → ¬ S k) : OwV w' p := ⟨h.own.fr hf hS, h.ok⟩
theorem OwV.rdE {w : World} {p : VL} (h : OwV w p) : RdV w (fun k => p.bv.ownBlock = some k) p :=
  ⟨h.own.rd, h.ok, fun ad e h0 => by unfold VL.bv; rw [e]; rfl⟩
/-- A row of entries of the call's own, of the type T. -/
structure OwnV (w : World) (T : TypeId) (v : Value) (ps : List VL) : Prop where
  row : Row w T 7 v ps.length (vlc ps)
  each : ∀ p ∈ ps, OwV w p
def VB (v : Value) (ps : List VL) (k : Nat) : Prop := v.ownBlock = some k ∨ ∃ p ∈ ps, p.bv.ownBlock = some k
theorem OwnV.lt {w : World} {T : TypeId} {v : Value} {ps : List VL} (h : OwnV w T v ps) {k : Nat} (hk : VB v ps k) : k < w.heap.size := by
  rcases hk with e | ⟨p, hp, e⟩
  · exact h.row.lt e
  · exact (h.each p hp).own.lt e
theorem OwnV.fr {S : Nat → Prop} {w w' : World} {T : TypeId} {v : Value} {ps : List VL} (h : OwnV w T v ps) (hf : Fr S w w') (hS : ∀ k, VB v ps k → ¬ S k) : OwnV w' T v ps :=
  ⟨h.row.fr hf (fun k e => hS k (.inl e)), fun p hp => (h.each p hp).fr hf (fun k e => hS k (.inr ⟨p, hp, e⟩))⟩
theorem OwnV.fr0 {w w' : World} {T : TypeId} {v : Value} {ps : List VL} (h : OwnV w T v ps) (hf : Fr (fun _ => False) w w') : OwnV w' T v ps := h.fr hf (fun _ _ h => h)
theorem OwnV.nil (w : World) (T : TypeId) : OwnV w T (.slice none 0 0) [] := ⟨Row.nil _ _ _, fun p hp => by cases hp⟩
theorem OwnV.es {w : World} {T : TypeId} {A : Option Addr} {n c : Nat} {ps : List VL} (h : OwnV w T (.slice A n c) ps) : Vs w A n ps (VB (.slice A n c) ps) := by
  have hl := h.row.len
  subst hl
  refine ⟨rfl, fun h0 => ?_, fun p hp => ?_⟩
  · obtain ⟨A', c', e, _, _, hA⟩ := h.row.form
    obtain ⟨b, off, rfl⟩ := hA h0
    injection e with e1 _ e3
    subst e1 e3
    exact ⟨b, off, rfl, .inl rfl, fun j u hu => h.row.cell hu⟩
  · have h1 := (h.each p hp).rdE
    exact ⟨h1.rd, h1.ok, fun ad e h0 => .inr ⟨p, hp, h1.inF ad e h0⟩⟩
/-- It is new since w. -/
def NewV (w w' : World) (T : TypeId) (v : Value) (ps : List VL) : Prop := OwnV w' T v ps ∧ Fr (fun _ => False) w w' ∧ ∀ k, VB v ps k → w.heap.size ≤ k
/-- What the row's block is turned into touches none of the bytes. -/
theorem OwnV.apart {w : World} {T : TypeId} {v : Value} {ps : List VL} (h : OwnV w T v ps) (hT : T ≠ 5) {p : VL} (hp : p ∈ ps) {k : Nat} (hk : v.ownBlock = some k) : p.bv.ownBlock ≠ some k := by
  obtain ⟨cur, hb⟩ := h.row.bk hk
  exact (h.each p hp).own.ne hb (fun e => hT e.symm)

end Go.Proofs.YtieoeoonopcjbaaGreatDoor

/- event: readEvent. -/
namespace Go.Proofs.YtieoeoonopcjbaaGreatDoor
open Go.RowKit

theorem rdAt_fr {w w' : World} {gr : Nat} {A : Option Addr} {n cp : Nat} {xs : List UInt8} {s : St} {S : Nat → Prop} (h : RdAt w gr A n cp xs s) (hf : Fr S w w') (hg : ¬ S gr) (hA : ∀ ad, A = some ad → 0 < n → ¬ S ad.block) : RdAt w' gr A n cp xs s := by
  cases s with
  | at_ k => exact ⟨h.1, h.2.imp fun _ h => h.imp fun _ h => h.fr hf hg hA⟩
  | bad er a wh => exact ⟨h.1, h.2.imp fun _ h => h.fr hf hg hA⟩
def z7 : Array Value := #[.int .i64 0, .int .i64 0, .int .i64 0, .int .i64 0, .int .i64 0, .int .i64 0, .slice none 0 0]
/-- A reader at work on the event at g3; g2: where the answer will lie. -/
structure REv (w0 : World) (g2 g3 gr : Nat) (A : Option Addr) (n cp : Nat) (xs : List UInt8) (cs : Array Value) (st : St) (wr : World) : Prop where
  rd : RdAt wr gr A n cp xs st
  b3 : Bk wr g3 68 cs
  b2 : Bk wr g2 68 z7
  et : ErrT wr
  fr : Fr (fun x => x = gr) w0 wr
/-- What stands throughout. -/
structure RSide (w0 : World) (g2 g3 gr : Nat) (A : Option Addr) (n : Nat) : Prop where
  h2 : w0.heap.size ≤ g2
  h3 : w0.heap.size ≤ g3
  h23 : g2 ≠ g3
  r : gr < w0.heap.size
  re : gr ≠ 0
  e : 0 < w0.heap.size
  a : ∀ ad, A = some ad → 0 < n → ad.block < w0.heap.size
section
variable {w0 wr w' : World} {g2 g3 gr : Nat} {A : Option Addr} {n cp : Nat} {xs : List UInt8} {cs : Array Value} {st st' : St}
theorem REv.call (h : REv w0 g2 g3 gr A n cp xs cs st wr) (hs : RSide w0 g2 g3 gr A n) (rd : RdAt w' gr A n cp xs st') (hf : Fr (fun x => x = gr) wr w') : REv w0 g2 g3 gr A n cp xs cs st' w' :=
  ⟨rd, h.b3.fr hf (fun e => by have := hs.h3; have := hs.r; omega), h.b2.fr hf (fun e => by have := hs.h2; have := hs.r; omega), h.et.fr hf (fun e => hs.re e.symm), h.fr.trans hf (fun _ _ e => e)⟩
theorem REv.store (h : REv w0 g2 g3 gr A n cp xs cs st wr) (hs : RSide w0 g2 g3 gr A n) (i : Nat) (u : Value) : REv w0 g2 g3 gr A n cp xs (cs.setIfInBounds i u) st (wr.setCell ⟨g3, i, none⟩ u) := by
  have hf : Fr (fun k => k = g3) wr (wr.setCell ⟨g3, i, none⟩ u) := Fr.setCell (S := fun k => k = g3) (p := ⟨g3, i, none⟩) (Fr.refl _ _) (fun _ => rfl) _
  have h3 := hs.h3
  refine ⟨rdAt_fr h.rd hf (fun e => by have := hs.r; omega) (fun ad e h0 e2 => by have := hs.a ad e h0; omega), h.b3.set i u, h.b2.fr hf (fun e => hs.h23 e), h.et.fr hf (fun e => by have := hs.e; omega), Fr.setCell (p := ⟨g3, i, none⟩) h.fr (fun e => by have e' : g3 < w0.heap.size := e; omega) _⟩
end
def set7 (w : World) (b : Nat) (a0 a1 a2 a3 a4 a5 a6 : Value) : World := ((((((w.setCell ⟨b, 0, none⟩ a0).setCell ⟨b, 1, none⟩ a1).setCell ⟨b, 2, none⟩ a2).setCell ⟨b, 3, none⟩ a3).setCell ⟨b, 4, none⟩ a4).setCell ⟨b, 5, none⟩ a5).setCell ⟨b, 6, none⟩ a6
theorem Bk.set7 {w : World} {b : Nat} {t : TypeId} {x0 x1 x2 x3 x4 x5 x6 : Value} (h : Bk w b t #[x0, x1, x2, x3, x4, x5, x6]) (a0 a1 a2 a3 a4 a5 a6 : Value) : Bk (set7 w b a0 a1 a2 a3 a4 a5 a6) b t #[a0, a1, a2, a3, a4, a5, a6] := by
  unfold Go.Proofs.YtieoeoonopcjbaaGreatDoor.set7
  simpa using ((((((h.set 0 a0).set 1 a1).set 2 a2).set 3 a3).set 4 a4).set 5 a5).set 6 a6
theorem Fr.set7 {S : Nat → Prop} {a w : World} (h : Fr S a w) {b : Nat} (hb : b < a.heap.size → S b) (a0 a1 a2 a3 a4 a5 a6 : Value) : Fr S a (set7 w b a0 a1 a2 a3 a4 a5 a6) :=
  ((((((h.setCell (p := ⟨b, 0, none⟩) hb _).setCell (p := ⟨b, 1, none⟩) hb _).setCell (p := ⟨b, 2, none⟩) hb _).setCell (p := ⟨b, 3, none⟩) hb _).setCell (p := ⟨b, 4, none⟩) hb _).setCell (p := ⟨b, 5, none⟩) hb _).setCell (p := ⟨b, 6, none⟩) hb _
theorem run_loadEv (w : World) (b : Nat) (a0 a1 a2 a3 a4 a5 a6 : Value) (h : Bk w b 68 #[a0, a1, a2, a3, a4, a5, a6]) : (Instr.loadAt 68 (.pointer (some ⟨b, 0, none⟩))).run Tryz.prog w = .ok (.agg #[a0, a1, a2, a3, a4, a5, a6]) w := by
  have h0 : w.cell? ⟨b, 0, none⟩ = some a0 := h.cell 0
  have h1 : w.cell? ⟨b, 1, none⟩ = some a1 := h.cell 1
  have h2 : w.cell? ⟨b, 2, none⟩ = some a2 := h.cell 2
  have h3 : w.cell? ⟨b, 3, none⟩ = some a3 := h.cell 3
  have h4 : w.cell? ⟨b, 4, none⟩ = some a4 := h.cell 4
  have h5 : w.cell? ⟨b, 5, none⟩ = some a5 := h.cell 5
  have h6 : w.cell? ⟨b, 6, none⟩ = some a6 := h.cell 6
  go_simp
theorem resEv {fn : Func} {p : Tmp} (h : fn.results = #[.cell p 68]) (tmps : Array Value) (w : World) (b : Nat) (a0 a1 a2 a3 a4 a5 a6 : Value) (hp : tmps.getD p undef = .pointer (some ⟨b, 0, none⟩)) (hb : Bk w b 68 #[a0, a1, a2, a3, a4, a5, a6]) :
    (results fn tmps).run Tryz.prog w = .ok (.agg #[a0, a1, a2, a3, a4, a5, a6]) w := by
  have h2 : (loadVar 68 ⟨b, 0, none⟩).run Tryz.prog w = .ok (.agg #[a0, a1, a2, a3, a4, a5, a6]) w := by
    have := run_loadEv w b a0 a1 a2 a3 a4 a5 a6 hb
    simpa only [Instr.loadAt, Instr.sureAddr, Sem.run_bind, Sem.run_pure, Result.andThen_ok] using this
  have hp2 : tmps[p]?.getD undef = .pointer (some ⟨b, 0, none⟩) := by simpa using hp
  simp [results, h, asAddr, hp2, h2]
def evSt (xs : List UInt8) (s : St) : Nat → St
  | 0 => (evS1 xs s).2
  | 1 => (evS2 xs s).2
  | 2 => (evS3 xs s).2
  | 3 => (evS4 xs s).2
  | 4 => (evS5 xs s).2
  | _ => (evS6 xs s).2
def evC (xs : List UInt8) (s : St) (k : Nat) : Array Value := #[.int .i64 (evS1 xs s).1, .int .i64 (if 1 ≤ k then (evS2 xs s).1 else 0), .int .i64 (if 2 ≤ k then (evS3 xs s).1 else 0), .int .i64 (if 3 ≤ k then (evS4 xs s).1 else 0), .int .i64 (if 4 ≤ k then (evS5 xs s).1 else 0), .int .i64 (if 5 ≤ k then (evS6 xs s).1 else 0), .slice none 0 0]

set_option maxRecDepth 100000 in
set_option maxHeartbeats 8000000 in
theorem readEvent_any {w : World} {gr : Nat} {A : Option Addr} {n cp : Nat} {xs : List UInt8} {s : St} (h : RdAt w gr A n cp xs s) (ht : ErrT w) (hg : gr ≠ 0) (hgr : gr < w.heap.size) (hA : ∀ ad, A = some ad → 0 < n → ad.block < w.heap.size) :
    Calls Tryz.prog 110 #[.pointer (some ⟨gr, 0, none⟩)] w fun e w' => ∃ p : VL, e = .returned p.val ∧ p.e = (evR xs s).1 ∧ Own8 w' 5 p.bv p.e.d ∧ (∀ k, p.bv.ownBlock = some k → w.heap.size ≤ k) ∧ RdAt w' gr A n cp xs (evR xs s).2 ∧ Fr (fun x => x = gr) w w' := by
  obtain ⟨g2, hg2⟩ : ∃ g2, w.heap.size = g2 := ⟨_, rfl⟩
  obtain ⟨g3, hg3⟩ : ∃ g3, g2 + 1 = g3 := ⟨_, rfl⟩
  obtain ⟨W2, hW2⟩ : ∃ W2, (w.alloc (.cells z7 68)).alloc (.cells z7 68) = W2 := ⟨_, rfl⟩
  have HS : Hid (RSide w g2 g3 gr A n) := Lib.hid ⟨by omega, by omega, by omega, hgr, hg, World.block_lt_of_cell? w _ ht, hA⟩
  have F2 : Hid (Fr (fun _ => False) w W2) := Lib.hid (by rw [← hW2]; exact ((Fr.refl _ _).alloc _).alloc _)
  have HR : Hid (REv w g2 g3 gr A n cp xs z7 s W2) := Lib.hid (by
    refine ⟨h.quiet F2.out, ?_, ?_, ht.fr F2.out (fun h => h), F2.out.mono (fun _ _ h => h.elim)⟩
    · rw [← hW2, ← hg3, ← hg2]
      have := Bk.new (w.alloc (.cells z7 68)) 68 z7
      rw [show (w.alloc (.cells z7 68)).heap.size = w.heap.size + 1 by simp] at this
      exact this
    · rw [← hW2, ← hg2]
      exact (Bk.new w 68 z7).alloc _)
  unfold z7 at hW2
  have C1 : Hid (Calls Tryz.prog 69 #[.pointer (some ⟨gr, 0, none⟩), .string evW, .int .i64 1, .int .i64 23] W2 fun e w' => e = .returned (.int .i64 (evS1 xs s).1) ∧ RdAt w' gr A n cp xs (evS1 xs s).2 ∧ Fr (fun x => x = gr) W2 w') := Lib.hid (rBetween_any HR.out.rd HR.out.et evW hg 1 23)
  have HG := Lib.hid hg
  have hsz : w.heap.size + 1 = g3 := by omega
  clear h ht hgr hA hg
  unfold evW at C1
  go_enter Tryz.func110, Tryz.ntmps110
  go_wp2_with fail
  clear hW2
  refine C1.out.mono ?_; rintro e w1 ⟨rfl, hr1, hf1⟩
  have HR1 := Lib.hid (HR.out.call HS.out hr1 hf1)
  have c0 : w1.cell? ⟨g3, 0, none⟩ = some (.int .i64 0) := HR1.out.b3.cell 0
  have fz : w1.frozen? ⟨g3, 0, none⟩ = false := HR1.out.b3.frozen 0
  clear hr1 hf1 C1 HR
  go_wp2_with fail
  go_loopw [15] (fun i wr => ∃ (k : Nat), i = .int .i64 (k : Int) ∧ k ≤ 5 ∧ Hid (REv w g2 g3 gr A n cp xs (evC xs s k) (evSt xs s k) wr)) (fun i _ => 5 - (intOf i).toNat)
  case atStart => exact ⟨0, rfl, by omega, HR1.out.store HS.out 0 (.int .i64 (evS1 xs s).1)⟩
  case round =>
    obtain ⟨k, rfl, hk, HK⟩ := hrel
    clear HR1 c0 fz
    have hk6 : k = 0 ∨ k = 1 ∨ k = 2 ∨ k = 3 ∨ k = 4 ∨ k = 5 := by omega
    rcases hk6 with rfl | rfl | rfl | rfl | rfl | rfl
    · have HR : Hid (REv w g2 g3 gr A n cp xs (evC xs s 0) (evS1 xs s).2 wr) := Lib.hid HK.out
      have hx : ∀ w, (Instr.index 232 (.agg #[.pointer (some ⟨g3, 1, none⟩), .pointer (some ⟨g3, 2, none⟩), .pointer (some ⟨g3, 3, none⟩), .pointer (some ⟨g3, 4, none⟩), .pointer (some ⟨g3, 5, none⟩)]) (.int .i64 0)).run Tryz.prog w = .ok (.pointer (some ⟨g3, 1, none⟩)) w := fun _ => by kernel_rfl
      have C1 : Hid (Calls Tryz.prog 69 #[.pointer (some ⟨gr, 0, none⟩), .string evW, .int .i64 0, .int .i64 1099511627776] wr fun e w' => e = .returned (.int .i64 (evS2 xs s).1) ∧ RdAt w' gr A n cp xs (evS2 xs s).2 ∧ Fr (fun x => x = gr) wr w') := Lib.hid (rBetween_any HR.out.rd HR.out.et evW HG.out 0 1099511627776)
      unfold evW at C1
      clear HK
      go_wp2_with fail
      refine C1.out.mono ?_; rintro e w3 ⟨rfl, hr3, hf3⟩
      have HR3 := Lib.hid (HR.out.call HS.out hr3 hf3)
      have c1 : w3.cell? ⟨g3, 1, none⟩ = some (.int .i64 0) := HR3.out.b3.cell 1
      have fz : w3.frozen? ⟨g3, 1, none⟩ = false := HR3.out.b3.frozen 1
      clear hr3 hf3 C1 HR hx
      go_wp2
      go_roundw
      case rel => exact ⟨1, by first | rfl | (go_num; done), by omega, HR3.out.store HS.out 1 (.int .i64 (evS2 xs s).1)⟩
      case measure => (simp [intOf]) <;> omega
    · have HR : Hid (REv w g2 g3 gr A n cp xs (evC xs s 1) (evS2 xs s).2 wr) := Lib.hid HK.out
      have hx : ∀ w, (Instr.index 232 (.agg #[.pointer (some ⟨g3, 1, none⟩), .pointer (some ⟨g3, 2, none⟩), .pointer (some ⟨g3, 3, none⟩), .pointer (some ⟨g3, 4, none⟩), .pointer (some ⟨g3, 5, none⟩)]) (.int .i64 1)).run Tryz.prog w = .ok (.pointer (some ⟨g3, 2, none⟩)) w := fun _ => by kernel_rfl
      have C1 : Hid (Calls Tryz.prog 69 #[.pointer (some ⟨gr, 0, none⟩), .string evW, .int .i64 0, .int .i64 1099511627776] wr fun e w' => e = .returned (.int .i64 (evS3 xs s).1) ∧ RdAt w' gr A n cp xs (evS3 xs s).2 ∧ Fr (fun x => x = gr) wr w') := Lib.hid (rBetween_any HR.out.rd HR.out.et evW HG.out 0 1099511627776)
      unfold evW at C1
      clear HK
      go_wp2_with fail
      refine C1.out.mono ?_; rintro e w3 ⟨rfl, hr3, hf3⟩
      have HR3 := Lib.hid (HR.out.call HS.out hr3 hf3)
      have c1 : w3.cell? ⟨g3, 2, none⟩ = some (.int .i64 0) := HR3.out.b3.cell 2
      have fz : w3.frozen? ⟨g3, 2, none⟩ = false := HR3.out.b3.frozen 2
      clear hr3 hf3 C1 HR hx
      go_wp2
      go_roundw
      case rel => exact ⟨2, by first | rfl | (go_num; done), by omega, HR3.out.store HS.out 2 (.int .i64 (evS3 xs s).1)⟩
      case measure => (simp [intOf]) <;> omega
    · have HR : Hid (REv w g2 g3 gr A n cp xs (evC xs s 2) (evS3 xs s).2 wr) := Lib.hid HK.out
      have hx : ∀ w, (Instr.index 232 (.agg #[.pointer (some ⟨g3, 1, none⟩), .pointer (some ⟨g3, 2, none⟩), .pointer (some ⟨g3, 3, none⟩), .pointer (some ⟨g3, 4, none⟩), .pointer (some ⟨g3, 5, none⟩)]) (.int .i64 2)).run Tryz.prog w = .ok (.pointer (some ⟨g3, 3, none⟩)) w := fun _ => by kernel_rfl
      have C1 : Hid (Calls Tryz.prog 69 #[.pointer (some ⟨gr, 0, none⟩), .string evW, .int .i64 0, .int .i64 1099511627776] wr fun e w' => e = .returned (.int .i64 (evS4 xs s).1) ∧ RdAt w' gr A n cp xs (evS4 xs s).2 ∧ Fr (fun x => x = gr) wr w') := Lib.hid (rBetween_any HR.out.rd HR.out.et evW HG.out 0 1099511627776)
      unfold evW at C1
      clear HK
      go_wp2_with fail
      refine C1.out.mono ?_; rintro e w3 ⟨rfl, hr3, hf3⟩
      have HR3 := Lib.hid (HR.out.call HS.out hr3 hf3)
      have c1 : w3.cell? ⟨g3, 3, none⟩ = some (.int .i64 0) := HR3.out.b3.cell 3
      have fz : w3.frozen? ⟨g3, 3, none⟩ = false := HR3.out.b3.frozen 3
      clear hr3 hf3 C1 HR hx
      go_wp2
      go_roundw
      case rel => exact ⟨3, by first | rfl | (go_num; done), by omega, HR3.out.store HS.out 3 (.int .i64 (evS4 xs s).1)⟩
      case measure => (simp [intOf]) <;> omega
    · have HR : Hid (REv w g2 g3 gr A n cp xs (evC xs s 3) (evS4 xs s).2 wr) := Lib.hid HK.out
      have hx : ∀ w, (Instr.index 232 (.agg #[.pointer (some ⟨g3, 1, none⟩), .pointer (some ⟨g3, 2, none⟩), .pointer (some ⟨g3, 3, none⟩), .pointer (some ⟨g3, 4, none⟩), .pointer (some ⟨g3, 5, none⟩)]) (.int .i64 3)).run Tryz.prog w = .ok (.pointer (some ⟨g3, 4, none⟩)) w := fun _ => by kernel_rfl
      have C1 : Hid (Calls Tryz.prog 69 #[.pointer (some ⟨gr, 0, none⟩), .string evW, .int .i64 0, .int .i64 1099511627776] wr fun e w' => e = .returned (.int .i64 (evS5 xs s).1) ∧ RdAt w' gr A n cp xs (evS5 xs s).2 ∧ Fr (fun x => x = gr) wr w') := Lib.hid (rBetween_any HR.out.rd HR.out.et evW HG.out 0 1099511627776)
      unfold evW at C1
      clear HK
      go_wp2_with fail
      refine C1.out.mono ?_; rintro e w3 ⟨rfl, hr3, hf3⟩
      have HR3 := Lib.hid (HR.out.call HS.out hr3 hf3)
      have c1 : w3.cell? ⟨g3, 4, none⟩ = some (.int .i64 0) := HR3.out.b3.cell 4
      have fz : w3.frozen? ⟨g3, 4, none⟩ = false := HR3.out.b3.frozen 4
      clear hr3 hf3 C1 HR hx
      go_wp2
      go_roundw
      case rel => exact ⟨4, by first | rfl | (go_num; done), by omega, HR3.out.store HS.out 4 (.int .i64 (evS5 xs s).1)⟩
      case measure => (simp [intOf]) <;> omega
    · have HR : Hid (REv w g2 g3 gr A n cp xs (evC xs s 4) (evS5 xs s).2 wr) := Lib.hid HK.out
      have hx : ∀ w, (Instr.index 232 (.agg #[.pointer (some ⟨g3, 1, none⟩), .pointer (some ⟨g3, 2, none⟩), .pointer (some ⟨g3, 3, none⟩), .pointer (some ⟨g3, 4, none⟩), .pointer (some ⟨g3, 5, none⟩)]) (.int .i64 4)).run Tryz.prog w = .ok (.pointer (some ⟨g3, 5, none⟩)) w := fun _ => by kernel_rfl
      have C1 : Hid (Calls Tryz.prog 69 #[.pointer (some ⟨gr, 0, none⟩), .string evW, .int .i64 0, .int .i64 1099511627776] wr fun e w' => e = .returned (.int .i64 (evS6 xs s).1) ∧ RdAt w' gr A n cp xs (evS6 xs s).2 ∧ Fr (fun x => x = gr) wr w') := Lib.hid (rBetween_any HR.out.rd HR.out.et evW HG.out 0 1099511627776)
      unfold evW at C1
      clear HK
      go_wp2_with fail
      refine C1.out.mono ?_; rintro e w3 ⟨rfl, hr3, hf3⟩
      have HR3 := Lib.hid (HR.out.call HS.out hr3 hf3)
      have c1 : w3.cell? ⟨g3, 5, none⟩ = some (.int .i64 0) := HR3.out.b3.cell 5
      have fz : w3.frozen? ⟨g3, 5, none⟩ = false := HR3.out.b3.frozen 5
      clear hr3 hf3 C1 HR hx
      go_wp2
      go_roundw
      case rel => exact ⟨5, by first | rfl | (go_num; done), by omega, HR3.out.store HS.out 5 (.int .i64 (evS6 xs s).1)⟩
      case measure => (simp [intOf]) <;> omega
    · have HR : Hid (REv w g2 g3 gr A n cp xs #[.int .i64 (evS1 xs s).1, .int .i64 (evS2 xs s).1, .int .i64 (evS3 xs s).1, .int .i64 (evS4 xs s).1, .int .i64 (evS5 xs s).1, .int .i64 (evS6 xs s).1, .slice none 0 0] (evS6 xs s).2 wr) := Lib.hid HK.out
      have C1 : Hid (Calls Tryz.prog 70 #[.pointer (some ⟨gr, 0, none⟩), .string datW, .int .i64 4096] wr fun e w' => ∃ v, e = .returned v ∧ SliceNew wr w' v (evS7 xs s).1 ∧ RdAt w' gr A n cp xs (evS7 xs s).2 ∧ Fr (fun x => x = gr) wr w') := Lib.hid (rBytes_any HR.out.rd HR.out.et datW HG.out 4096)
      unfold datW at C1
      have HE : Hid (evR xs s = (⟨(evS1 xs s).1, (evS2 xs s).1, (evS3 xs s).1, (evS4 xs s).1, (evS5 xs s).1, (evS6 xs s).1, (evS7 xs s).1⟩, (evS7 xs s).2)) := Lib.hid rfl
      clear HK
      go_wp2_with fail
      refine C1.out.mono ?_; rintro e w3 ⟨v, rfl, hv, hr3, hf3⟩
      obtain ⟨A9, c9, rfl, ho, hn⟩ := hv
      have HR3 := Lib.hid (HR.out.call HS.out hr3 hf3)
      have HO := Lib.hid ho
      have HN : Hid (∀ k, (Value.slice A9 (evS7 xs s).1.length c9).ownBlock = some k → wr.heap.size ≤ k) := Lib.hid hn
      have HZ : Hid (g2 < wr.heap.size ∧ g3 < wr.heap.size) := Lib.hid ⟨HR.out.b2.lt, HR.out.b3.lt⟩
      have HZ0 : Hid (w.heap.size ≤ wr.heap.size) := Lib.hid HR.out.fr.size
      clear hr3 hf3 C1 HR ho hn
      obtain ⟨d, hd⟩ : ∃ d, (evS7 xs s).1 = d := ⟨_, rfl⟩
      rw [hd] at HO HN HE ⊢
      obtain ⟨dl, hdl⟩ : ∃ dl, d.length = dl := ⟨_, rfl⟩
      have HDL := Lib.hid hdl
      rw [hdl] at HO HN ⊢
      clear hd hdl
      generalize (evS7 xs s).2 = st at *
      generalize (evS1 xs s).1 = x0 at *
      generalize (evS2 xs s).1 = x1 at *
      generalize (evS3 xs s).1 = x2 at *
      generalize (evS4 xs s).1 = x3 at *
      generalize (evS5 xs s).1 = x4 at *
      generalize (evS6 xs s).1 = x5 at *
      obtain ⟨W4, hW4⟩ : ∃ W4, w3.setCell ⟨g3, 6, none⟩ (.slice A9 dl c9) = W4 := ⟨_, rfl⟩
      have HR4 : Hid (REv w g2 g3 gr A n cp xs #[.int .i64 x0, .int .i64 x1, .int .i64 x2, .int .i64 x3, .int .i64 x4, .int .i64 x5, .slice A9 dl c9] st W4) := Lib.hid (by rw [← hW4]; exact HR3.out.store HS.out 6 (.slice A9 dl c9))
      have F34 : Hid (Fr (fun k => k = g3) w3 W4) := Lib.hid (by rw [← hW4]; exact Fr.setCell (S := fun k => k = g3) (p := ⟨g3, 6, none⟩) (Fr.refl _ _) (fun _ => rfl) _)
      have c6 : w3.cell? ⟨g3, 6, none⟩ = some (.slice none 0 0) := HR3.out.b3.cell 6
      have fz : w3.frozen? ⟨g3, 6, none⟩ = false := HR3.out.b3.frozen 6
      have a0 : W4.cell? ⟨g3, 0, none⟩ = some (.int .i64 x0) := HR4.out.b3.cell 0
      have b0 : W4.cell? ⟨g2, 0, none⟩ = some (.int .i64 0) := HR4.out.b2.cell 0
      have fb0 : W4.frozen? ⟨g2, 0, none⟩ = false := HR4.out.b2.frozen 0
      have a1 : W4.cell? ⟨g3, 1, none⟩ = some (.int .i64 x1) := HR4.out.b3.cell 1
      have b1 : W4.cell? ⟨g2, 1, none⟩ = some (.int .i64 0) := HR4.out.b2.cell 1
      have fb1 : W4.frozen? ⟨g2, 1, none⟩ = false := HR4.out.b2.frozen 1
      have a2 : W4.cell? ⟨g3, 2, none⟩ = some (.int .i64 x2) := HR4.out.b3.cell 2
      have b2 : W4.cell? ⟨g2, 2, none⟩ = some (.int .i64 0) := HR4.out.b2.cell 2
      have fb2 : W4.frozen? ⟨g2, 2, none⟩ = false := HR4.out.b2.frozen 2
      have a3 : W4.cell? ⟨g3, 3, none⟩ = some (.int .i64 x3) := HR4.out.b3.cell 3
      have b3 : W4.cell? ⟨g2, 3, none⟩ = some (.int .i64 0) := HR4.out.b2.cell 3
      have fb3 : W4.frozen? ⟨g2, 3, none⟩ = false := HR4.out.b2.frozen 3
      have a4 : W4.cell? ⟨g3, 4, none⟩ = some (.int .i64 x4) := HR4.out.b3.cell 4
      have b4 : W4.cell? ⟨g2, 4, none⟩ = some (.int .i64 0) := HR4.out.b2.cell 4
      have fb4 : W4.frozen? ⟨g2, 4, none⟩ = false := HR4.out.b2.frozen 4
      have a5 : W4.cell? ⟨g3, 5, none⟩ = some (.int .i64 x5) := HR4.out.b3.cell 5
      have b5 : W4.cell? ⟨g2, 5, none⟩ = some (.int .i64 0) := HR4.out.b2.cell 5
      have fb5 : W4.frozen? ⟨g2, 5, none⟩ = false := HR4.out.b2.frozen 5
      have a6 : W4.cell? ⟨g3, 6, none⟩ = some (.slice A9 dl c9) := HR4.out.b3.cell 6
      have b6 : W4.cell? ⟨g2, 6, none⟩ = some (.slice none 0 0) := HR4.out.b2.cell 6
      have fb6 : W4.frozen? ⟨g2, 6, none⟩ = false := HR4.out.b2.frozen 6
      have G : Hid (Bk (set7 W4 g2 (.int .i64 x0) (.int .i64 x1) (.int .i64 x2) (.int .i64 x3) (.int .i64 x4) (.int .i64 x5) (.slice A9 dl c9)) g2 68 #[.int .i64 x0, .int .i64 x1, .int .i64 x2, .int .i64 x3, .int .i64 x4, .int .i64 x5, .slice A9 dl c9] ∧ Fr (fun k => k = g2) W4 (set7 W4 g2 (.int .i64 x0) (.int .i64 x1) (.int .i64 x2) (.int .i64 x3) (.int .i64 x4) (.int .i64 x5) (.slice A9 dl c9))) := Lib.hid ⟨HR4.out.b2.set7 _ _ _ _ _ _ _, Fr.set7 (S := fun k => k = g2) (Fr.refl _ _) (fun _ => rfl) _ _ _ _ _ _ _⟩
      go_wp2
      change bodyPost _ _ _ _ _ (set7 W4 g2 (.int .i64 x0) (.int .i64 x1) (.int .i64 x2) (.int .i64 x3) (.int .i64 x4) (.int .i64 x5) (.slice A9 dl c9))
      generalize set7 W4 g2 (.int .i64 x0) (.int .i64 x1) (.int .i64 x2) (.int .i64 x3) (.int .i64 x4) (.int .i64 x5) (.slice A9 dl c9) = W5 at *
      refine bodyPost_ret (resEv (p := 2) rfl _ _ g2 _ _ _ _ _ _ _ rfl G.out.1) rfl ?_
      have hzz := HZ.out
      have hno : ∀ k, (Value.slice A9 dl c9).ownBlock = some k → k ≠ g2 ∧ k ≠ g3 := fun k hk => by have := HN.out k hk; omega
      refine ⟨⟨⟨x0, x1, x2, x3, x4, x5, d⟩, A9, c9⟩, ?_, by rw [HE.out], ?_, ?_, ?_, ?_⟩
      · unfold VL.val VL.cells VL.bv; simp only; rw [HDL.out]
      · unfold VL.bv; simp only; rw [HDL.out]
        exact (HO.out.fr F34.out (fun k hk => (hno k hk).2)).fr G.out.2 (fun k hk => (hno k hk).1)
      · unfold VL.bv; simp only; rw [HDL.out]
        intro k hk; have := HN.out k hk; have := HZ0.out; omega
      · rw [HE.out]
        exact rdAt_fr HR4.out.rd G.out.2 (fun e => by have := HS.out.h2; have := HS.out.r; omega) (fun ad e h0 e2 => by have := HS.out.a ad e h0; have := HS.out.h2; omega)
      · exact HR4.out.fr.trans G.out.2 (fun x hx e => by have := HS.out.h2; omega)
end Go.Proofs.YtieoeoonopcjbaaGreatDoor
