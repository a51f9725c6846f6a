/- flow: the book of a history of turns (FlowTurns). -/
import Derived.Test.YtkinbcmnfpkncaaDoorXu
namespace Go.Proofs.YtkinbcmnfpkncaaDoor
open Go.RowKit Go.Maps

/-- The book behind t turns: a task is scheduled. -/
structure BkS (t : Nat) (b : Bo) : Prop where
  cnt : b.count = 2 + 3 * t
  cl : b.closed = false
  op : b.opn (2 + 3 * (t : Int)) = ⟨2, 0, 2⟩
  us : b.used = [(2, 0)]
  now : b.now ≤ t
/-- It is begun. -/
structure BkB (t : Nat) (b : Bo) : Prop where
  cnt : b.count = 3 + 3 * t
  cl : b.closed = false
  op : b.opn (3 + 3 * (t : Int)) = ⟨2, 0, 3⟩
  us : b.used = [(2, 0)]
  now : b.now ≤ t
/-- It was ended. -/
structure BkE (t : Nat) (b : Bo) : Prop where
  cnt : b.count = 4 + 3 * t
  cl : b.closed = false
  us : b.used = []
  now : b.now ≤ t
theorem BkS.begun {t : Nat} {b : Bo} (h : BkS t b) (ht : t ≤ 100) : b.misfit ⟨3, t, 2 + 3 * (t : Int), 0, 0, 0, []⟩ = 0 ∧ BkB t (b.add ⟨3, t, 2 + 3 * (t : Int), 0, 0, 0, []⟩) := by
  have h1 := h.now
  have h2 : ¬ ((t : Int) < b.now) := by omega
  refine ⟨?_, ⟨?_, ?_, ?_, ?_, ?_⟩⟩
  · have hr : Ev.right ⟨3, t, 2 + 3 * (t : Int), 0, 0, 0, []⟩ = true := by simp [Ev.right, inE]; omega
    unfold Bo.misfit
    rw [hr, if_neg (by simp), if_neg h2, if_neg (by rw [h.cnt]; simp), if_neg (by rw [h.cl]; simp)]
    simp [Bo.lacks, askK, h.op]
  · simp [Bo.add, h.cnt]; omega
  · simp [Bo.add, closesK]
  · simp [Bo.add, h.cnt, opensK, h.op]; intro hh; exfalso; apply hh; omega
  · simp [Bo.add, opensK, h.us]
  · simp [Bo.add]
theorem BkB.ended {t : Nat} {b : Bo} (h : BkB t b) (ht : t ≤ 100) (k n : Int) (hk : k = 4 ∨ k = 5 ∨ k = 6) (hn : 0 ≤ n ∧ n ≤ 10) : b.misfit ⟨k, t, 3 + 3 * (t : Int), 0, 0, n, []⟩ = 0 ∧ BkE t (b.add ⟨k, t, 3 + 3 * (t : Int), 0, 0, n, []⟩) := by
  have h1 := h.now
  have h2 : ¬ ((t : Int) < b.now) := by omega
  refine ⟨?_, ⟨?_, ?_, ?_, ?_⟩⟩
  · have hr : Ev.right ⟨k, t, 3 + 3 * (t : Int), 0, 0, n, []⟩ = true := by simp [Ev.right, inE]; omega
    unfold Bo.misfit
    rw [hr, if_neg (by simp), if_neg h2, if_neg (by rw [h.cnt]; rcases hk with rfl | rfl | rfl <;> simp), if_neg (by rw [h.cl]; simp)]
    rcases hk with rfl | rfl | rfl <;> simp [Bo.lacks, askK, h.op]
  · simp [Bo.add, h.cnt]; omega
  · rcases hk with rfl | rfl | rfl <;> simp [Bo.add, closesK]
  · rcases hk with rfl | rfl | rfl <;> simp [Bo.add, opensK, h.us, h.op]
  · simp [Bo.add]
theorem BkE.next {t : Nat} {b : Bo} (h : BkE t b) (ht : t ≤ 100) : b.misfit ⟨2, t, 0, 0, 0, (t : Int) + 1, []⟩ = 0 ∧ BkS (t + 1) (b.add ⟨2, t, 0, 0, 0, (t : Int) + 1, []⟩) := by
  have h1 := h.now
  have h2 : ¬ ((t : Int) < b.now) := by omega
  refine ⟨?_, ⟨?_, ?_, ?_, ?_, ?_⟩⟩
  · have hr : Ev.right ⟨2, t, 0, 0, 0, (t : Int) + 1, []⟩ = true := by simp [Ev.right, inE]; omega
    unfold Bo.misfit
    rw [hr, if_neg (by simp), if_neg h2, if_neg (by rw [h.cnt]; simp), if_neg (by rw [h.cl]; simp)]
    simp [Bo.lacks, askK, opensK, thingOf, h.us]
  · simp [Bo.add, h.cnt]; omega
  · simp [Bo.add, closesK]
  · simp [Bo.add, h.cnt, opensK, thingOf]; intro hh; exfalso; apply hh; omega
  · simp [Bo.add, opensK, h.us, thingOf]
  · simp [Bo.add]; omega
theorem BkE.closes {t : Nat} {b : Bo} (h : BkE t b) (ht : t ≤ 100) : b.misfit ⟨20, t, 0, 0, 0, 0, []⟩ = 0 := by
  have h1 := h.now
  have h2 : ¬ ((t : Int) < b.now) := by omega
  have hr : Ev.right ⟨20, t, 0, 0, 0, 0, []⟩ = true := by simp [Ev.right, inE]; omega
  unfold Bo.misfit
  rw [hr, if_neg (by simp), if_neg h2, if_neg (by rw [h.cnt]; simp), if_neg (by rw [h.cl]; simp)]
  simp [Bo.lacks, askK, opensK]
theorem bkS0 : Bo.new.check [⟨1, 0, 0, 0, 0, 7, []⟩, ⟨2, 0, 0, 0, 0, 0, []⟩] = none ∧ BkS 0 (bookOf [⟨1, 0, 0, 0, 0, 7, []⟩, ⟨2, 0, 0, 0, 0, 0, []⟩]) := by
  refine ⟨by decide, ⟨rfl, by decide, by simp [bookOf, Bo.add, Bo.new, opensK, thingOf], by decide, by decide⟩⟩
/-- A history that stands, and one more that fits. -/
theorem stands_snoc {l : List Ev} {e : Ev} (h : Bo.new.check l = none) (hm : (bookOf l).misfit e = 0) : Bo.new.check (l ++ [e]) = none ∧ bookOf (l ++ [e]) = (bookOf l).add e := by
  constructor
  · rw [check_append, h]
    show Bo.check (bookOf l) [e] = none
    simp [Bo.check, hm]
  · simp [bookOf]
end Go.Proofs.YtkinbcmnfpkncaaDoor
