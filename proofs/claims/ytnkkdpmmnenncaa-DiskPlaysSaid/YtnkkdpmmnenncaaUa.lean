/- The document's disk as plain data: kept bytes, pending writes, the power. -/
import Derived.Laws.CopyOwn
namespace Go.Proofs.Ytnkkdpmmnenncaa

/-- A pending write: its sector, its bytes. -/
abbrev Pend := Nat × List UInt8
/-- A disk. -/
structure DS where
  N : Nat
  sz : Nat
  off : Bool
  left : Nat
  keep : List Bool
  kept : List UInt8
  q : List Pend
  writes : Nat

def pAt (q : List Pend) (i : Nat) : Pend := q.getD i (0, [])
theorem pAt_eq {q : List Pend} {i : Nat} (h : i < q.length) : pAt q i = q[i] := by unfold pAt; simp [List.getD, h]
theorem pAt_mem {q : List Pend} {i : Nat} (h : i < q.length) : pAt q i ∈ q := by rw [pAt_eq h]; exact List.getElem_mem h
theorem pAt_app {q r : List Pend} {i : Nat} (h : i < q.length) : pAt (q ++ r) i = pAt q i := by
  rw [pAt_eq h, pAt_eq (by simp; omega), List.getElem_append_left h]
theorem pAt_last (q : List Pend) (p : Pend) : pAt (q ++ [p]) q.length = p := by rw [pAt_eq (by simp)]; simp

/-- The last write of a sector among the first k. -/
def lastN (q : List Pend) (x : Int) : Nat → Option Nat
  | 0 => none
  | k + 1 => if ((pAt q k).1 : Int) = x then some k else lastN q x k
def lastIx (q : List Pend) (x : Int) : Option Nat := lastN q x q.length
theorem lastN_app {q r : List Pend} {x : Int} : ∀ k, k ≤ q.length → lastN (q ++ r) x k = lastN q x k
  | 0, _ => rfl
  | k + 1, h => by unfold lastN; rw [pAt_app (by omega), lastN_app k (by omega)]
theorem lastIx_nil (x : Int) : lastIx [] x = none := rfl
theorem lastIx_snoc (q : List Pend) (p : Pend) (x : Int) : lastIx (q ++ [p]) x = if (p.1 : Int) = x then some q.length else lastIx q x := by
  unfold lastIx
  rw [show (q ++ [p]).length = q.length + 1 by simp]
  conv => lhs; unfold lastN
  rw [pAt_last, lastN_app _ (Nat.le_refl _)]
theorem lastN_some {q : List Pend} {x : Int} {i : Nat} : ∀ k, lastN q x k = some i → i < k ∧ ((pAt q i).1 : Int) = x
  | 0, h => by cases h
  | k + 1, h => by
    unfold lastN at h
    split at h
    · rename_i hx; injection h with h; subst h; exact ⟨by omega, hx⟩
    · have := lastN_some k h; exact ⟨by omega, this.2⟩
theorem lastIx_some {q : List Pend} {x : Int} {i : Nat} (h : lastIx q x = some i) : i < q.length ∧ ((pAt q i).1 : Int) = x := lastN_some _ h

/-- The bytes of all pending writes, end to end. -/
def flat (q : List Pend) : List UInt8 := q.flatMap (·.2)
theorem flat_snoc (q : List Pend) (p : Pend) : flat (q ++ [p]) = flat q ++ p.2 := by simp [flat]
theorem flat_len {sz : Nat} : ∀ {q : List Pend}, (∀ p ∈ q, p.2.length = sz) → (flat q).length = q.length * sz
  | [], _ => by simp [flat]
  | p :: q, h => by
    have h1 := h p (List.mem_cons_self ..)
    have h2 := flat_len (q := q) (fun p hp => h p (List.mem_cons_of_mem _ hp))
    unfold flat at *
    simp only [List.flatMap_cons, List.length_append, List.length_cons, h1, h2, Nat.add_mul, Nat.one_mul]
    omega
theorem flat_at {sz : Nat} : ∀ {q : List Pend}, (∀ p ∈ q, p.2.length = sz) → ∀ i, i < q.length → ∀ j, j < sz → (flat q)[i * sz + j]? = (pAt q i).2[j]?
  | [], _, i, hi, _, _ => by simp at hi
  | p :: q, h, 0, _, j, hj => by
    have h1 := h p (List.mem_cons_self ..)
    rw [pAt_eq (by simp)]
    unfold flat
    simp only [List.flatMap_cons, Nat.zero_mul, Nat.zero_add, List.getElem_cons_zero]
    rw [List.getElem?_append_left (by omega)]
  | p :: q, h, i + 1, hi, j, hj => by
    have h1 := h p (List.mem_cons_self ..)
    have h2 := flat_at (q := q) (fun p hp => h p (List.mem_cons_of_mem _ hp)) i (by simpa using hi) j hj
    rw [pAt_eq hi, List.getElem_cons_succ, ← pAt_eq (by simpa using hi), ← h2]
    unfold flat
    simp only [List.flatMap_cons]
    rw [List.getElem?_append_right (by rw [h1, Nat.add_mul]; omega), h1]
    congr 1
    rw [Nat.add_mul]; omega

/-- One write is kept. -/
def put1 (sz : Nat) (k : List UInt8) (p : Pend) : List UInt8 := splice k (p.1 * sz) p.2
/-- Of the first so many those that f says are kept. -/
def keepN (sz : Nat) (q : List Pend) (f : Nat → Bool) (kept : List UInt8) : Nat → List UInt8
  | 0 => kept
  | i + 1 => if f i then put1 sz (keepN sz q f kept i) (pAt q i) else keepN sz q f kept i
theorem keepN_yes {sz : Nat} {q : List Pend} {f : Nat → Bool} {kept : List UInt8} {i : Nat} (h : f i = true) : keepN sz q f kept (i + 1) = put1 sz (keepN sz q f kept i) (pAt q i) := if_pos h
theorem keepN_no {sz : Nat} {q : List Pend} {f : Nat → Bool} {kept : List UInt8} {i : Nat} (h : f i = false) : keepN sz q f kept (i + 1) = keepN sz q f kept i := if_neg (by simp [h])
theorem put1_len {sz : Nat} {k : List UInt8} {p : Pend} (h : p.2.length = sz) (hb : (p.1 + 1) * sz ≤ k.length) : (put1 sz k p).length = k.length := by
  unfold put1
  rw [length_splice]
  rw [h]; rw [Nat.add_mul] at hb; omega

/-- What holds of each. -/
structure DS.ok (s : DS) : Prop where
  n0 : 1 ≤ s.N
  n1 : s.N ≤ 16384
  s0 : 64 ≤ s.sz
  s1 : s.sz ≤ 1024
  klen : s.kept.length = s.N * s.sz
  sec : ∀ p ∈ s.q, p.1 < s.N
  len : ∀ p ∈ s.q, p.2.length = s.sz
  lf : (s.left : Int) ≤ 9223372036854775807
theorem DS.ok.prod {s : DS} (h : s.ok) : s.N * s.sz ≤ 16777216 := by
  have := Nat.mul_le_mul h.n1 h.s1
  omega
theorem DS.ok.fits {s : DS} (h : s.ok) {x : Nat} (hx : x < s.N) : (x + 1) * s.sz ≤ s.N * s.sz := Nat.mul_le_mul_right _ hx
theorem DS.ok.flen {s : DS} (h : s.ok) : (flat s.q).length = s.q.length * s.sz := flat_len h.len
theorem keepN_len {s : DS} (h : s.ok) (f : Nat → Bool) : ∀ i, i ≤ s.q.length → (keepN s.sz s.q f s.kept i).length = s.N * s.sz
  | 0, _ => h.klen
  | i + 1, hi => by
    have ih := keepN_len h f i (by omega)
    cases hf : f i with
    | false => rw [keepN_no hf]; exact ih
    | true =>
      rw [keepN_yes hf, put1_len (h.len _ (pAt_mem (by omega))), ih]
      rw [ih]
      exact h.fits (h.sec _ (pAt_mem (by omega)))

/-- The bytes that a sector reads as. -/
def DS.read (s : DS) (x : Nat) : List UInt8 := match lastIx s.q x with
  | some i => (pAt s.q i).2
  | none => (s.kept.drop (x * s.sz)).take s.sz
theorem DS.read_len {s : DS} (h : s.ok) {x : Nat} (hx : x < s.N) : (s.read x).length = s.sz := by
  unfold DS.read
  split
  · rename_i i hi
    exact h.len _ (pAt_mem (lastIx_some hi).1)
  · rw [List.length_take, List.length_drop, h.klen]
    have := h.fits hx
    rw [Nat.add_mul] at this
    omega

def DS.sync (s : DS) : DS := { s with kept := keepN s.sz s.q (fun _ => true) s.kept s.q.length, q := [] }
def kOf (keep : List Bool) (i : Nat) : Bool := keep.getD i false
def DS.cut (s : DS) (keep : List Bool) : DS := { s with off := true, left := 0, keep := [], kept := keepN s.sz s.q (kOf keep) s.kept s.q.length, q := [] }
def DS.arm (s : DS) (n : Int) (keep : List Bool) : DS := { s with left := (max n 1).toNat, keep := keep }
def DS.on (s : DS) : DS := { s with off := false }
def DS.add (s : DS) (x : Nat) (b : List UInt8) : DS := { s with left := s.left - 1, q := s.q ++ [(x, b)], writes := s.writes + 1 }
/-- What is wrong for reads as for writes. -/
def DS.err (s : DS) (x : Int) : Int := if s.off then 5 else if x < 0 ∨ (s.N : Int) ≤ x then 1 else 0
def DS.wErr (s : DS) (x : Int) (b : List UInt8) : Int := if s.err x ≠ 0 then s.err x else if b.length ≠ s.sz then 1 else if s.left = 1 then 5 else 0
def DS.write (s : DS) (x : Int) (b : List UInt8) : DS := if s.err x ≠ 0 ∨ b.length ≠ s.sz then s else if s.left = 1 then s.cut s.keep else s.add x.toNat b

theorem DS.ok.sync {s : DS} (h : s.ok) : s.sync.ok := ⟨h.n0, h.n1, h.s0, h.s1, keepN_len h _ _ (Nat.le_refl _), fun _ hp => by simp [DS.sync] at hp, fun _ hp => by simp [DS.sync] at hp, h.lf⟩
theorem DS.ok.cut {s : DS} (h : s.ok) (keep : List Bool) : (s.cut keep).ok := ⟨h.n0, h.n1, h.s0, h.s1, keepN_len h _ _ (Nat.le_refl _), fun _ hp => by simp [DS.cut] at hp, fun _ hp => by simp [DS.cut] at hp, by simp [DS.cut]⟩
theorem DS.ok.arm {s : DS} (h : s.ok) (n : Int) (hn : n ≤ 9223372036854775807) (keep : List Bool) : (s.arm n keep).ok := ⟨h.n0, h.n1, h.s0, h.s1, h.klen, h.sec, h.len, by unfold DS.arm; simp only; omega⟩
theorem DS.ok.on {s : DS} (h : s.ok) : s.on.ok := ⟨h.n0, h.n1, h.s0, h.s1, h.klen, h.sec, h.len, h.lf⟩
theorem DS.ok.add {s : DS} (h : s.ok) {x : Nat} (hx : x < s.N) {b : List UInt8} (hb : b.length = s.sz) : (s.add x b).ok :=
  ⟨h.n0, h.n1, h.s0, h.s1, h.klen, fun p hp => by
    rcases List.mem_append.1 hp with hp | hp
    · exact h.sec p hp
    · simp at hp; subst hp; exact hx, fun p hp => by
    rcases List.mem_append.1 hp with hp | hp
    · exact h.len p hp
    · simp at hp; subst hp; exact hb, by have := h.lf; unfold DS.add; simp only; omega⟩
theorem DS.err_in {s : DS} {x : Int} (h : s.err x = 0) : s.off = false ∧ 0 ≤ x ∧ x < s.N := by
  unfold DS.err at h
  split at h
  · omega
  · split at h
    · omega
    · rename_i h1 h2
      exact ⟨by simpa using h1, by omega, by omega⟩
theorem DS.ok.write {s : DS} (h : s.ok) (x : Int) (b : List UInt8) : (s.write x b).ok := by
  unfold DS.write
  split
  · exact h
  · rename_i h1
    split
    · exact h.cut _
    · have h2 : s.err x = 0 := Classical.byContradiction fun h => h1 (.inl h)
      have h3 : b.length = s.sz := Classical.byContradiction fun h => h1 (.inr h)
      have := DS.err_in h2
      exact h.add (by omega) h3
/-- A new one. -/
def DS.new (N sz : Nat) : DS := { N := N, sz := sz, off := false, left := 0, keep := [], kept := List.replicate (N * sz) 0, q := [], writes := 0 }
theorem DS.ok.new {N sz : Nat} (h0 : 1 ≤ N) (h1 : N ≤ 16384) (h2 : 64 ≤ sz) (h3 : sz ≤ 1024) : (DS.new N sz).ok :=
  ⟨h0, h1, h2, h3, by simp [DS.new], fun _ hp => by simp [DS.new] at hp, fun _ hp => by simp [DS.new] at hp, by simp [DS.new]⟩
/-- Past the end of keep nothing is kept. -/
theorem keepN_past {sz : Nat} {q : List Pend} {keep : List Bool} {kept : List UInt8} : ∀ i, keep.length ≤ i → keepN sz q (kOf keep) kept i = keepN sz q (kOf keep) kept keep.length
  | 0, h => by rw [show keep.length = 0 by omega]
  | i + 1, h => by
    rcases Nat.eq_or_lt_of_le h with e | e
    · rw [e]
    · rw [keepN_no (by unfold kOf; simp [List.getD, show keep.length ≤ i by omega]), keepN_past i (by omega)]
theorem keepN_min (sz : Nat) (q : List Pend) (keep : List Bool) (kept : List UInt8) : keepN sz q (kOf keep) kept (min q.length keep.length) = keepN sz q (kOf keep) kept q.length := by
  rcases Nat.le_total q.length keep.length with h | h
  · rw [Nat.min_eq_left h]
  · rw [Nat.min_eq_right h, keepN_past _ h]
end Go.Proofs.Ytnkkdpmmnenncaa
