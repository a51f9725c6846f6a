/- What Of makes, as plain functions; enter. -/
import Derived.Test.YtiinkjplhihdaaaOe
import Derived.Test.YtiinkjplhihdaaaOf
namespace Go.Proofs.Ytiinkjplhihdaaa
open Go.RowKit

def putM (m : Nat → Int) (k : Nat) (r : Int) : Nat → Int := fun j => if j = k then r else m j
theorem putM_same (m : Nat → Int) (k : Nat) (r : Int) : putM m k r k = r := if_pos rfl
theorem putM_far (m : Nat → Int) {j k : Nat} (r : Int) (h : j ≠ k) : putM m k r j = m j := if_neg h
theorem mcs_set (m : Nat → Int) (r : Int) : ∀ k, k < 9 → (mcs m).setIfInBounds k (.int .u8 r) = mcs (putM m k r)
  | 0, _ => rfl | 1, _ => rfl | 2, _ => rfl | 3, _ => rfl | 4, _ => rfl | 5, _ => rfl | 6, _ => rfl | 7, _ => rfl | 8, _ => rfl
  | _ + 9, h => by omega
theorem Bk.put {w : World} {b : Nat} {t : TypeId} {m : Nat → Int} (h : Bk w b t (mcs m)) {k : Nat} (hk : k < 9) (r : Int) : Bk (w.setCell ⟨b, k, none⟩ (.int .u8 r)) b t (mcs (putM m k r)) := by
  rw [← mcs_set m r k hk]; exact h.set k _

/-- One node more gets a role; all of them. -/
def ent1 (r : Int) (m : Nat → Int) (x : Int) : Option (Nat → Int) := if 0 ≤ x ∧ x < 9 ∧ m x.toNat = 0 then some (putM m x.toNat r) else none
def entL (r : Int) (m : Nat → Int) (ts : List Int) : Option (Nat → Int) := ts.foldlM (ent1 r) m
def upT (t : Nat → Int) (k : Nat) : List Int := (List.range k).map t
theorem upT_succ (t : Nat → Int) (k : Nat) : upT t (k + 1) = upT t k ++ [t k] := by simp [upT, List.range_succ]
theorem entL_snoc (r : Int) (m : Nat → Int) (ts : List Int) (x : Int) : entL r m (ts ++ [x]) = (entL r m ts).bind (fun q => ent1 r q x) := by
  unfold entL
  rw [List.foldlM_append]
  cases h : List.foldlM (ent1 r) m ts with
  | none => rfl
  | some q =>
    show (List.foldlM (ent1 r) q [x]) = _
    simp [List.foldlM]
theorem entL_none {r : Int} {m : Nat → Int} {t : Nat → Int} {k : Nat} (h : entL r m (upT t k) = none) : ∀ n, entL r m (upT t (k + n)) = none
  | 0 => h
  | n + 1 => by rw [← Nat.add_assoc, upT_succ, entL_snoc, entL_none h n]; rfl
theorem entL_none' {r : Int} {m : Nat → Int} {t : Nat → Int} {k N : Nat} (h : entL r m (upT t k) = none) (hk : k ≤ N) : entL r m (upT t N) = none := by
  have := entL_none h (N - k)
  rwa [show k + (N - k) = N by omega] at this
/-- What entering keeps. -/
theorem ent1_at {r x : Int} {m q : Nat → Int} (h : ent1 r m x = some q) : (∀ k, q k = m k ∨ (k < 9 ∧ m k = 0 ∧ q k = r)) ∧ ∃ k, k < 9 ∧ m k = 0 ∧ q k = r := by
  unfold ent1 at h
  split at h
  · rename_i hc
    injection h with h
    subst h
    refine ⟨fun k => ?_, x.toNat, by omega, hc.2.2, putM_same _ _ _⟩
    by_cases e : k = x.toNat
    · subst e; exact .inr ⟨by omega, hc.2.2, putM_same _ _ _⟩
    · exact .inl (putM_far _ _ e)
  · cases h
theorem entL_at {r : Int} {m : Nat → Int} (t : Nat → Int) (hr : r ≠ 0) : ∀ (n : Nat) (q : Nat → Int), entL r m (upT t n) = some q → (∀ k, q k = m k ∨ (k < 9 ∧ m k = 0 ∧ q k = r)) ∧ (0 < n → ∃ k, k < 9 ∧ m k = 0 ∧ q k = r)
  | 0, q, h => by
    have e : m = q := by simpa [entL, upT] using h
    subst e
    exact ⟨fun k => .inl rfl, fun h => absurd h (Nat.lt_irrefl _)⟩
  | n + 1, q, h => by
    rw [upT_succ, entL_snoc] at h
    cases h1 : entL r m (upT t n) with
    | none => rw [h1] at h; cases h
    | some p =>
      rw [h1] at h
      obtain ⟨ha, _⟩ := entL_at t hr n p h1
      obtain ⟨hb, k, hk, hk0, hkr⟩ := ent1_at (show ent1 r p (t n) = some q from h)
      refine ⟨fun j => ?_, fun _ => ⟨k, hk, ?_, hkr⟩⟩
      · rcases hb j with e | ⟨h9, hj, e⟩
        · rcases ha j with e2 | ⟨h9, hj, e2⟩
          · exact .inl (e.trans e2)
          · exact .inr ⟨h9, hj, e.trans e2⟩
        · rcases ha j with e2 | ⟨_, _, e2⟩
          · exact .inr ⟨h9, e2 ▸ hj, e⟩
          · exact absurd (e2.symm.trans hj) hr
      · rcases ha k with e2 | ⟨_, h0, _⟩
        · exact e2 ▸ hk0
        · exact h0

def zeroM : Nat → Int := fun _ => 0
/-- What Of makes of two rows of nodes. -/
def ofM (N1 : Nat) (t1 : Nat → Int) (N2 : Nat) (t2 : Nat → Int) : Option (Nat → Int) := (entL 1 zeroM (upT t1 N1)).bind fun q => entL 2 q (upT t2 N2)
theorem cnt_pos (m : Nat → Int) (r : Int) : 0 < cnt m r ↔ ∃ k, k < 9 ∧ m k = r := by
  unfold cnt hav
  rw [List.length_pos_iff_exists_mem]
  simp
theorem ofM_is {N1 N2 : Nat} {t1 t2 : Nat → Int} {q : Nat → Int} (h : ofM N1 t1 N2 t2 = some q) : (∀ k, 0 ≤ q k ∧ q k < 256) ∧ okTo q 9 ∧ (0 < cnt q 1 ↔ 0 < N1) := by
  unfold ofM at h
  cases h1 : entL 1 zeroM (upT t1 N1) with
  | none => rw [h1] at h; cases h
  | some p =>
    rw [h1] at h
    obtain ⟨a1, b1⟩ := entL_at t1 (by omega) N1 p h1
    obtain ⟨a2, b2⟩ := entL_at t2 (by omega) N2 q (show entL 2 p (upT t2 N2) = some q from h)
    have c1 : ∀ k, p k = 0 ∨ p k = 1 := fun k => by rcases a1 k with e | ⟨_, _, e⟩; exact .inl e; exact .inr e
    have c2 : ∀ k, q k = 0 ∨ q k = 1 ∨ q k = 2 := fun k => by
      rcases a2 k with e | ⟨_, _, e⟩
      · rcases c1 k with f | f
        · exact .inl (e.trans f)
        · exact .inr (.inl (e.trans f))
      · exact .inr (.inr e)
    refine ⟨fun k => by rcases c2 k with e | e | e <;> omega, fun k _ => c2 k, ?_⟩
    rw [cnt_pos]
    constructor
    · rintro ⟨k, hk, e⟩
      rcases Nat.eq_zero_or_pos N1 with h0 | h0
      · subst h0
        have ep : zeroM = p := by simpa [entL, upT] using h1
        subst ep
        rcases a2 k with e2 | ⟨_, _, e2⟩
        · rw [e] at e2; exact absurd e2 (by unfold zeroM; omega)
        · omega
      · exact h0
    · intro h0
      obtain ⟨k, hk, _, hk1⟩ := b1 h0
      refine ⟨k, hk, ?_⟩
      rcases a2 k with e2 | ⟨_, e0, _⟩
      · exact e2.trans hk1
      · omega
end Go.Proofs.Ytiinkjplhihdaaa
