/- Sectors of kept bytes, and what becomes of each. -/
import Derived.Test.YtnkkdpmmnenncaaUa
namespace Go.Proofs.Ytnkkdpmmnenncaa

theorem splice_at {α : Type} (L : List α) (off : Nat) (cs : List α) (h : off + cs.length ≤ L.length) (p : Nat) : (splice L off cs)[p]? = if off ≤ p ∧ p < off + cs.length then cs[p - off]? else L[p]? := by
  unfold splice
  rcases Nat.lt_or_ge p off with h1 | h1
  · rw [if_neg (by omega), List.getElem?_append_left (by rw [List.length_take]; omega), List.getElem?_take, if_pos h1]
  · rw [List.getElem?_append_right (by rw [List.length_take]; omega), List.length_take, Nat.min_eq_left (by omega)]
    rcases Nat.lt_or_ge p (off + cs.length) with h2 | h2
    · rw [if_pos ⟨h1, h2⟩, List.getElem?_append_left (by omega)]
    · rw [if_neg (by omega), List.getElem?_append_right (by omega), List.getElem?_drop]
      congr 1; omega

/-- The i-th sector of kept bytes. -/
def pieceOf (sz : Nat) (K : List UInt8) (i : Nat) : List UInt8 := (K.drop (i * sz)).take sz
theorem piece_at {sz : Nat} {K : List UInt8} {i j : Nat} (hj : j < sz) : (pieceOf sz K i)[j]? = K[i * sz + j]? := by
  unfold pieceOf
  rw [List.getElem?_take, if_pos hj, List.getElem?_drop]
theorem piece_ext {sz : Nat} {K K' : List UInt8} {i : Nat} (h : ∀ j, j < sz → K[i * sz + j]? = K'[i * sz + j]?) : pieceOf sz K i = pieceOf sz K' i := by
  apply List.ext_getElem?
  intro j
  rcases Nat.lt_or_ge j sz with hj | hj
  · rw [piece_at hj, piece_at hj, h j hj]
  · unfold pieceOf
    rw [List.getElem?_take, if_neg (by omega), List.getElem?_take, if_neg (by omega)]
/-- One write turns its own sector alone. -/
theorem piece_put {sz : Nat} {K : List UInt8} {p : Pend} (hl : p.2.length = sz) (hb : (p.1 + 1) * sz ≤ K.length) (i : Nat) : pieceOf sz (put1 sz K p) i = if i = p.1 then p.2 else pieceOf sz K i := by
  have hfit : p.1 * sz + p.2.length ≤ K.length := by rw [Nat.add_mul] at hb; omega
  split
  · rename_i e
    subst e
    apply List.ext_getElem?
    intro j
    rcases Nat.lt_or_ge j sz with hj | hj
    · rw [piece_at hj]
      unfold put1
      rw [splice_at _ _ _ hfit, if_pos (by omega)]
      congr 1; omega
    · unfold pieceOf
      rw [List.getElem?_take, if_neg (by omega), List.getElem?_eq_none (by omega)]
  · rename_i hne
    apply piece_ext
    intro j hj
    unfold put1
    rw [splice_at _ _ _ hfit, if_neg]
    rintro ⟨h1, h2⟩
    apply hne
    rcases Nat.lt_trichotomy i p.1 with h | h | h
    · have : (i + 1) * sz ≤ p.1 * sz := Nat.mul_le_mul_right _ h
      rw [Nat.add_mul] at this; omega
    · exact h
    · have : (p.1 + 1) * sz ≤ i * sz := Nat.mul_le_mul_right _ h
      rw [Nat.add_mul] at this; omega
theorem read_piece {s : DS} {x : Nat} (h : s.q = []) : s.read x = pieceOf s.sz s.kept x := by
  unfold DS.read; rw [h]; rfl
/-- Each sector behind a cut or a Sync: as it was, or a pending write that f keeps. -/
theorem keepN_piece {s : DS} (h : s.ok) (f : Nat → Bool) (i : Nat) : ∀ k, k ≤ s.q.length → pieceOf s.sz (keepN s.sz s.q f s.kept k) i = pieceOf s.sz s.kept i ∨ ∃ j, j < k ∧ f j = true ∧ (pAt s.q j).1 = i ∧ pieceOf s.sz (keepN s.sz s.q f s.kept k) i = (pAt s.q j).2
  | 0, _ => .inl rfl
  | k + 1, hk => by
    have ih := keepN_piece h f i k (by omega)
    cases hf : f k with
    | false =>
      rw [keepN_no hf]
      exact ih.imp id (fun ⟨j, h1, h2⟩ => ⟨j, by omega, h2⟩)
    | true =>
      have hm := pAt_mem (q := s.q) (i := k) (by omega)
      rw [keepN_yes hf, piece_put (h.len _ hm) (by rw [keepN_len h f k (by omega)]; exact h.fits (h.sec _ hm))]
      split
      · rename_i e
        exact .inr ⟨k, by omega, hf, e.symm, rfl⟩
      · exact ih.imp id (fun ⟨j, h1, h2⟩ => ⟨j, by omega, h2⟩)
/-- Where the writes are of unlike sectors, in order. -/
theorem keepN_own {s : DS} (h : s.ok) (f : Nat → Bool) (hq : ∀ j, j < s.q.length → (pAt s.q j).1 = j) (i : Nat) (hi : i < s.q.length) : ∀ k, k ≤ s.q.length → pieceOf s.sz (keepN s.sz s.q f s.kept k) i = if i < k ∧ f i = true then (pAt s.q i).2 else pieceOf s.sz s.kept i
  | 0, _ => by rw [if_neg (by omega)]; rfl
  | k + 1, hk => by
    have ih := keepN_own h f hq i hi k (by omega)
    cases hf : f k with
    | false =>
      rw [keepN_no hf, ih]
      by_cases e : i = k
      · subst e; rw [if_neg (by omega), if_neg (by simp [hf])]
      · congr 1
        rw [eq_iff_iff]
        constructor
        · rintro ⟨h1, h2⟩; exact ⟨by omega, h2⟩
        · rintro ⟨h1, h2⟩; exact ⟨by omega, h2⟩
    | true =>
      have hm := pAt_mem (q := s.q) (i := k) (by omega)
      rw [keepN_yes hf, piece_put (h.len _ hm) (by rw [keepN_len h f k (by omega)]; exact h.fits (h.sec _ hm)), ih, hq k (by omega)]
      by_cases e : i = k
      · subst e; rw [if_pos rfl, if_pos ⟨by omega, hf⟩]
      · rw [if_neg e]
        congr 1
        rw [eq_iff_iff]
        constructor
        · rintro ⟨h1, h2⟩; exact ⟨by omega, h2⟩
        · rintro ⟨h1, h2⟩; exact ⟨by omega, h2⟩
end Go.Proofs.Ytnkkdpmmnenncaa
