/- Numbers as bytes, read: plain laws. -/
import Derived.Test.YtblfnbmgijppmaaDoorCo
namespace Go.Proofs.YtblfnbmgijppmaaDoor

theorem toNat_ofNat' (n : Nat) (h : n < 256) : (UInt8.ofNat n).toNat = n := by rw [UInt8.toNat_ofNat']; exact Nat.mod_eq_of_lt h
theorem pow_lim {u i : Nat} (h : u * 128 ^ i < 18446744073709551616) (hu : 0 < i → 0 < u) : i ≤ 9 := by
  rcases Nat.lt_or_ge 9 i with h9 | h9
  · have h1 : 128 ^ 10 ≤ 128 ^ i := Nat.pow_le_pow_right (by omega) h9
    have h2 : 1 * 128 ^ i ≤ u * 128 ^ i := Nat.mul_le_mul_right _ (hu (by omega))
    omega
  · exact h9
theorem num_enc (u : Nat) : ∀ (f i acc : Nat) (r : List UInt8), f + i = 10 → u * 128 ^ i < 18446744073709551616 → (0 < i → 0 < u) →
    num f i acc (enc u ++ r) = .ok (acc + u * 128 ^ i) (i + (enc u).length) := by
  induction u using Nat.strongRecOn with
  | _ u ih =>
    intro f i acc r hf hu hp
    have hi := pow_lim hu hp
    obtain ⟨f, rfl⟩ : ∃ f', f = f' + 1 := ⟨f - 1, by omega⟩
    by_cases hlt : u < 128
    · rw [enc_lt u hlt]
      simp only [List.cons_append, List.nil_append, num, toNat_ofNat' u (by omega), List.length_cons, List.length_nil]
      rw [if_neg (by omega), if_neg]
      rintro (⟨h1, h2⟩ | ⟨rfl, h2⟩)
      · have := hp h1; omega
      · have : 2 * 128 ^ 9 ≤ u * 128 ^ 9 := Nat.mul_le_mul_right _ h2
        omega
    · have hge : 128 ≤ u := by omega
      rw [enc_ge u hge]
      simp only [List.cons_append, num, toNat_ofNat' (u % 128 + 128) (by omega), List.length_cons]
      rw [if_pos (by omega), show (u % 128 + 128) % 128 = u % 128 by omega]
      have hmul : u / 128 * 128 ^ (i + 1) + u % 128 * 128 ^ i = u * 128 ^ i := by
        rw [Nat.pow_succ, Nat.mul_comm (128 ^ i) 128, ← Nat.mul_assoc, ← Nat.add_mul]
        congr 1
        omega
      rw [ih (u / 128) (by omega) f (i + 1) _ r (by omega) (by omega) (fun _ => by omega)]
      congr 1 <;> omega
theorem num_front (u : Nat) : ∀ (f i acc j : Nat), f + i = 10 → u * 128 ^ i < 18446744073709551616 → (0 < i → 0 < u) → j < (enc u).length →
    num f i acc ((enc u).take j) = .bad 7 := by
  induction u using Nat.strongRecOn with
  | _ u ih =>
    intro f i acc j hf hu hp hj
    have hi := pow_lim hu hp
    obtain ⟨f, rfl⟩ : ∃ f', f = f' + 1 := ⟨f - 1, by omega⟩
    cases j with
    | zero => simp [num]
    | succ j =>
      by_cases hlt : u < 128
      · rw [enc_lt u hlt] at hj
        simp at hj
      · have hge : 128 ≤ u := by omega
        rw [enc_ge u hge] at hj ⊢
        simp only [List.length_cons] at hj
        simp only [List.take_succ_cons, num, toNat_ofNat' (u % 128 + 128) (by omega)]
        rw [if_pos (by omega)]
        have hmul : u / 128 * 128 ^ (i + 1) + u % 128 * 128 ^ i = u * 128 ^ i := by
          rw [Nat.pow_succ, Nat.mul_comm (128 ^ i) 128, ← Nat.mul_assoc, ← Nat.add_mul]
          congr 1
          omega
        exact ih (u / 128) (by omega) f (i + 1) _ j (by omega) (by omega) (fun _ => by omega) (by omega)

theorem rdNum_enc (u : Nat) (r : List UInt8) (h : u < 18446744073709551616) : rdNum (enc u ++ r) = .ok u (enc u).length := by
  unfold rdNum
  rw [num_enc u 10 0 0 r rfl (by simpa using h) (fun h => by omega)]
  simp
theorem rdNum_front (u j : Nat) (h : u < 18446744073709551616) (hj : j < (enc u).length) : rdNum ((enc u).take j) = .bad 7 := by
  unfold rdNum
  exact num_front u 10 0 0 j rfl (by simpa using h) (fun h => by omega) hj

theorem drop_at (p q : List UInt8) : (p ++ q).drop p.length = q := by simp
end Go.Proofs.YtblfnbmgijppmaaDoor
