/- A frame of which a burst was turned is none. -/
import Derived.Test.YtbcnmofmjabcoaaDoorBu
namespace Go.Proofs.YtbcnmofmjabcoaaDoor

theorem burst_mod (W s k : Nat) (hW : W < 4294967296) : ∃ W' s', W' < 4294967296 ∧ (W * 2 ^ s) % 2 ^ k = W' * 2 ^ s' := by
  rcases Nat.lt_or_ge s k with h | h
  · refine ⟨W % 2 ^ (k - s), s, Nat.lt_of_le_of_lt (Nat.mod_le _ _) hW, ?_⟩
    have e : 2 ^ k = 2 ^ (k - s) * 2 ^ s := by rw [← Nat.pow_add]; congr 1; omega
    rw [e, Nat.mul_mod_mul_right]
  · refine ⟨0, 0, by omega, ?_⟩
    have e : W * 2 ^ s = W * 2 ^ (s - k) * 2 ^ k := by rw [Nat.mul_assoc, ← Nat.pow_add]; congr 2; omega
    rw [e, Nat.mul_mod_left]
theorem burst_div (W s k : Nat) (hW : W < 4294967296) : ∃ W' s', W' < 4294967296 ∧ (W * 2 ^ s) / 2 ^ k = W' * 2 ^ s' := by
  rcases Nat.lt_or_ge s k with h | h
  · refine ⟨W / 2 ^ (k - s), 0, Nat.lt_of_le_of_lt (Nat.div_le_self _ _) hW, ?_⟩
    have e : 2 ^ k = 2 ^ (k - s) * 2 ^ s := by rw [← Nat.pow_add]; congr 1; omega
    rw [e, Nat.mul_div_mul_right _ _ (Nat.two_pow_pos s), Nat.pow_zero, Nat.mul_one]
  · refine ⟨W, s - k, hW, ?_⟩
    have e : W * 2 ^ s = W * 2 ^ (s - k) * 2 ^ k := by rw [Nat.mul_assoc, ← Nat.pow_add]; congr 2; omega
    rw [e, Nat.mul_div_cancel _ (Nat.two_pow_pos k)]

theorem le32_front (l : List UInt8) : le32 l = le32 (l.take 4) := by
  unfold le32
  match l with
  | [] => rfl
  | [_] => rfl
  | [_, _] => rfl
  | [_, _, _] => rfl
  | _ :: _ :: _ :: _ :: _ => rfl

theorem V_split (l : List UInt8) (k : Nat) (hk : k ≤ l.length) : V (l.take k) = V l % 2 ^ (8 * k) ∧ V (l.drop k) = V l / 2 ^ (8 * k) := by
  have h := V_app (l.take k) (l.drop k)
  have hl : (l.take k).length = k := by simp; omega
  have hlt := V_lt (l.take k)
  rw [List.take_append_drop, hl] at h
  rw [hl] at hlt
  rw [h]
  refine ⟨?_, ?_⟩
  · rw [Nat.add_mul_mod_self_left, Nat.mod_eq_of_lt hlt]
  · rw [Nat.add_mul_div_left _ _ (Nat.two_pow_pos _), Nat.div_eq_of_lt hlt, Nat.zero_add]

theorem four_len (v : Nat) : (four v).length = 4 := rfl
theorem le32_four (v : Nat) (h : v < 4294967296) : le32 (four v) = v := by
  unfold le32 four le4
  simp
  omega

theorem burst_bad (x bs : List UInt8) (W s : Nat) (hb : bs.length ≤ 1048576) (hl : x.length = bs.length + 12) (hW : W < 4294967296) (hv : V x ^^^ V (frameOf bs) = W * 2 ^ s) (hne : x ≠ frameOf bs) :
    ∃ er at_ wh, rdFrame x = .bad er at_ wh := by
  have hfl : (frameOf bs).length = bs.length + 12 := by simp [frameOf, four]
  have hL : bs.length % 4294967296 = bs.length := Nat.mod_eq_of_lt (by omega)
  -- the head of the frame, the body
  have hfh : (frameOf bs).take 8 = four bs.length ++ four (crcOf (four bs.length)) := by
    unfold frameOf
    rw [hL, List.append_assoc, List.append_assoc, ← List.append_assoc (four bs.length)]
    exact List.take_left' rfl
  have hfb : (frameOf bs).drop 8 = bs ++ four (crcOf bs) := by
    unfold frameOf
    rw [hL, List.append_assoc, List.append_assoc, ← List.append_assoc (four bs.length)]
    exact List.drop_left' rfl
  have hc1 : crcOf (four bs.length) < 4294967296 := by unfold crcOf; omega
  have hc2 : crcOf bs < 4294967296 := by unfold crcOf; omega
  cases hr : rdFrame x with
  | bad er at_ wh => exact ⟨er, at_, wh, rfl⟩
  | good body k =>
    refine absurd ?_ hne
    unfold rdFrame at hr
    rw [if_neg (by omega)] at hr
    split at hr
    · cases hr
    rename_i h1
    have h1 : crcOf (x.take 4) = le32 (x.drop 4) := by simpa using h1
    have e8 : x.take 8 = x.take 4 ++ (x.drop 4).take 4 := by
      rw [show 8 = 4 + 4 from rfl, List.take_add]
    -- the heads
    obtain ⟨W1, s1, hW1, hm⟩ := burst_mod W s 64 hW
    have hx8 := V_split x 8 (by omega)
    have hf8 := V_split (frameOf bs) 8 (by omega)
    have hH : x.take 8 = (frameOf bs).take 8 := by
      refine no_burst _ _ W1 s1 (by simp; omega) hW1 ?_ ?_
      · rw [hx8.1, hf8.1, ← xor_mod, hv]; exact hm
      · rw [e8, hfh, word_left _ _ (by simp; omega) (by rw [h1, le32_front]), word_left _ _ (four_len _) (by rw [le32_four _ hc1])]
    have hle : le32 x = bs.length := by
      have : le32 x = le32 ((x.take 8).take 4) := by rw [le32_front, List.take_take]; rfl
      rw [this, hH, hfh, List.take_left' (four_len _), le32_four _ (by omega)]
    rw [hle, if_neg (by omega), if_neg (by omega)] at hr
    split at hr
    · cases hr
    rename_i h2
    have h2 : crcOf ((x.drop 8).take bs.length) = le32 (x.drop (8 + bs.length)) := by simpa using h2
    have eb : x.drop 8 = (x.drop 8).take bs.length ++ x.drop (8 + bs.length) := by
      conv => lhs; rw [← List.take_append_drop bs.length (x.drop 8)]
      rw [List.drop_drop]
    obtain ⟨W2, s2, hW2, hd⟩ := burst_div W s 64 hW
    have hB : x.drop 8 = (frameOf bs).drop 8 := by
      refine no_burst _ _ W2 s2 (by simp; omega) hW2 ?_ ?_
      · rw [hx8.2, hf8.2, ← xor_div, hv]; exact hd
      · rw [eb, hfb, word_left _ _ (by simp; omega) h2, word_left _ _ (four_len _) (by rw [le32_four _ hc2])]
    rw [← List.take_append_drop 8 x, ← List.take_append_drop 8 (frameOf bs), hH, hB]

/-- One bit of a row of bytes is turned. -/
theorem V_flip : ∀ (l : List UInt8) (p : Nat) (hp : p / 8 < l.length), V (l.set (p / 8) (UInt8.ofNat ((l[p / 8]).toNat ^^^ 2 ^ (p % 8)))) = V l ^^^ 2 ^ p
  | [], p, hp => by simp at hp
  | b :: l, p, hp => by
    by_cases h8 : p < 8
    · have h0 : p / 8 = 0 := by omega
      have hm : p % 8 = p := by omega
      simp only [h0, hm, List.set_cons_zero, List.getElem_cons_zero]
      have hlt : b.toNat ^^^ 2 ^ p < 2 ^ 8 := Nat.xor_lt_two_pow b.toNat_lt (Nat.pow_lt_pow_right (by omega) h8)
      rw [V_xor, V_xor, UInt8.toNat_ofNat', Nat.mod_eq_of_lt hlt, Nat.xor_assoc, Nat.xor_assoc, Nat.xor_comm (2 ^ p)]
    · have hq : p / 8 = (p - 8) / 8 + 1 := by omega
      have hm : p % 8 = (p - 8) % 8 := by omega
      have hp' : (p - 8) / 8 < l.length := by rw [List.length_cons] at hp; omega
      have ih := V_flip l (p - 8) hp'
      simp only [hq, hm, List.set_cons_succ, List.getElem_cons_succ]
      rw [V_xor, V_xor, ih]
      have e : 256 * (V l ^^^ 2 ^ (p - 8)) = 256 * V l ^^^ 2 ^ p := by
        have h1 : 2 ^ p = 2 ^ 8 * 2 ^ (p - 8) := by rw [← Nat.pow_add]; congr 1; omega
        rw [h1, show (256 : Nat) = 2 ^ 8 from rfl]
        apply Nat.eq_of_testBit_eq
        intro i
        simp only [Nat.testBit_xor, Nat.testBit_two_pow_mul]
        by_cases hi : 8 ≤ i <;> simp [hi]
      rw [e, Nat.xor_assoc]
end Go.Proofs.YtbcnmofmjabcoaaDoor
