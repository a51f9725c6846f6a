/- A sum finds every burst of 32 bits: plain numbers. -/
import Derived.Test.YtacafjbbdklleaaDoorCe
namespace Go.Proofs.YtacafjbbdklleaaDoor

/-- Bytes as one number, the lowest first. -/
def V : List UInt8 → Nat
  | [] => 0
  | b :: l => b.toNat + 256 * V l

/-- crc1, n times. -/
def crcN : Nat → Nat → Nat
  | 0, r => r
  | n + 1, r => crcN n (crc1 r)

theorem xor_div (a b k : Nat) : (a ^^^ b) / 2 ^ k = a / 2 ^ k ^^^ b / 2 ^ k := by
  simp only [← Nat.shiftRight_eq_div_pow]
  exact Nat.shiftRight_xor_distrib
theorem xor_mod (a b k : Nat) : (a ^^^ b) % 2 ^ k = a % 2 ^ k ^^^ b % 2 ^ k := Nat.xor_mod_two_pow
theorem xor_add (a b : Nat) (k : Nat) (ha : a < 2 ^ k) : a + 2 ^ k * b = a ^^^ 2 ^ k * b := by
  have h := nat_join k (2 ^ k * b) a (Nat.mul_mod_right _ _) ha
  rw [Nat.add_comm, ← h]
  apply Nat.eq_of_testBit_eq
  intro i
  rw [Nat.testBit_or, Nat.testBit_xor, Nat.testBit_two_pow_mul]
  by_cases hi : k ≤ i
  · have : a.testBit i = false := Nat.testBit_lt_two_pow (Nat.lt_of_lt_of_le ha (Nat.pow_le_pow_right (by omega) hi))
    simp [this]
  · simp [hi]

theorem crc1_lin (a b : Nat) : crc1 (a ^^^ b) = crc1 a ^^^ crc1 b := by
  have h1 : (a ^^^ b) / 2 = a / 2 ^^^ b / 2 := xor_div a b 1
  have h2 : (a ^^^ b) % 2 = (a % 2) ^^^ (b % 2) := xor_mod a b 1
  unfold crc1
  rw [h1, h2]
  rcases Nat.mod_two_eq_zero_or_one a with ha | ha <;> rcases Nat.mod_two_eq_zero_or_one b with hb | hb <;> simp [ha, hb]
  · ac_rfl
  · ac_rfl
  · rw [show a / 2 ^^^ 2197175160 ^^^ (b / 2 ^^^ 2197175160) = (a / 2 ^^^ b / 2) ^^^ (2197175160 ^^^ 2197175160) by ac_rfl, Nat.xor_self, Nat.xor_zero]
theorem crcN_lin : ∀ (n a b : Nat), crcN n (a ^^^ b) = crcN n a ^^^ crcN n b
  | 0, _, _ => rfl
  | n + 1, a, b => by unfold crcN; rw [crc1_lin, crcN_lin n]
theorem xor_same {a b : Nat} (h : a ^^^ b = 0) : a = b := by
  have := congrArg (fun z => z ^^^ b) h
  simpa [Nat.xor_assoc] using this
theorem crc1_zero (r : Nat) (h : r < 4294967296) (h0 : crc1 r = 0) : r = 0 := by
  unfold crc1 at h0
  split at h0
  · have := xor_same h0
    omega
  · omega
theorem crcN_zero : ∀ (n r : Nat), r < 4294967296 → crcN n r = 0 → r = 0
  | 0, _, _, h => h
  | n + 1, r, hr, h => crc1_zero r hr (crcN_zero n _ (crc1_lt r hr) h)
theorem crcN_add : ∀ (m n r : Nat), crcN (m + n) r = crcN n (crcN m r)
  | 0, n, r => by rw [Nat.zero_add]; rfl
  | m + 1, n, r => by
    rw [show m + 1 + n = (m + n) + 1 by omega]
    show crcN (m + n) (crc1 r) = crcN n (crcN m (crc1 r))
    exact crcN_add m n _
theorem crcN_shift : ∀ (s W : Nat), crcN s (W * 2 ^ s) = W
  | 0, W => by simp [crcN]
  | s + 1, W => by
    unfold crcN
    have : crc1 (W * 2 ^ (s + 1)) = W * 2 ^ s := by
      rw [Nat.pow_succ, ← Nat.mul_assoc]; unfold crc1; rw [if_neg (by omega)]; omega
    rw [this, crcN_shift s W]

theorem crc8_eq (r : Nat) : crc8 r = crcN 8 r := rfl
theorem crc8_high (a v : Nat) : crcN 8 (a ^^^ 256 * v) = crcN 8 a ^^^ v := by
  rw [crcN_lin, show 256 * v = v * 2 ^ 8 by omega, crcN_shift 8 v]

theorem V_lt : ∀ (l : List UInt8), V l < 2 ^ (8 * l.length)
  | [] => by simp [V]
  | b :: l => by
    have h1 := V_lt l
    have h2 := b.toNat_lt
    unfold V
    rw [List.length_cons, show 8 * (l.length + 1) = 8 * l.length + 8 by omega, Nat.pow_add]
    omega
theorem V_xor (b : UInt8) (l : List UInt8) : V (b :: l) = b.toNat ^^^ 256 * V l := xor_add b.toNat (V l) 8 b.toNat_lt

theorem crcL_V : ∀ (l : List UInt8) (r : Nat), crcL r l = crcN (8 * l.length) (r ^^^ V l)
  | [], r => by simp [crcL, V, crcN]
  | b :: l, r => by
    have h : crcL r (b :: l) = crcL (crcB r b) l := rfl
    rw [h, crcL_V l, List.length_cons, show 8 * (l.length + 1) = 8 + 8 * l.length by omega, crcN_add, V_xor, ← Nat.xor_assoc, crc8_high]
    rfl

theorem V_cons (b : UInt8) (l : List UInt8) : V (b :: l) = b.toNat + 256 * V l := rfl
theorem V_app : ∀ (a b : List UInt8), V (a ++ b) = V a + 2 ^ (8 * a.length) * V b
  | [], b => by simp [V]
  | x :: a, b => by
    rw [List.cons_append, V_cons, V_cons, V_app a b, List.length_cons, show 8 * (a.length + 1) = 8 * a.length + 8 by omega, Nat.pow_add, Nat.mul_add, ← Nat.mul_assoc, show 256 * 2 ^ (8 * a.length) = 2 ^ (8 * a.length) * 2 ^ 8 by rw [Nat.mul_comm]]
    omega
theorem V_inj : ∀ (a b : List UInt8), a.length = b.length → V a = V b → a = b
  | [], [], _, _ => rfl
  | [], _ :: _, h, _ => by simp at h
  | _ :: _, [], h, _ => by simp at h
  | x :: a, y :: b, h, hv => by
    unfold V at hv
    have h1 := x.toNat_lt
    have h2 := y.toNat_lt
    have e1 : x.toNat = y.toNat := by omega
    have e2 : V a = V b := by omega
    rw [UInt8.toNat_inj.1 e1, V_inj a b (by simpa using h) e2]

theorem le32_V (a b c d : UInt8) : le32 [a, b, c, d] = V [a, b, c, d] := by
  show le4 a.toNat b.toNat c.toNat d.toNat = a.toNat + 256 * (b.toNat + 256 * (c.toNat + 256 * (d.toNat + 256 * 0)))
  unfold le4
  omega
theorem four_le : ∀ (l : List UInt8), l.length = 4 → le32 l = V l
  | [a, b, c, d], _ => le32_V a b c d
  | [], h => by simp at h
  | [_], h => by simp at h
  | [_, _], h => by simp at h
  | [_, _, _], h => by simp at h
  | _ :: _ :: _ :: _ :: _ :: _, h => by simp at h

/-- What a whole code word leaves in the register, whatever it is. -/
theorem word_left (D C : List UInt8) (hC : C.length = 4) (h : crcOf D = le32 C) : crcL 4294967295 (D ++ C) = crcN 32 4294967295 := by
  have hlt := crcL_lt D 4294967295 (by decide)
  have h1 : crcL 4294967295 (D ++ C) = crcL (crcL 4294967295 D) C := by unfold crcL; rw [List.foldl_append]
  rw [h1, crcL_V, hC, ← four_le C hC, ← h]
  unfold crcOf
  generalize crcL 4294967295 D = r at *
  congr 1
  have hx : ∀ x : BitVec 32, x ^^^ ~~~x = BitVec.allOnes 32 := fun x => by
    apply BitVec.eq_of_toNat_eq
    rw [← BitVec.xor_allOnes, ← BitVec.xor_assoc, BitVec.xor_self, BitVec.zero_xor]
  have := congrArg BitVec.toNat (hx (BitVec.ofNat 32 r))
  rw [BitVec.toNat_xor, BitVec.toNat_not, BitVec.toNat_ofNat, BitVec.toNat_allOnes, Nat.mod_eq_of_lt (by omega)] at this
  exact this

/-- Two whole code words of one length do not differ by a burst of 32 bits. -/
theorem no_burst (x f : List UInt8) (W s : Nat) (hl : x.length = f.length) (hW : W < 4294967296) (hv : V x ^^^ V f = W * 2 ^ s)
    (he : crcL 4294967295 x = crcL 4294967295 f) : x = f := by
  apply V_inj x f hl
  rw [crcL_V, crcL_V, hl, crcN_lin, crcN_lin (8 * f.length) _ (V f)] at he
  have h0 : crcN (8 * f.length) (W * 2 ^ s) = 0 := by
    rw [← hv, crcN_lin]
    have : crcN (8 * f.length) (V x) = crcN (8 * f.length) (V f) := by
      have := congrArg (fun z => crcN (8 * f.length) 4294967295 ^^^ z) he
      simp only [← Nat.xor_assoc, Nat.xor_self, Nat.zero_xor] at this
      exact this
    rw [this, Nat.xor_self]
  have hW0 : W * 2 ^ s = 0 := by
    rcases Nat.lt_or_ge (8 * f.length) s with hs | hs
    · have hlt : W * 2 ^ s < 2 ^ (8 * f.length) := by
        rw [← hv]
        exact Nat.xor_lt_two_pow (by rw [← hl]; exact V_lt x) (V_lt f)
      rcases Nat.eq_zero_or_pos W with h | h
      · simp [h]
      · have h2 : 2 ^ (8 * f.length) ≤ 2 ^ s := Nat.pow_le_pow_right (by omega) (by omega)
        have h3 : 1 * 2 ^ s ≤ W * 2 ^ s := Nat.mul_le_mul_right _ h
        omega
    · rw [show 8 * f.length = s + (8 * f.length - s) by omega, crcN_add, crcN_shift] at h0
      rw [crcN_zero _ _ hW h0, Nat.zero_mul]
  rw [hW0] at hv
  exact xor_same hv
end Go.Proofs.YtacafjbbdklleaaDoor
