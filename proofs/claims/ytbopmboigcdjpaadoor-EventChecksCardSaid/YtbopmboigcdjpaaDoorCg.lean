/- The codec's reader: failed, next, number. -/
import Derived.Test.YtbopmboigcdjpaaDoorCf
namespace Go.Proofs.YtbopmboigcdjpaaDoor
open Go.RowKit

section
variable {w w' : World} {g : Nat} {A : Option Addr} {n c : Nat} {xs : List UInt8} {at_ er fat : Int} {what : ByteArray}
end

theorem fr_set {w : World} {g i : Nat} {v : Value} : Fr (fun k => k = g) w (w.setCell ⟨g, i, none⟩ v) := Fr.setCell (S := fun k => k = g) (p := ⟨g, i, none⟩) (Fr.refl _ _) (fun _ => rfl) _

/-- A panic with an Errno. -/
abbrev pan (k : Int) : Ending := .panicked [{ v := .iface 43 (.int .i64 k), recovered := false }]

/-- What reading a number comes to. -/
inductive NR where
  | bad (k : Int)
  | ok (u n : Nat)

/-- From byte i of a number on, acc being what stood before. -/
def num : Nat → Nat → Nat → List UInt8 → NR
  | 0, _, _, _ => .bad 8
  | _ + 1, _, _, [] => .bad 7
  | f + 1, i, acc, c :: l =>
    if 128 ≤ c.toNat then num f (i + 1) (acc + (c.toNat % 128) * 128 ^ i) l
    else if (0 < i ∧ c.toNat = 0) ∨ (i = 9 ∧ 1 < c.toNat) then .bad 8
    else .ok (acc + c.toNat * 128 ^ i) (i + 1)
/-- A number at the front of l. -/
def rdNum (l : List UInt8) : NR := num 10 0 0 l

/-- unfold: a number's integer. -/
def unfN (u : Nat) : Int := if u % 2 = 0 then (u / 2 : Nat) else - ((u / 2 : Nat) : Int) - 1
theorem unfN_foldN (a : Int) : unfN (foldN a) = a := by unfold unfN foldN; split <;> split <;> omega
theorem unfN_range (u : Nat) (h : u < 18446744073709551616) : -9223372036854775808 ≤ unfN u ∧ unfN u ≤ 9223372036854775807 := by unfold unfN; split <;> omega

theorem unf_val (u : Nat) (h : (u : Int) ≤ 18446744073709551615) : bits BinOp.xor IntKind.i64 ((u : Int) / 2) (wrap64 (-wrap64 (bits BinOp.and IntKind.u64 (u : Int) 1))) = unfN u := by
  have e1 : bits BinOp.and IntKind.u64 (u : Int) 1 = ((u % 2 : Nat) : Int) := by
    rw [show (1 : Int) = ((1 : Nat) : Int) from rfl, u64_and_nat _ _ (by omega) (by omega), nat_mask1]
  rw [e1]
  unfold unfN
  rcases Nat.mod_two_eq_zero_or_one u with h2 | h2
  · rw [if_pos h2, h2, show (u : Int) / 2 = ((u / 2 : Nat) : Int) by omega, show wrap64 (-wrap64 ((0 : Nat) : Int)) = 0 by unfold wrap64; rfl]
    show IntKind.i64.wrap ((BitVec.ofInt 64 ((u / 2 : Nat) : Int) ^^^ 0#64).toNat : Int) = _
    rw [BitVec.xor_zero, BitVec.toNat_ofInt, IntKind.wrap_i64]
    omega
  · rw [if_neg (by omega), h2, show (u : Int) / 2 = ((u / 2 : Nat) : Int) by omega, show wrap64 (-wrap64 ((1 : Nat) : Int)) = -1 by unfold wrap64; rfl]
    show IntKind.i64.wrap ((BitVec.ofInt 64 ((u / 2 : Nat) : Int) ^^^ BitVec.allOnes 64).toNat : Int) = _
    rw [BitVec.xor_allOnes, BitVec.toNat_not, BitVec.toNat_ofInt, IntKind.wrap_i64]
    omega

theorem shl_val (acc x j : Nat) (hx : x < 2 ^ 8) (hj : j ≤ 9) (ha : acc < 128 ^ j) (hs : j ≤ 8 ∨ x % 128 ≤ 1) :
    bits BinOp.or IntKind.u64 (acc : Int) (IntKind.u64.wrap (IntKind.u64.wrap (bits BinOp.and IntKind.u8 (x : Int) 127) * 2 ^ (7 * j))) = ((acc + x % 128 * 128 ^ j : Nat) : Int) := by
  have e128 : 128 ^ j = 2 ^ (7 * j) := by rw [Nat.pow_mul]
  have hlim : x % 128 * 2 ^ (7 * j) < 18446744073709551616 := by
    rw [← e128]
    rcases Nat.lt_or_ge j 9 with h | h
    · have h1 : 128 ^ j ≤ 128 ^ 8 := Nat.pow_le_pow_right (by omega) (by omega)
      have h2 : x % 128 * 128 ^ j ≤ 127 * 128 ^ 8 := Nat.mul_le_mul (by omega) h1
      omega
    · have : j = 9 := by omega
      subst this
      have h2 : x % 128 * 128 ^ 9 ≤ 1 * 128 ^ 9 := Nat.mul_le_mul_right _ (by omega)
      omega
  have hacc : acc < 18446744073709551616 := by
    have h1 : 128 ^ j ≤ 128 ^ 9 := Nat.pow_le_pow_right (by omega) hj
    omega
  have e1 : bits BinOp.and IntKind.u8 (x : Int) 127 = ((x % 128 : Nat) : Int) := by
    rw [show (127 : Int) = ((127 : Nat) : Int) from rfl, u8_and_nat _ _ (by omega) (by omega), nat_mask7]
  rw [e1, show IntKind.u64.wrap ((x % 128 : Nat) : Int) = ((x % 128 : Nat) : Int) from IntWalk.u64_in _ (by omega)]
  have e2 : ((x % 128 : Nat) : Int) * 2 ^ (7 * j) = ((x % 128 * 2 ^ (7 * j) : Nat) : Int) := by rw [Int.natCast_mul, Int.natCast_pow]; rfl
  rw [e2, show IntKind.u64.wrap ((x % 128 * 2 ^ (7 * j) : Nat) : Int) = ((x % 128 * 2 ^ (7 * j) : Nat) : Int) from IntWalk.u64_in _ (by omega), u64_or_nat _ _ hacc hlim, e128, Nat.or_comm, nat_join (7 * j) _ _ (Nat.mul_mod_left _ _) (by rw [← e128]; exact ha), Nat.add_comm]

theorem acc_lim (acc x j : Nat) (hj : j ≤ 9) (ha : acc < 128 ^ j) (hs : j ≤ 8 ∨ x % 128 ≤ 1) : acc + x % 128 * 128 ^ j < 18446744073709551616 := by
  rcases Nat.lt_or_ge j 9 with h | h
  · have h1 : 128 ^ j ≤ 128 ^ 8 := Nat.pow_le_pow_right (by omega) (by omega)
    have h2 : x % 128 * 128 ^ j ≤ 127 * 128 ^ 8 := Nat.mul_le_mul (by omega) h1
    omega
  · have : j = 9 := by omega
    subst this
    have h2 : x % 128 * 128 ^ 9 ≤ 1 * 128 ^ 9 := Nat.mul_le_mul_right _ (by omega)
    omega
theorem acc_next (acc x j : Nat) (ha : acc < 128 ^ j) : acc + x % 128 * 128 ^ j < 128 ^ (j + 1) := by
  have h : x % 128 * 128 ^ j ≤ 127 * 128 ^ j := Nat.mul_le_mul_right _ (by omega)
  rw [Nat.pow_succ]; omega
end Go.Proofs.YtbopmboigcdjpaaDoor
