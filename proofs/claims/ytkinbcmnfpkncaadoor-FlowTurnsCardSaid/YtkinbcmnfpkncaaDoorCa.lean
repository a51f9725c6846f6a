/- The codec's writer: fold, NewWriter, Int. -/
import Derived.Test.YtkinbcmnfpkncaaDoorProg
import Derived.Test.YtkinbcmnfpkncaaDoorMem
namespace Go.Proofs.YtkinbcmnfpkncaaDoor
open Go.RowKit

/-- P101's number of an integer. -/
def foldN (a : Int) : Nat := if 0 ≤ a then (2 * a).toNat else (-2 * a - 1).toNat

theorem foldN_lt (a : Int) (h0 : -9223372036854775808 ≤ a) (h1 : a ≤ 9223372036854775807) : foldN a < 18446744073709551616 := by
  unfold foldN; split <;> omega

theorem fold_bits (a : Int) (h0 : -9223372036854775808 ≤ a) (h1 : a ≤ 9223372036854775807) :
    bits BinOp.xor IntKind.u64 (IntKind.u64.wrap (IntKind.u64.wrap a * 2)) (IntKind.u64.wrap (a / 9223372036854775808)) = (foldN a : Int) := by
  simp only [IntKind.wrap_u64]
  unfold foldN
  by_cases h : 0 ≤ a
  · rw [if_pos h, show a / 9223372036854775808 = 0 by omega, show (0 : Int) % 18446744073709551616 = ((0 : Nat) : Int) by omega,
      show a % 18446744073709551616 * 2 % 18446744073709551616 = (((2 * a).toNat : Nat) : Int) by omega, u64_xor_nat _ _ (by omega) (by omega), Nat.xor_zero]
  · rw [if_neg h, show a / 9223372036854775808 = -1 by omega, show (-1 : Int) % 18446744073709551616 = ((18446744073709551615 : Nat) : Int) by omega,
      show a % 18446744073709551616 * 2 % 18446744073709551616 = (((18446744073709551616 + 2 * a).toNat : Nat) : Int) by omega, u64_xor_nat _ _ (by omega) (by omega)]
    have hx : ∀ x : BitVec 64, x ^^^ 18446744073709551615#64 = ~~~x := fun x => by
      rw [show (18446744073709551615#64 : BitVec 64) = BitVec.allOnes 64 from rfl, BitVec.xor_allOnes]
    have := congrArg BitVec.toNat (hx (BitVec.ofNat 64 (18446744073709551616 + 2 * a).toNat))
    rw [BitVec.toNat_xor, BitVec.toNat_not] at this
    simp only [BitVec.toNat_ofNat] at this
    rw [Nat.mod_eq_of_lt (by omega), show 18446744073709551615 % 2 ^ 64 = 18446744073709551615 from rfl] at this
    omega

/-- P101's bytes of a number: seven bits a byte. -/
def enc (u : Nat) : List UInt8 := if u < 128 then [UInt8.ofNat u] else UInt8.ofNat (u % 128 + 128) :: enc (u / 128)
  termination_by u
  decreasing_by omega

theorem enc_lt (u : Nat) (h : u < 128) : enc u = [UInt8.ofNat u] := by rw [enc, if_pos h]
theorem enc_ge (u : Nat) (h : 128 ≤ u) : enc u = UInt8.ofNat (u % 128 + 128) :: enc (u / 128) := by rw [enc, if_neg (by omega)]

theorem enc_length : ∀ (n u : Nat), u < 128 ^ n → (enc u).length ≤ max n 1
  | 0, u, h => by rw [enc_lt u (by simp at h; omega)]; simp
  | n + 1, u, h => by
    by_cases hu : u < 128
    · rw [enc_lt u hu]; simp
    · rw [enc_ge u (by omega), List.length_cons]
      have := enc_length n (u / 128) (by rw [Nat.pow_succ] at h; omega)
      by_cases hn : n = 0
      · subst hn; simp at h; omega
      · omega
theorem enc_length10 (u : Nat) (h : u < 18446744073709551616) : (enc u).length ≤ 10 := by
  have := enc_length 10 u (by omega); omega
theorem enc_pos (u : Nat) : 1 ≤ (enc u).length := by
  by_cases hu : u < 128
  · rw [enc_lt u hu]; simp
  · rw [enc_ge u (by omega)]; simp

theorem B8_ofNat (n : Nat) (h : n < 256) : B8 (UInt8.ofNat n) = .int .u8 (n : Int) := by
  simp [B8, Nat.mod_eq_of_lt h]

theorem or_val (n : Nat) : bits BinOp.or IntKind.u8 ((n : Int) % 256) 128 = ((UInt8.ofNat (n % 128 + 128)).toNat : Int) := by
  rw [show (n : Int) % 256 = ((n % 256 : Nat) : Int) by omega, show (128 : Int) = ((128 : Nat) : Int) from rfl, u8_or_nat _ _ (by omega) (by omega)]
  have : ∀ x : Fin 256, x.val ||| 128 = x.val % 128 + 128 := by decide +kernel
  have := this ⟨n % 256, by omega⟩
  simp only at this
  rw [this, UInt8.toNat_ofNat_of_lt' (by show _ < 256; omega)]; omega
theorem small_val (n : Nat) (h : n < 256) : (n : Int) = ((UInt8.ofNat n).toNat : Int) := by
  rw [UInt8.toNat_ofNat_of_lt' h]

theorem Tryd.info5 : (Tryd.prog.info? 5).map (fun i => (i.zero, i.size, i.bytes)) = some (some (.int .u8 0), 1, 1) := by kernel_rfl

theorem Tryd.t8 : T8 Tryd.prog 34 5 := by
  obtain ⟨i0, hi, hz0, hz1, hz2⟩ := info_parts Tryd.info5
  exact ⟨Tryd.underlying34, i0, hi, hz0, hz1, hz2⟩

end Go.Proofs.YtkinbcmnfpkncaaDoor
