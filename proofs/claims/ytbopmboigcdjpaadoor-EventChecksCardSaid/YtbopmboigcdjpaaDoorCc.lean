/- The sum: CRC-32C, half a byte at a time. -/
import Derived.Test.YtbopmboigcdjpaaDoorCb
import Derived.Laws.BitsAllLaws
namespace Go.Proofs.YtbopmboigcdjpaaDoor
open Go.RowKit

/-- One bit of the sum. -/
def crc1 (r : Nat) : Nat := if r % 2 = 1 then (r / 2) ^^^ 0x82F63B78 else r / 2
def crc8 (r : Nat) : Nat := crc1 (crc1 (crc1 (crc1 (crc1 (crc1 (crc1 (crc1 r)))))))
/-- The sum's register behind a byte. -/
def crcB (r : Nat) (b : UInt8) : Nat := crc8 (r ^^^ b.toNat)
def crcL (r : Nat) (l : List UInt8) : Nat := l.foldl crcB r
def crcOf (l : List UInt8) : Nat := 4294967295 - crcL 4294967295 l

theorem crc1_lt (r : Nat) (h : r < 4294967296) : crc1 r < 4294967296 := by
  unfold crc1; split
  · exact Nat.xor_lt_two_pow (n := 32) (by omega) (by omega)
  · omega
theorem crcB_lt (r : Nat) (b : UInt8) (h : r < 4294967296) : crcB r b < 4294967296 := by
  unfold crcB crc8
  have := b.toNat_lt
  have : r ^^^ b.toNat < 4294967296 := Nat.xor_lt_two_pow (n := 32) h (by omega)
  exact crc1_lt _ (crc1_lt _ (crc1_lt _ (crc1_lt _ (crc1_lt _ (crc1_lt _ (crc1_lt _ (crc1_lt _ this)))))))
theorem crcL_lt : ∀ (l : List UInt8) (r : Nat), r < 4294967296 → crcL r l < 4294967296
  | [], _, h => h
  | b :: l, r, h => crcL_lt l (crcB r b) (crcB_lt r b h)

/-- The table of half bytes. -/
def halfN (i : Nat) : Nat := crc1 (crc1 (crc1 (crc1 i)))
def step4 (x : Nat) : Nat := x / 16 ^^^ halfN (x % 16)

theorem crc1_xor (a b : Nat) (hb : b % 2 = 0) : crc1 (a ^^^ b) = crc1 a ^^^ b / 2 := by
  have h1 : (a ^^^ b) % 2 = a % 2 := by
    have := @Nat.xor_mod_two_eq_one a b
    omega
  have h2 : (a ^^^ b) / 2 = a / 2 ^^^ b / 2 := by
    have := @Nat.shiftRight_xor_distrib 1 a b
    simpa [Nat.shiftRight_succ] using this
  unfold crc1
  rw [h1, h2]
  split
  · rw [Nat.xor_assoc, Nat.xor_comm (b / 2), ← Nat.xor_assoc]
  · rfl
theorem crc_half (x : Nat) : crc1 (crc1 (crc1 (crc1 x))) = step4 x := by
  have h : x = x % 16 ^^^ x / 16 * 16 := by
    have := nat_join 4 (x / 16 * 16) (x % 16) (by omega) (by omega)
    rw [Nat.xor_comm]
    have h2 : x / 16 * 16 ^^^ x % 16 = x / 16 * 16 ||| x % 16 := by
      apply Nat.eq_of_testBit_eq
      intro i
      rw [Nat.testBit_xor, Nat.testBit_or]
      by_cases hi : i < 4
      · have : (x / 16 * 16).testBit i = false := by
          rw [show (16 : Nat) = 2 ^ 4 from rfl, Nat.mul_comm, Nat.testBit_two_pow_mul]; simp; omega
        simp [this]
      · have : (x % 16).testBit i = false := by
          rw [show (16 : Nat) = 2 ^ 4 from rfl, Nat.testBit_mod_two_pow]; simp; omega
        simp [this]
    rw [h2, this]; omega
  conv => lhs; rw [h]
  rw [crc1_xor _ _ (by omega), crc1_xor _ _ (by omega), crc1_xor _ _ (by omega), crc1_xor _ _ (by omega)]
  unfold step4 halfN
  rw [Nat.xor_comm, show x / 16 * 16 / 2 / 2 / 2 / 2 = x / 16 by omega]
theorem crcB_step (r : Nat) (b : UInt8) : crcB r b = step4 (step4 (r ^^^ b.toNat)) := by
  unfold crcB crc8
  rw [crc_half, crc_half]
theorem halfN_lt (i : Nat) (h : i < 16) : halfN i < 4294967296 := by
  unfold halfN; exact crc1_lt _ (crc1_lt _ (crc1_lt _ (crc1_lt _ (by omega))))
theorem step4_lt (x : Nat) (h : x < 4294967296) : step4 x < 4294967296 := by
  rw [← crc_half]; exact crc1_lt _ (crc1_lt _ (crc1_lt _ (crc1_lt _ h)))

theorem xor_val (r : Nat) (b : Nat) (hr : r < 4294967296) (hb : b < 256) : bits BinOp.xor IntKind.u32 (r : Int) (b : Int) = ((r ^^^ b : Nat) : Int) := u32_xor_nat _ _ hr (by omega)
theorem and_val (x : Nat) (hx : x < 4294967296) : bits BinOp.and IntKind.u32 (x : Int) 15 = ((x % 16 : Nat) : Int) := by
  rw [show (15 : Int) = ((15 : Nat) : Int) from rfl, u32_and_nat _ _ hx (by omega), nat_mask4]
theorem step_val (x : Nat) (hx : x < 4294967296) : bits BinOp.xor IntKind.u32 ((x : Int) / 16) (halfN (x % 16) : Int) = (step4 x : Int) := by
  rw [show (x : Int) / 16 = ((x / 16 : Nat) : Int) by omega, u32_xor_nat _ _ (by omega) (halfN_lt _ (by omega))]
  rfl

theorem not_val (x : Nat) (hx : x < 4294967296) : bits BinOp.xor IntKind.u32 IntKind.u32.max (x : Int) = ((4294967295 - x : Nat) : Int) := by
  rw [show IntKind.u32.max = ((4294967295 : Nat) : Int) from rfl, u32_xor_nat _ _ (by omega) hx]
  have h : ∀ x : BitVec 32, 4294967295#32 ^^^ x = ~~~x := fun x => by
    rw [show (4294967295#32 : BitVec 32) = BitVec.allOnes 32 from rfl, BitVec.allOnes_xor]
  have := congrArg BitVec.toNat (h (BitVec.ofNat 32 x))
  rw [BitVec.toNat_xor, BitVec.toNat_not] at this
  simp only [BitVec.toNat_ofNat] at this
  rw [Nat.mod_eq_of_lt (show x < 2 ^ 32 by omega), show 4294967295 % 2 ^ 32 = 4294967295 from rfl] at this
  rw [this]

end Go.Proofs.YtbopmboigcdjpaaDoor
