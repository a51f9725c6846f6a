/- The sum: CRC-32C, half a byte at a time. -/
import Derived.Test.YtacafjbbdklleaaDoorCb
import Derived.Laws.BitsAllLaws
namespace Go.Proofs.YtacafjbbdklleaaDoor
open Go.RowKit

/-- One bit of the sum. -/
def crc1 (r : Nat) : Nat := if r % 2 = 1 then (r / 2) ^^^ 0x82F63B78 else r / 2
def crc8 (r : Nat) : Nat := crc1 (crc1 (crc1 (crc1 (crc1 (crc1 (crc1 (crc1 r)))))))
/-- The sum's register behind a byte. -/
def crcB (r : Nat) (b : UInt8) : Nat := crc8 (r ^^^ b.toNat)
def crcL (r : Nat) (l : List UInt8) : Nat := l.foldl crcB r
def crcOf (l : List UInt8) : Nat := 4294967295 - crcL 4294967295 l

theorem crc1_lt (r : Nat) (h : r < 4294967296) : crc1 r < 4294967296 := by
  unfold crc1; split
  · exact Nat.xor_lt_two_pow (n := 32) (by omega) (by omega)
  · omega
theorem crcB_lt (r : Nat) (b : UInt8) (h : r < 4294967296) : crcB r b < 4294967296 := by
  unfold crcB crc8
  have := b.toNat_lt
  have : r ^^^ b.toNat < 4294967296 := Nat.xor_lt_two_pow (n := 32) h (by omega)
  exact crc1_lt _ (crc1_lt _ (crc1_lt _ (crc1_lt _ (crc1_lt _ (crc1_lt _ (crc1_lt _ (crc1_lt _ this)))))))
theorem crcL_lt : ∀ (l : List UInt8) (r : Nat), r < 4294967296 → crcL r l < 4294967296
  | [], _, h => h
  | b :: l, r, h => crcL_lt l (crcB r b) (crcB_lt r b h)

/-- The table of half bytes. -/
def halfN (i : Nat) : Nat := crc1 (crc1 (crc1 (crc1 i)))
def step4 (x : Nat) : Nat := x / 16 ^^^ halfN (x % 16)

theorem crc1_xor (a b : Nat) (hb : b % 2 = 0) : crc1 (a ^^^ b) = crc1 a ^^^ b / 2 := by
  have h1 : (a ^^^ b) % 2 = a % 2 := by
    have := @Nat.xor_mod_two_eq_one a b
    omega
  have h2 : (a ^^^ b) / 2 = a / 2 ^^^ b / 2 := by
    have := @Nat.shiftRight_xor_distrib 1 a b
    simpa [Nat.shiftRight_succ] using this
  unfold crc1
  rw [h1, h2]
  split
  · rw [Nat.xor_assoc, Nat.xor_comm (b / 2), ← Nat.xor_assoc]
  · rfl
theorem crc_half (x : Nat) : crc1 (crc1 (crc1 (crc1 x))) = step4 x := by
  have h : x = x % 16 ^^^ x / 16 * 16 := by
    have := nat_join 4 (x / 16 * 16) (x % 16) (by omega) (by omega)
    rw [Nat.xor_comm]
    have h2 : x / 16 * 16 ^^^ x % 16 = x / 16 * 16 ||| x % 16 := by
      apply Nat.eq_of_testBit_eq
      intro i
      rw [Nat.testBit_xor, Nat.testBit_or]
      by_cases hi : i < 4
      · have : (x / 16 * 16).testBit i = false := by
          rw [show (16 : Nat) = 2 ^ 4 from rfl, Nat.mul_comm, Nat.testBit_two_pow_mul]; simp; omega
        simp [this]
      · have : (x % 16).testBit i = false := by
          rw [show (16 : Nat) = 2 ^ 4 from rfl, Nat.testBit_mod_two_pow]; simp; omega
        simp [this]
    rw [h2, this]; omega
  conv => lhs; rw [h]
  rw [crc1_xor _ _ (by omega), crc1_xor _ _ (by omega), crc1_xor _ _ (by omega), crc1_xor _ _ (by omega)]
  unfold step4 halfN
  rw [Nat.xor_comm, show x / 16 * 16 / 2 / 2 / 2 / 2 = x / 16 by omega]
theorem crcB_step (r : Nat) (b : UInt8) : crcB r b = step4 (step4 (r ^^^ b.toNat)) := by
  unfold crcB crc8
  rw [crc_half, crc_half]
theorem halfN_lt (i : Nat) (h : i < 16) : halfN i < 4294967296 := by
  unfold halfN; exact crc1_lt _ (crc1_lt _ (crc1_lt _ (crc1_lt _ (by omega))))
theorem step4_lt (x : Nat) (h : x < 4294967296) : step4 x < 4294967296 := by
  rw [← crc_half]; exact crc1_lt _ (crc1_lt _ (crc1_lt _ (crc1_lt _ h)))

/-- The package's table holds what it must. -/
def Tab (w : World) : Prop := ∀ i, i < 16 → w.cell? ⟨1, i, none⟩ = some (.int .u32 (halfN i))
theorem Tab.fr {S : Nat → Prop} {w w' : World} (h : Tab w) (hb : Fr S w w') (hS : ¬ S 1) : Tab w' := fun i hi =>
  (hb.cell (p := ⟨1, i, none⟩) (World.block_lt_of_cell? w _ (h i hi)) hS).trans (h i hi)

theorem xor_val (r : Nat) (b : Nat) (hr : r < 4294967296) (hb : b < 256) : bits BinOp.xor IntKind.u32 (r : Int) (b : Int) = ((r ^^^ b : Nat) : Int) := u32_xor_nat _ _ hr (by omega)
theorem and_val (x : Nat) (hx : x < 4294967296) : bits BinOp.and IntKind.u32 (x : Int) 15 = ((x % 16 : Nat) : Int) := by
  rw [show (15 : Int) = ((15 : Nat) : Int) from rfl, u32_and_nat _ _ hx (by omega), nat_mask4]
theorem step_val (x : Nat) (hx : x < 4294967296) : bits BinOp.xor IntKind.u32 ((x : Int) / 16) (halfN (x % 16) : Int) = (step4 x : Int) := by
  rw [show (x : Int) / 16 = ((x / 16 : Nat) : Int) by omega, u32_xor_nat _ _ (by omega) (halfN_lt _ (by omega))]
  rfl

theorem not_val (x : Nat) (hx : x < 4294967296) : bits BinOp.xor IntKind.u32 IntKind.u32.max (x : Int) = ((4294967295 - x : Nat) : Int) := by
  rw [show IntKind.u32.max = ((4294967295 : Nat) : Int) from rfl, u32_xor_nat _ _ (by omega) hx]
  have h : ∀ x : BitVec 32, 4294967295#32 ^^^ x = ~~~x := fun x => by
    rw [show (4294967295#32 : BitVec 32) = BitVec.allOnes 32 from rfl, BitVec.allOnes_xor]
  have := congrArg BitVec.toNat (h (BitVec.ofNat 32 x))
  rw [BitVec.toNat_xor, BitVec.toNat_not] at this
  simp only [BitVec.toNat_ofNat] at this
  rw [Nat.mod_eq_of_lt (show x < 2 ^ 32 by omega), show 4294967295 % 2 ^ 32 = 4294967295 from rfl] at this
  rw [this]

set_option maxRecDepth 100000 in
set_option maxHeartbeats 1000000 in
theorem sum_any (A : Option Addr) (n c : Nat) (xs : List UInt8) (w : World) (ht : Tab w) (hr : Rd8 w A xs) (hn : xs.length = n) (hb : n ≤ 140737488355328) :
    Calls Tryd.prog 35 #[.slice A n c] w fun e w' => e = .returned (.int .u32 (crcOf xs)) ∧ w = w' := by
  go_enter Tryd.func35, Tryd.ntmps35
  go_wp2
  go_loop [3, 5, 8] (fun s _ i => ∃ k : Nat, k ≤ n ∧ i = .int .i64 k ∧ s = .int .u32 (crcL 4294967295 (xs.take k))) (fun _ _ i => n - (intOf i).toNat)
  case atStart => exact ⟨0, Nat.zero_le _, rfl, rfl⟩
  case round =>
    obtain ⟨k, hk, rfl, rfl⟩ := hrel
    have hl := crcL_lt (xs.take k) 4294967295 (by decide)
    by_cases hlt : k < n
    · obtain ⟨ad, rfl, hsp, hc⟩ := hr (by omega)
      obtain ⟨b, o, sp⟩ := ad
      cases hsp
      have hcell := hc k (by omega)
      simp only at hcell
      have hfin : crcL 4294967295 (xs.take (k + 1)) = step4 (step4 (crcL 4294967295 (xs.take k) ^^^ (xs[k]'(by omega)).toNat)) := by
        rw [← crcB_step]
        unfold crcL
        rw [List.take_succ_eq_append_getElem (by omega), List.foldl_append]
        rfl
      have HF := Lib.hid hfin
      clear hfin hr hc
      generalize crcL 4294967295 (xs.take k) = r at *
      have hbt := (xs[k]'(by omega)).toNat_lt
      generalize (xs[k]'(by omega)).toNat = b8 at *
      have e1 := xor_val r b8 hl hbt
      have hx : r ^^^ b8 < 4294967296 := Nat.xor_lt_two_pow (n := 32) hl (by omega)
      generalize r ^^^ b8 = x at *
      have e2 := and_val x hx
      have e3 := step_val x hx
      have hy := step4_lt x hx
      have c1 := ht (x % 16) (by omega)
      generalize step4 x = y at *
      have e4 := and_val y hy
      have e5 := step_val y hy
      have c2 := ht (y % 16) (by omega)
      have i1 : (x : Int) % 16 < 16 := by omega
      have i2 : (y : Int) % 16 < 16 := by omega
      clear ht
      go_wp2
      go_round
      case rel => exact ⟨k + 1, by omega, by go_num, by rw [HF.out]⟩
      case measure => simp [intOf]; omega
    · have : k = n := by omega
      subst this
      rw [List.take_of_length_le (by omega)] at hl ⊢
      have HE := Lib.hid (not_val _ hl)
      go_wp2
      go_ret
      exact ⟨by rw [HE.out]; rfl, rfl⟩
end Go.Proofs.YtacafjbbdklleaaDoor
