/- The reference's sum, bit by bit; four bytes. -/
import Derived.Test.YtacafjbbdklleaaDoorCp
namespace Go.Proofs.YtacafjbbdklleaaDoor
open Go.RowKit

def crcI : Nat → Nat → Nat
  | 0, r => r
  | k + 1, r => crc1 (crcI k r)
theorem crcI_eight (r : Nat) : crcI 8 r = crc8 r := rfl
theorem crcI_lt : ∀ (k r : Nat), r < 4294967296 → crcI k r < 4294967296
  | 0, _, h => h
  | k + 1, r, h => crc1_lt _ (crcI_lt k r h)

set_option maxRecDepth 100000 in
set_option maxHeartbeats 1000000 in
theorem refSum_any (A : Option Addr) (n c : Nat) (xs : List UInt8) (w : World) (hr : Rd8 w A xs) (hn : xs.length = n) (hb : n ≤ 140737488355328) :
    Calls Tryd.prog 24 #[.slice A n c] w fun e w' => e = .returned (.int .u32 (crcOf xs)) ∧ w = w' := by
  go_enter Tryd.func24, Tryd.ntmps24
  go_wp2
  go_loop [3, 4] (fun s i => ∃ k : Nat, k ≤ n ∧ i = .int .i64 k ∧ s = .int .u32 (crcL 4294967295 (xs.take k))) (fun _ i => n - (intOf i).toNat)
  case atStart => exact ⟨0, Nat.zero_le _, rfl, rfl⟩
  case round =>
    obtain ⟨k, hk, rfl, rfl⟩ := hrel
    have hl := crcL_lt (xs.take k) 4294967295 (by decide)
    by_cases hlt : k < n
    · obtain ⟨ad, rfl, hsp, hc⟩ := hr (by omega)
      obtain ⟨b, o, sp⟩ := ad
      cases hsp
      have hcell := hc k (by omega)
      simp only at hcell
      have hfin : crcL 4294967295 (xs.take (k + 1)) = crcI 8 (crcL 4294967295 (xs.take k) ^^^ (xs[k]'(by omega)).toNat) := by
        rw [crcI_eight]
        unfold crcL
        rw [List.take_succ_eq_append_getElem (by omega), List.foldl_append]
        rfl
      have HF := Lib.hid hfin
      clear hfin hr hc
      generalize crcL 4294967295 (xs.take k) = r at *
      have hbt := (xs[k]'(by omega)).toNat_lt
      generalize (xs[k]'(by omega)).toNat = b8 at *
      have e1 := xor_val r b8 hl hbt
      have hx : r ^^^ b8 < 4294967296 := Nat.xor_lt_two_pow (n := 32) hl (by omega)
      generalize r ^^^ b8 = x at *
      have HX := Lib.hid hx
      clear hx hl
      go_wp2
      go_loop [3, 5] (fun s j => ∃ q : Nat, q ≤ 8 ∧ j = .int .i64 q ∧ s = .int .u32 (crcI q x)) (fun _ j => 8 - (intOf j).toNat)
      case atStart => exact ⟨0, Nat.zero_le _, rfl, rfl⟩
      case round =>
        obtain ⟨q, hq, rfl, rfl⟩ := hrel
        by_cases hq8 : q < 8
        · have hy := crcI_lt q x HX.out
          have HS := Lib.hid (show crcI (q + 1) x = crc1 (crcI q x) from rfl)
          generalize hz : crcI (q + 1) x = z at *
          have HZ := Lib.hid hz
          clear hz
          generalize crcI q x = y at *
          have hq8' : (q : Int) < 8 := by omega
          by_cases ho : y % 2 = 1
          · have a1 : bits BinOp.and IntKind.u32 (y : Int) 1 = 1 := by
              rw [show (1 : Int) = ((1 : Nat) : Int) from rfl, u32_and_nat _ _ hy (by omega), Nat.and_one_is_mod, ho]
            have a2 : bits BinOp.xor IntKind.u32 ((y : Int) / 2) 2197175160 = (z : Int) := by
              rw [show (y : Int) / 2 = ((y / 2 : Nat) : Int) by omega, show (2197175160 : Int) = ((2197175160 : Nat) : Int) from rfl, u32_xor_nat _ _ (by omega) (by omega), HS.out]
              unfold crc1; rw [if_pos ho]
            clear hy
            go_wp2
            go_round
            case rel => exact ⟨q + 1, by omega, by go_num, by rw [HZ.out]⟩
            case measure => simp [intOf]; omega
          · have a1 : bits BinOp.and IntKind.u32 (y : Int) 1 = 0 := by
              rw [show (1 : Int) = ((1 : Nat) : Int) from rfl, u32_and_nat _ _ hy (by omega), Nat.and_one_is_mod, show y % 2 = 0 by omega]; rfl
            have a2 : (y : Int) / 2 = (z : Int) := by
              rw [HS.out]; unfold crc1; rw [if_neg ho]; omega
            clear hy
            go_wp2
            go_round
            case rel => exact ⟨q + 1, by omega, by go_num, by rw [HZ.out]⟩
            case measure => simp [intOf]; omega
        · obtain rfl : q = 8 := by omega
          go_wp2
          go_round
          case rel => exact ⟨k + 1, by omega, by go_num, by rw [HF.out]⟩
          case measure => simp [intOf]; omega
    · have : k = n := by omega
      subst this
      rw [List.take_of_length_le (by omega)] at hl ⊢
      have HE := Lib.hid (not_val _ hl)
      go_wp2
      go_ret
      exact ⟨by rw [HE.out]; rfl, rfl⟩
end Go.Proofs.YtacafjbbdklleaaDoor
