/- The walk of IdsUnlike. -/
import Derived.Test.YtjgccgfabacbkaaIi
namespace Go.Proofs.Ytjgccgfabacbkaa
open Go.RowKit

theorem ofInt_nat (a : Int) : (BitVec.ofInt 64 a).toNat = u64N a := by
  rw [BitVec.toNat_ofInt]; rfl
theorem u64N_xor (a s : Int) : u64N (bits .xor .i64 a s) = (BitVec.ofInt 64 a ^^^ BitVec.ofInt 64 s).toNat := by
  show u64N (IntKind.i64.wrap ((BitVec.ofInt 64 a ^^^ BitVec.ofInt 64 s).toNat : Int)) = _
  have h := (BitVec.ofInt 64 a ^^^ BitVec.ofInt 64 s).isLt
  generalize (BitVec.ofInt 64 a ^^^ BitVec.ofInt 64 s).toNat = x at *
  rw [IntKind.wrap_i64]
  unfold u64N
  omega
theorem flip_ne (a : Int) (k : Nat) (hk : k ≤ 63) : u64N (bits .xor .i64 a (wrap64 (2 ^ k))) ≠ u64N a := by
  rw [u64N_xor]
  intro h
  have h2 : BitVec.ofInt 64 a ^^^ BitVec.ofInt 64 (wrap64 (2 ^ k)) = BitVec.ofInt 64 a := BitVec.eq_of_toNat_eq (by rw [h, ofInt_nat])
  have h3 : BitVec.ofInt 64 (wrap64 (2 ^ k)) = 0 := by
    have := congrArg (fun x => BitVec.ofInt 64 a ^^^ x) h2
    simpa [← BitVec.xor_assoc] using this
  have h4 := congrArg BitVec.toNat h3
  rw [ofInt_nat] at h4
  unfold wrap64 u64N at h4
  have h5 : (2 : Int) ^ k = ((2 ^ k : Nat) : Int) := (Int.natCast_pow 2 k).symm
  have h6 : 0 < 2 ^ k := Nat.two_pow_pos k
  have h7 : 2 ^ k ≤ 2 ^ 63 := Nat.pow_le_pow_right Nat.zero_lt_two hk
  rw [h5] at h4
  generalize 2 ^ k = y at *
  simp at h4
  omega

theorem bool_self (x : Bool) : (x == x) = true := by cases x <;> rfl

set_option maxRecDepth 100000 in
set_option maxHeartbeats 1000000 in
theorem unlike_any (a b : Int) (t : Nat) (w : World) (ha : -9223372036854775808 ≤ a ∧ a ≤ 9223372036854775807) (hb : -9223372036854775808 ≤ b ∧ b ≤ 9223372036854775807) (ht : U64 t) :
    Calls Try.prog 7 #[.int .i64 a, .int .i64 b, .int .u64 t] w fun e w' => e = .returned (.bool true) ∧ Fr (fun _ => False) w w' := by
  have C1 := Lib.hid (fun w => known_any w)
  have e0 : bits .and .u64 (t : Int) 63 = ((t % 64 : Nat) : Int) := by
    rw [show (63 : Int) = ((63 : Nat) : Int) from rfl, u64_and_nat _ _ ht.lt (by decide)]
    have := Nat.and_two_pow_sub_one_eq_mod t 6
    rw [show (63 : Nat) = 2 ^ 6 - 1 from rfl, this]
  have k0 : (0 : Int) ≤ ((t % 64 : Nat) : Int) := by omega
  have k1 : ((t % 64 : Nat) : Int) ≤ 63 := by omega
  have HC := Lib.hid (flip_ne a (t % 64) (by omega))
  generalize t % 64 = k at *
  have HA := Lib.hid (fun w => hash_any a w)
  have HB := Lib.hid (fun w => hash_any b w)
  have HD := Lib.hid (fun w => hash_any (bits .xor .i64 a (wrap64 (2 ^ k))) w)
  have hne : ((hashN (u64N a) : Nat) : Int) ≠ ((hashN (u64N (bits .xor .i64 a (wrap64 (2 ^ k)))) : Nat) : Int) := fun h => HC.out (hashN_inj (u64N_lt _) (u64N_lt _) (by omega)).symm
  have hq : (a = b ∧ hashN (u64N a) = hashN (u64N b)) ∨ (a ≠ b ∧ ((hashN (u64N a) : Nat) : Int) ≠ ((hashN (u64N b) : Nat) : Int)) := by
    by_cases h : a = b
    · exact .inl ⟨h, by rw [h]⟩
    · exact .inr ⟨h, fun h' => h (u64N_inj ha hb (hashN_inj (u64N_lt _) (u64N_lt _) (by omega)))⟩
  generalize hashN (u64N (bits .xor .i64 a (wrap64 (2 ^ k)))) = z at *
  generalize hashN (u64N a) = x at *
  generalize hashN (u64N b) = y at *
  have d1 : ((x : Int) == (z : Int)) = false := by rw [beq_eq_false_iff_ne]; exact hne
  have d2 : ((x : Int) != (z : Int)) = true := by rw [bne, d1]; rfl
  clear ht hne HC ha hb
  rcases hq with ⟨rfl, rfl⟩ | ⟨h1, h2⟩
  · go_enter Try.func7, Try.ntmps7
    go_wp2_with fail
    refine (C1.out _).mono ?_; rintro e2 w1 ⟨rfl, hf⟩
    go_wp2_with fail
    refine (HA.out _).mono ?_; rintro e2 w2 ⟨rfl, rfl⟩
    go_wp2_with fail
    refine (HB.out _).mono ?_; rintro e2 w2 ⟨rfl, rfl⟩
    go_wp2_with fail
    refine (HA.out _).mono ?_; rintro e2 w2 ⟨rfl, rfl⟩
    go_wp2_with fail
    refine (HD.out _).mono ?_; rintro e2 w2 ⟨rfl, rfl⟩
    go_wp2
    go_ret
    exact ⟨rfl, hf⟩
  · have q1 : (a == b) = false := by rw [beq_eq_false_iff_ne]; exact h1
    have q2 : ((x : Int) == (y : Int)) = false := by rw [beq_eq_false_iff_ne]; exact h2
    clear h1 h2
    go_enter Try.func7, Try.ntmps7
    go_wp2_with fail
    refine (C1.out _).mono ?_; rintro e2 w1 ⟨rfl, hf⟩
    go_wp2_with fail
    refine (HA.out _).mono ?_; rintro e2 w2 ⟨rfl, rfl⟩
    go_wp2_with fail
    refine (HB.out _).mono ?_; rintro e2 w2 ⟨rfl, rfl⟩
    go_wp2_with fail
    refine (HA.out _).mono ?_; rintro e2 w2 ⟨rfl, rfl⟩
    go_wp2_with fail
    refine (HD.out _).mono ?_; rintro e2 w2 ⟨rfl, rfl⟩
    go_wp2
    go_ret
    exact ⟨rfl, hf⟩
end Go.Proofs.Ytjgccgfabacbkaa
