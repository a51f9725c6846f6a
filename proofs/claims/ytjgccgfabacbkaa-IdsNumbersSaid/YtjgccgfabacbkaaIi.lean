/- The walks of IdsShards and IdsUnlike. -/
import Derived.Test.YtjgccgfabacbkaaIh
namespace Go.Proofs.Ytjgccgfabacbkaa
open Go.RowKit

set_option maxRecDepth 100000 in
set_option maxHeartbeats 1000000 in
theorem shards_any (flow list turn g : Int) (w : World) (h2 : g ≤ 9223372036854775807) :
    Calls Try.prog 6 #[.int .i64 flow, .int .i64 list, .int .i64 turn, .int .i64 g] w fun e w' => e = .returned (.bool true) ∧ Fr (fun _ => False) w w' := by
  have C1 := Lib.hid (fun w => known_any w)
  have C8 := Lib.hid (fun w => shard_any flow g w h2)
  have C10 := Lib.hid (fun w => list_any list turn g w h2)
  by_cases hg : g < 1
  · rw [restI_no hg] at C8 C10
    go_enter Try.func6, Try.ntmps6
    go_wp2_with fail
    refine (C1.out _).mono ?_; rintro e2 w1 ⟨rfl, hf⟩
    go_wp2_with fail
    refine (C8.out _).mono ?_; rintro e2 w2 ⟨rfl, rfl⟩
    go_wp2_with fail
    refine (C10.out _).mono ?_; rintro e2 w2 ⟨rfl, rfl⟩
    go_wp2
    go_ret
    exact ⟨rfl, hf⟩
  · have hg1 : 1 ≤ g := by omega
    obtain ⟨a1, a2⟩ := @restI_in (hashN (u64N flow)) g hg1
    obtain ⟨a3, a4⟩ := @restI_in (listN list turn) g hg1
    generalize restI (hashN (u64N flow)) g = x at *
    generalize restI (listN list turn) g = y at *
    clear hg
    by_cases h1 : g = 1
    · subst h1
      obtain rfl : x = 0 := by omega
      obtain rfl : y = 0 := by omega
      go_enter Try.func6, Try.ntmps6
      go_wp2_with fail
      refine (C1.out _).mono ?_; rintro e2 w1 ⟨rfl, hf⟩
      go_wp2_with fail
      refine (C8.out _).mono ?_; rintro e2 w2 ⟨rfl, rfl⟩
      go_wp2_with fail
      refine (C10.out _).mono ?_; rintro e2 w2 ⟨rfl, rfl⟩
      go_wp2
      go_ret
      exact ⟨rfl, hf⟩
    · have h3 : (g == 1) = false := by rw [beq_eq_false_iff_ne]; exact h1
      have h4 : (g != 1) = true := by rw [bne, h3]; rfl
      clear h1
      go_enter Try.func6, Try.ntmps6
      go_wp2_with fail
      refine (C1.out _).mono ?_; rintro e2 w1 ⟨rfl, hf⟩
      go_wp2_with fail
      refine (C8.out _).mono ?_; rintro e2 w2 ⟨rfl, rfl⟩
      go_wp2_with fail
      refine (C10.out _).mono ?_; rintro e2 w2 ⟨rfl, rfl⟩
      go_wp2
      go_ret
      exact ⟨rfl, hf⟩

/-! Hashes are unlike: each step can be undone. -/
theorem mixN_inj {a b k : Nat} (hk : 0 < k) (ha : a < 2 ^ 64) (hb : b < 2 ^ 64) (h : mixN a k = mixN b k) : a = b := by
  have key : ∀ n, ∀ i, 64 ≤ i + n → a.testBit i = b.testBit i := by
    intro n
    induction n with
    | zero =>
      intro i hi
      rw [Nat.testBit_lt_two_pow (Nat.lt_of_lt_of_le ha (Nat.pow_le_pow_right (by decide) (by omega))), Nat.testBit_lt_two_pow (Nat.lt_of_lt_of_le hb (Nat.pow_le_pow_right (by decide) (by omega)))]
    | succ n ih =>
      intro i hi
      by_cases h64 : 64 ≤ i
      · rw [Nat.testBit_lt_two_pow (Nat.lt_of_lt_of_le ha (Nat.pow_le_pow_right (by decide) h64)), Nat.testBit_lt_two_pow (Nat.lt_of_lt_of_le hb (Nat.pow_le_pow_right (by decide) h64))]
      · have hi2 := ih (i + k) (by omega)
        have := congrArg (fun x => Nat.testBit x i) h
        simp only [mixN, Nat.testBit_xor, Nat.testBit_div_two_pow, Nat.add_comm k i] at this
        rw [hi2] at this
        cases h1 : a.testBit i <;> cases h2 : b.testBit i <;> cases h3 : b.testBit (i + k) <;> simp_all
  exact Nat.eq_of_testBit_eq (fun i => key 64 i (by omega))
theorem mul_inj (c d : Nat) (hcd : c * d % 18446744073709551616 = 1) {a b : Nat} (ha : a < 18446744073709551616) (hb : b < 18446744073709551616) (h : a * c % 18446744073709551616 = b * c % 18446744073709551616) : a = b := by
  have e : ∀ x : Nat, x < 18446744073709551616 → (x * c % 18446744073709551616) * d % 18446744073709551616 = x := by
    intro x hx
    rw [Nat.mod_mul_mod, Nat.mul_assoc, Nat.mul_mod, hcd, Nat.mul_one, Nat.mod_mod, Nat.mod_eq_of_lt hx]
  rw [← e a ha, ← e b hb, h]
theorem hashN_inj {a b : Nat} (ha : U64 a) (hb : U64 b) (h : hashN a = hashN b) : a = b := by
  have m : ∀ x : Nat, x % 18446744073709551616 < 18446744073709551616 := fun x => Nat.mod_lt _ (by decide)
  have h1 := mixN_inj (by decide) (m _) (m _) h
  have h2 := mul_inj 10723151780598845931 3573116690164977347 (by decide +kernel) (mixN_lt _ _ (m _)) (mixN_lt _ _ (m _)) h1
  have h3 := mixN_inj (by decide) (m _) (m _) h2
  have h4 := mul_inj 13787848793156543929 10871156337175269513 (by decide +kernel) (mixN_lt _ _ ha) (mixN_lt _ _ hb) h3
  exact mixN_inj (by decide) ha hb h4
theorem u64N_inj {a b : Int} (ha : -9223372036854775808 ≤ a ∧ a ≤ 9223372036854775807) (hb : -9223372036854775808 ≤ b ∧ b ≤ 9223372036854775807) (h : u64N a = u64N b) : a = b := by
  unfold u64N at h; omega
end Go.Proofs.Ytjgccgfabacbkaa
