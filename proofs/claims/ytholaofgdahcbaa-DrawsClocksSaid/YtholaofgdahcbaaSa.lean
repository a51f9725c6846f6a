/- Hashes of ids, as the draws ask them. -/
import Derived.WalkKit
import Derived.WalkSpells
import Derived.WalkLawsBesides
import Derived.Lib.Hide
import Derived.IntWalk
import Derived.Deep.Draws
import Derived.Laws.BitsAllLaws
import Derived.Laws.ShiftsVarLaws
import Derived.Test.YtholaofgdahcbaaChecked
namespace Go.Proofs.Ytholaofgdahcbaa
open Go.RowKit

theorem wrap64_in {n : Int} (h1 : -9223372036854775808 ≤ n) (h2 : n ≤ 9223372036854775807) : wrap64 n = n := by unfold wrap64; omega
theorem ret_int {k : IntKind} {a b : Int} (h : a = b) : Ending.returned (.int k a) = .returned (.int k b) := by rw [h]

def mixN (v k : Nat) : Nat := v ^^^ v / 2 ^ k
def hashN (v : Nat) : Nat := mixN (mixN (mixN v 30 * 13787848793156543929 % 18446744073709551616) 27 * 10723151780598845931 % 18446744073709551616) 31
theorem mixN_lt (v k : Nat) (h : v < 18446744073709551616) : mixN v k < 18446744073709551616 :=
  Nat.xor_lt_two_pow (n := 64) h (Nat.lt_of_le_of_lt (Nat.div_le_self _ _) h)
theorem hashN_lt (v : Nat) : hashN v < 18446744073709551616 := mixN_lt _ _ (Nat.mod_lt _ (by decide))

theorem mix_val (v k : Nat) (h : v < 18446744073709551616) : bits .xor .u64 (v : Int) ((v : Int) / 2 ^ k) = ((mixN v k : Nat) : Int) := by
  have : (v : Int) / 2 ^ k = ((v / 2 ^ k : Nat) : Int) := by norm_cast
  rw [this, u64_xor_nat _ _ h (Nat.lt_of_le_of_lt (Nat.div_le_self _ _) h)]
  rfl

theorem mix_any (v : Nat) (c : Int) (w : World) (hv : v < 18446744073709551616) (h0 : 0 ≤ c) (h1 : c ≤ 63) :
    Calls Try.prog 43 #[.int .u64 v, .int .i64 c] w fun e w' => e = .returned (.int .u64 ((mixN v c.toNat : Nat) : Int)) ∧ w = w' := by
  have h2 : (0 : Int) ≤ v := by omega
  have h3 : (v : Int) ≤ 18446744073709551615 := by omega
  have HV := Lib.hid (mix_val v c.toNat hv)
  clear hv
  go_enter Try.func43, Try.ntmps43
  go_wp2
  go_ret
  exact ⟨ret_int HV.out, rfl⟩

/-- An int as 64 bits. -/
def u64N (x : Int) : Nat := (x % 18446744073709551616).toNat
theorem u64N_lt (x : Int) : u64N x < 18446744073709551616 := by unfold u64N; omega
theorem u64N_cast (x : Int) : ((u64N x : Nat) : Int) = x % 18446744073709551616 := by unfold u64N; omega

theorem wrap_u64 (n : Int) : IntKind.u64.wrap n = n % 18446744073709551616 := by simp [IntKind.wrap, IntKind.bits, IntKind.signed]
theorem wrap_u64N (x : Int) : IntKind.u64.wrap x = ((u64N x : Nat) : Int) := by rw [wrap_u64, u64N_cast]
theorem wrap_mul (v c : Nat) : IntKind.u64.wrap ((v : Int) * (c : Int)) = ((v * c % 18446744073709551616 : Nat) : Int) := by rw [wrap_u64]; omega

/-- A number of 64 bits. -/
def U64 (v : Nat) : Prop := v < 18446744073709551616
theorem U64.lt {v : Nat} (h : U64 v) : v < 18446744073709551616 := h
theorem mix_to (v k m : Nat) (c : Int) (w : World) (h : U64 v) (hm : mixN v k = m) (hc : c = k) (hk : k ≤ 63) :
    Calls Try.prog 43 #[.int .u64 v, .int .i64 c] w fun e w' => e = .returned (.int .u64 (m : Int)) ∧ w = w' := by
  subst hc
  have := mix_any v k w h.lt (by omega) (by omega)
  rw [show (k : Int).toNat = k from rfl, hm] at this
  exact this
theorem hash_parts (v : Nat) (h : U64 v) : ∃ m1 m2 m3 m4 : Nat, mixN v 30 = m1 ∧ IntKind.u64.wrap ((m1 : Int) * 13787848793156543929) = (m2 : Int) ∧ U64 m2 ∧
    mixN m2 27 = m3 ∧ IntKind.u64.wrap ((m3 : Int) * 10723151780598845931) = (m4 : Int) ∧ U64 m4 ∧ mixN m4 31 = hashN v :=
  ⟨_, _, _, _, rfl, wrap_mul _ 13787848793156543929, Nat.mod_lt _ (by decide), rfl, wrap_mul _ 10723151780598845931, Nat.mod_lt _ (by decide), rfl⟩
theorem hash_any (x : Int) (w : World) :
    Calls Try.prog 31 #[.int .i64 x] w fun e w' => e = .returned (.int .u64 ((hashN (u64N x) : Nat) : Int)) ∧ w = w' := by
  obtain ⟨m1, m2, m3, m4, h1, e1, u2, h3, e2, u4, h5⟩ := hash_parts (u64N x) (u64N_lt x)
  have C1 := Lib.hid (fun w => mix_to (u64N x) 30 m1 30 w (u64N_lt x) h1 rfl (by decide))
  have C2 := Lib.hid (fun w => mix_to m2 27 m3 27 w u2 h3 rfl (by decide))
  have C3 := Lib.hid (fun w => mix_to m4 31 _ 31 w u4 h5 rfl (by decide))
  have e0 := wrap_u64N x
  clear h1 h3 h5 u2 u4
  generalize u64N x = v at *
  generalize hashN v = r at *
  go_enter Try.func31, Try.ntmps31
  go_wp2_with fail
  refine (C1.out _).mono ?_; rintro e w' ⟨rfl, rfl⟩
  go_wp2_with fail
  refine (C2.out _).mono ?_; rintro e w' ⟨rfl, rfl⟩
  go_wp2_with fail
  refine (C3.out _).mono ?_; rintro e w' ⟨rfl, rfl⟩
  go_wp2
  go_ret
  exact ⟨rfl, rfl⟩

end Go.Proofs.Ytholaofgdahcbaa
