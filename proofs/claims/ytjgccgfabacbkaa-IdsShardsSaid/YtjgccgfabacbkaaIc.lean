/- Tokens as numbers, numbers as tokens. -/
import Derived.Test.YtjgccgfabacbkaaIb
import Derived.Test.YtjgccgfabacbkaaMem
import Derived.Deep.QuietTactic
import Derived.BigQuiet
import Derived.Deep.RegionHeld3
namespace Go.Proofs.Ytjgccgfabacbkaa
open Go.RowKit

theorem and_mask (x k : Nat) (hx : x < 18446744073709551616) (hk : k ≤ 63) : bits .and .u64 (x : Int) ((2 ^ k - 1 : Nat) : Int) = ((x % 2 ^ k : Nat) : Int) := by
  rw [u64_and_nat _ _ hx (by have : 2 ^ k ≤ 2 ^ 63 := Nat.pow_le_pow_right (by decide) hk; omega), Nat.and_two_pow_sub_one_eq_mod]

theorem fld_val (v A B k : Nat) (h : U64 v) (hB : B = 2 ^ k) (hk : k ≤ 62) (m : Int) (hm : m = ((B - 1 : Nat) : Int)) : wrap64 (bits .and .u64 ((v : Int) / (A : Int)) m) = ((v / A % B : Nat) : Int) := by
  subst hm hB
  have h2 : v / A < 18446744073709551616 := Nat.lt_of_le_of_lt (Nat.div_le_self _ _) h.lt
  have h3 : v / A % 2 ^ k < 2 ^ 62 := Nat.lt_of_lt_of_le (Nat.mod_lt _ (Nat.pow_pos (by decide))) (Nat.pow_le_pow_right (by decide) hk)
  rw [show (v : Int) / (A : Int) = ((v / A : Nat) : Int) by norm_cast, and_mask _ k h2 (by omega)]
  exact wrap64_in (by omega) (by omega)

theorem field_44 (v : Nat) (w : World) (h : U64 v) :
    Calls Try.prog 37 #[.int .u64 v, .int .i64 44, .int .i64 20] w fun e w' => e = .returned (.int .i64 ((v / 17592186044416 % 1048576 : Nat) : Int)) ∧ ∃ n, w' = w.drewN n := by
  have HV := Lib.hid (fld_val v 17592186044416 1048576 20 h rfl (by decide) 1048575 rfl)
  have b0 : (0 : Int) ≤ v := by omega
  have b1 : (v : Int) ≤ 18446744073709551615 := by have := h.lt; omega
  clear h
  generalize v / 17592186044416 % 1048576 = r at *
  go_enter Try.func37, Try.ntmps37
  go_wp2
  go_quiet (fail)
  go_wp2
  go_ret
  exact ⟨ret_int (by have := HV.out; simpa using this), _, rfl⟩
theorem field_28 (v : Nat) (w : World) (h : U64 v) :
    Calls Try.prog 37 #[.int .u64 v, .int .i64 28, .int .i64 16] w fun e w' => e = .returned (.int .i64 ((v / 268435456 % 65536 : Nat) : Int)) ∧ ∃ n, w' = w.drewN n := by
  have HV := Lib.hid (fld_val v 268435456 65536 16 h rfl (by decide) 65535 rfl)
  have b0 : (0 : Int) ≤ v := by omega
  have b1 : (v : Int) ≤ 18446744073709551615 := by have := h.lt; omega
  clear h
  generalize v / 268435456 % 65536 = r at *
  go_enter Try.func37, Try.ntmps37
  go_wp2
  go_quiet (fail)
  go_wp2
  go_ret
  exact ⟨ret_int (by have := HV.out; simpa using this), _, rfl⟩
theorem field_12 (v : Nat) (w : World) (h : U64 v) :
    Calls Try.prog 37 #[.int .u64 v, .int .i64 12, .int .i64 16] w fun e w' => e = .returned (.int .i64 ((v / 4096 % 65536 : Nat) : Int)) ∧ ∃ n, w' = w.drewN n := by
  have HV := Lib.hid (fld_val v 4096 65536 16 h rfl (by decide) 65535 rfl)
  have b0 : (0 : Int) ≤ v := by omega
  have b1 : (v : Int) ≤ 18446744073709551615 := by have := h.lt; omega
  clear h
  generalize v / 4096 % 65536 = r at *
  go_enter Try.func37, Try.ntmps37
  go_wp2
  go_quiet (fail)
  go_wp2
  go_ret
  exact ⟨ret_int (by have := HV.out; simpa using this), _, rfl⟩
theorem field_0 (v : Nat) (w : World) (h : U64 v) :
    Calls Try.prog 37 #[.int .u64 v, .int .i64 0, .int .i64 12] w fun e w' => e = .returned (.int .i64 ((v / 1 % 4096 : Nat) : Int)) ∧ ∃ n, w' = w.drewN n := by
  have HV := Lib.hid (fld_val v 1 4096 12 h rfl (by decide) 4095 rfl)
  have b0 : (0 : Int) ≤ v := by omega
  have b1 : (v : Int) ≤ 18446744073709551615 := by have := h.lt; omega
  clear h
  generalize v / 1 % 4096 = r at *
  go_enter Try.func37, Try.ntmps37
  go_wp2
  go_quiet (fail)
  go_wp2
  go_ret
  exact ⟨ret_int (by have := HV.out; simpa using this), _, rfl⟩

/-- A token. -/
structure Tok where
  f : Int
  r : Int
  e : Int
  t : Int
deriving DecidableEq
def Tok.cs (k : Tok) : Array Value := #[.int .i64 k.f, .int .i64 k.r, .int .i64 k.e, .int .i64 k.t]
/-- What a number's bits make. -/
def tokOf (v : Nat) : Tok := ⟨((v / 17592186044416 % 1048576 : Nat) : Int), ((v / 268435456 % 65536 : Nat) : Int), ((v / 4096 % 65536 : Nat) : Int), ((v / 1 % 4096 : Nat) : Int)⟩

theorem unpack_any (v : Nat) (w : World) (h : U64 v) :
    Calls Try.prog 32 #[.int .u64 v] w fun e w' => e = .returned (.agg (tokOf v).cs) ∧ Fr (fun _ => False) w w' := by
  have C1 := Lib.hid (fun w => field_44 v w h)
  have C2 := Lib.hid (fun w => field_28 v w h)
  have C3 := Lib.hid (fun w => field_12 v w h)
  have C4 := Lib.hid (fun w => field_0 v w h)
  have HF : Hid ((.agg (tokOf v).cs : Value) = .agg #[.int .i64 ((v / 17592186044416 % 1048576 : Nat) : Int), .int .i64 ((v / 268435456 % 65536 : Nat) : Int), .int .i64 ((v / 4096 % 65536 : Nat) : Int), .int .i64 ((v / 1 % 4096 : Nat) : Int)]) := Lib.hid rfl
  generalize v / 17592186044416 % 1048576 = x1 at *
  generalize v / 268435456 % 65536 = x2 at *
  generalize v / 4096 % 65536 = x3 at *
  generalize v / 1 % 4096 = x4 at *
  generalize (tokOf v).cs = cs at *
  go_enter Try.func32, Try.ntmps32
  go_wp2_with fail
  refine (C1.out _).mono ?_; rintro e w' ⟨rfl, n1, rfl⟩
  go_wp2_with fail
  refine (C2.out _).mono ?_; rintro e w' ⟨rfl, n2, rfl⟩
  go_wp2_with fail
  refine (C3.out _).mono ?_; rintro e w' ⟨rfl, n3, rfl⟩
  go_wp2_with fail
  refine (C4.out _).mono ?_; rintro e w' ⟨rfl, n4, rfl⟩
  go_wp2
  refine bodyPost_ret (v := .agg #[.int .i64 x1, .int .i64 x2, .int .i64 x3, .int .i64 x4]) (by simp [results, Try.results32, go_sem]) rfl ⟨by rw [HF.out], ?_⟩
  exact ((((((Fr.refl _ _).alloc _).drewN _).setCell (fun h => absurd h (Nat.lt_irrefl _)) _).setCell (fun h => absurd h (Nat.lt_irrefl _)) _).setCell (fun h => absurd h (Nat.lt_irrefl _)) _).setCell (fun h => absurd h (Nat.lt_irrefl _)) _

def packN (k : Tok) : Nat := ((u64N k.f * 17592186044416 % 18446744073709551616 ||| u64N k.r * 268435456 % 18446744073709551616) ||| u64N k.e * 4096 % 18446744073709551616) ||| u64N k.t % 18446744073709551616
theorem packN_lt (k : Tok) : U64 (packN k) := by
  have m : ∀ x : Nat, x % 18446744073709551616 < 2 ^ 64 := fun x => Nat.mod_lt _ (by decide)
  exact Nat.or_lt_two_pow (n := 64) (Nat.or_lt_two_pow (Nat.or_lt_two_pow (m _) (m _)) (m _)) (m _)
theorem pack_val (a b c d : Nat) : bits .or .u64 (bits .or .u64 (bits .or .u64 (IntKind.u64.wrap ((a : Int) * 17592186044416)) (IntKind.u64.wrap ((b : Int) * 268435456))) (IntKind.u64.wrap ((c : Int) * 4096))) (IntKind.u64.wrap (d : Int)) =
    ((((a * 17592186044416 % 18446744073709551616 ||| b * 268435456 % 18446744073709551616) ||| c * 4096 % 18446744073709551616) ||| d % 18446744073709551616 : Nat) : Int) := by
  have m : ∀ x : Nat, x % 18446744073709551616 < 18446744073709551616 := fun x => Nat.mod_lt _ (by decide)
  have o : ∀ x y : Nat, x < 18446744073709551616 → y < 18446744073709551616 → x ||| y < 18446744073709551616 := fun x y h k => Nat.or_lt_two_pow (n := 64) h k
  have e1 : IntKind.u64.wrap ((a : Int) * 17592186044416) = ((a * 17592186044416 % 18446744073709551616 : Nat) : Int) := wrap_mul a 17592186044416
  have e2 : IntKind.u64.wrap ((b : Int) * 268435456) = ((b * 268435456 % 18446744073709551616 : Nat) : Int) := wrap_mul b 268435456
  have e3 : IntKind.u64.wrap ((c : Int) * 4096) = ((c * 4096 % 18446744073709551616 : Nat) : Int) := wrap_mul c 4096
  have e4 : IntKind.u64.wrap (d : Int) = ((d % 18446744073709551616 : Nat) : Int) := by rw [wrap_u64]; omega
  rw [e1, e2, e3, e4, u64_or_nat _ _ (m _) (m _), u64_or_nat _ _ (o _ _ (m _) (m _)) (m _), u64_or_nat _ _ (o _ _ (o _ _ (m _) (m _)) (m _)) (m _)]

theorem pack_any (k : Tok) (w : World) :
    Calls Try.prog 33 #[.agg k.cs] w fun e w' => e = .returned (.int .u64 ((packN k : Nat) : Int)) ∧ Fr (fun _ => False) w w' := by
  have e1 := wrap_u64N k.f
  have e2 := wrap_u64N k.r
  have e3 := wrap_u64N k.e
  have e4 := wrap_u64N k.t
  have HV := Lib.hid (show _ = ((packN k : Nat) : Int) from pack_val (u64N k.f) (u64N k.r) (u64N k.e) (u64N k.t))
  generalize packN k = p at *
  obtain ⟨f, r, e, t⟩ := k
  simp only [Tok.cs] at *
  go_enter Try.func33, Try.ntmps33
  go_wp2
  go_ret
  exact ⟨ret_int HV.out, (Fr.refl _ _).alloc _⟩

def noneB (v : Nat) : Bool := v / 268435456 == 0
theorem isNone_any (v : Nat) (w : World) (h : U64 v) :
    Calls Try.prog 31 #[.int .u64 v] w fun e w' => e = .returned (.bool (noneB v)) ∧ w = w' := by
  have b0 : (0 : Int) ≤ v := by omega
  have b1 : (v : Int) ≤ 18446744073709551615 := by have := h.lt; omega
  have HB : Hid (((v : Int) / 268435456 == 0) = noneB v) := Lib.hid (by unfold noneB; rw [Bool.eq_iff_iff]; simp; omega)
  clear h
  go_enter Try.func31, Try.ntmps31
  go_wp2
  go_ret
  exact ⟨by show Ending.returned (.bool _) = _; rw [HB.out], rfl⟩

/-- Each number fits its bits. -/
def Tok.fits (k : Tok) : Prop := (0 ≤ k.f ∧ k.f < 1048576) ∧ (0 ≤ k.r ∧ k.r < 65536) ∧ (0 ≤ k.e ∧ k.e < 65536) ∧ (0 ≤ k.t ∧ k.t < 4096)
instance (k : Tok) : Decidable k.fits := by unfold Tok.fits; infer_instance
def Tok.none (k : Tok) : Prop := k.f = 0 ∧ k.r = 0
instance (k : Tok) : Decidable k.none := by unfold Tok.none; infer_instance
def sumN (f r e t : Nat) : Nat := f * 17592186044416 + r * 268435456 + e * 4096 + t
theorem packN_fits (f r e t : Nat) (hf : f < 1048576) (hr : r < 65536) (he : e < 65536) (ht : t < 4096) : packN ⟨f, r, e, t⟩ = sumN f r e t := by
  have u : ∀ x : Nat, x < 1048576 → u64N (x : Int) = x := fun x hx => by unfold u64N; omega
  unfold packN sumN
  simp only [u f hf, u r (by omega), u e (by omega), u t (by omega)]
  rw [Nat.mod_eq_of_lt (show f * 17592186044416 < 18446744073709551616 by omega), Nat.mod_eq_of_lt (show r * 268435456 < 18446744073709551616 by omega), Nat.mod_eq_of_lt (show e * 4096 < 18446744073709551616 by omega), Nat.mod_eq_of_lt (show t < 18446744073709551616 by omega)]
  have o1 : f * 17592186044416 ||| r * 268435456 = f * 17592186044416 + r * 268435456 := by
    have := (Nat.two_pow_add_eq_or_of_lt (i := 44) (b := r * 268435456) (by omega) f).symm
    rw [Nat.mul_comm f]; exact this
  rw [o1]
  have o2 : (f * 17592186044416 + r * 268435456) ||| e * 4096 = f * 17592186044416 + r * 268435456 + e * 4096 := by
    have := (Nat.two_pow_add_eq_or_of_lt (i := 28) (b := e * 4096) (by omega) (f * 65536 + r)).symm
    rw [show 2 ^ 28 * (f * 65536 + r) = f * 17592186044416 + r * 268435456 by omega] at this; exact this
  rw [o2]
  have := (Nat.two_pow_add_eq_or_of_lt (i := 12) (b := t) (by omega) (f * 4294967296 + r * 65536 + e)).symm
  rw [show 2 ^ 12 * (f * 4294967296 + r * 65536 + e) = f * 17592186044416 + r * 268435456 + e * 4096 by omega] at this; exact this
theorem Tok.cast {k : Tok} (h : k.fits) : ∃ f r e t : Nat, k = ⟨f, r, e, t⟩ ∧ f < 1048576 ∧ r < 65536 ∧ e < 65536 ∧ t < 4096 := by
  obtain ⟨f, r, e, t⟩ := k
  obtain ⟨⟨a, a'⟩, ⟨b, b'⟩, ⟨c, c'⟩, d, d'⟩ := h
  simp only at *
  refine ⟨f.toNat, r.toNat, e.toNat, t.toNat, ?_, ?_, ?_, ?_, ?_⟩
  · rw [Int.toNat_of_nonneg a, Int.toNat_of_nonneg b, Int.toNat_of_nonneg c, Int.toNat_of_nonneg d]
  all_goals omega
theorem tokOf_fits (v : Nat) : (tokOf v).fits := by unfold tokOf Tok.fits; simp only; omega
theorem tokOf_sum (f r e t : Nat) (hf : f < 1048576) (hr : r < 65536) (he : e < 65536) (ht : t < 4096) : tokOf (sumN f r e t) = ⟨f, r, e, t⟩ := by
  unfold tokOf sumN
  simp only [Tok.mk.injEq]
  refine ⟨?_, ?_, ?_, ?_⟩ <;> omega
theorem tokOf_pack {k : Tok} (h : k.fits) : tokOf (packN k) = k := by
  obtain ⟨f, r, e, t, rfl, hf, hr, he, ht⟩ := Tok.cast h
  rw [packN_fits f r e t hf hr he ht, tokOf_sum f r e t hf hr he ht]
theorem pack_none {k : Tok} (h : k.fits) : packN k / 268435456 = 0 ↔ k.none := by
  obtain ⟨f, r, e, t, rfl, hf, hr, he, ht⟩ := Tok.cast h
  rw [packN_fits f r e t hf hr he ht]
  unfold sumN Tok.none
  simp only
  omega
theorem pack_tokOf {v : Nat} (h : U64 v) : packN (tokOf v) = v := by
  have hl := h.lt
  have := packN_fits (v / 17592186044416 % 1048576) (v / 268435456 % 65536) (v / 4096 % 65536) (v / 1 % 4096) (by omega) (by omega) (by omega) (by omega)
  show packN ⟨_, _, _, _⟩ = v
  rw [this]
  unfold sumN
  omega
theorem tokOf_none {v : Nat} (h : U64 v) : v / 268435456 = 0 ↔ (tokOf v).none := by
  rw [← pack_none (tokOf_fits v), pack_tokOf h]
/-- A token's number. -/
def tokN (k : Tok) : Nat := if k.fits ∧ ¬ k.none then packN k else 0
theorem tokN_lt (k : Tok) : U64 (tokN k) := by
  unfold tokN; split
  · exact packN_lt k
  · exact (by decide : (0 : Nat) < 18446744073709551616)
end Go.Proofs.Ytjgccgfabacbkaa
