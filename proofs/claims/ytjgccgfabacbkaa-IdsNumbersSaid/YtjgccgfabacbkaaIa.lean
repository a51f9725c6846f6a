/- Numbers of ids: hashes and shards. -/
import Derived.WalkKit
import Derived.WalkSpells
import Derived.WalkLawsBesides
import Derived.Lib.Hide
import Derived.IntWalk
import Derived.Deep.Draws
import Derived.Laws.BitsAllLaws
import Derived.Laws.ShiftsVarLaws
import Derived.Test.YtjgccgfabacbkaaChecked
namespace Go.Proofs.Ytjgccgfabacbkaa
open Go.RowKit

theorem wrap64_in {n : Int} (h1 : -9223372036854775808 ≤ n) (h2 : n ≤ 9223372036854775807) : wrap64 n = n := by unfold wrap64; omega
theorem ret_int {k : IntKind} {a b : Int} (h : a = b) : Ending.returned (.int k a) = .returned (.int k b) := by rw [h]

def mixN (v k : Nat) : Nat := v ^^^ v / 2 ^ k
def hashN (v : Nat) : Nat := mixN (mixN (mixN v 30 * 13787848793156543929 % 18446744073709551616) 27 * 10723151780598845931 % 18446744073709551616) 31
theorem mixN_lt (v k : Nat) (h : v < 18446744073709551616) : mixN v k < 18446744073709551616 :=
  Nat.xor_lt_two_pow (n := 64) h (Nat.lt_of_le_of_lt (Nat.div_le_self _ _) h)
theorem hashN_lt (v : Nat) : hashN v < 18446744073709551616 := mixN_lt _ _ (Nat.mod_lt _ (by decide))

theorem mix_val (v k : Nat) (h : v < 18446744073709551616) : bits .xor .u64 (v : Int) ((v : Int) / 2 ^ k) = ((mixN v k : Nat) : Int) := by
  have : (v : Int) / 2 ^ k = ((v / 2 ^ k : Nat) : Int) := by norm_cast
  rw [this, u64_xor_nat _ _ h (Nat.lt_of_le_of_lt (Nat.div_le_self _ _) h)]
  rfl

theorem mix_any (v : Nat) (c : Int) (w : World) (hv : v < 18446744073709551616) (h0 : 0 ≤ c) (h1 : c ≤ 63) :
    Calls Try.prog 28 #[.int .u64 v, .int .i64 c] w fun e w' => e = .returned (.int .u64 ((mixN v c.toNat : Nat) : Int)) ∧ w = w' := by
  have h2 : (0 : Int) ≤ v := by omega
  have h3 : (v : Int) ≤ 18446744073709551615 := by omega
  have HV := Lib.hid (mix_val v c.toNat hv)
  clear hv
  go_enter Try.func28, Try.ntmps28
  go_wp2
  go_ret
  exact ⟨ret_int HV.out, rfl⟩

/-- An int as 64 bits. -/
def u64N (x : Int) : Nat := (x % 18446744073709551616).toNat
theorem u64N_lt (x : Int) : u64N x < 18446744073709551616 := by unfold u64N; omega
theorem u64N_cast (x : Int) : ((u64N x : Nat) : Int) = x % 18446744073709551616 := by unfold u64N; omega

theorem wrap_u64 (n : Int) : IntKind.u64.wrap n = n % 18446744073709551616 := by simp [IntKind.wrap, IntKind.bits, IntKind.signed]
theorem wrap_u64N (x : Int) : IntKind.u64.wrap x = ((u64N x : Nat) : Int) := by rw [wrap_u64, u64N_cast]
theorem wrap_mul (v c : Nat) : IntKind.u64.wrap ((v : Int) * (c : Int)) = ((v * c % 18446744073709551616 : Nat) : Int) := by rw [wrap_u64]; omega

/-- A number of 64 bits. -/
def U64 (v : Nat) : Prop := v < 18446744073709551616
theorem U64.lt {v : Nat} (h : U64 v) : v < 18446744073709551616 := h
theorem mix_to (v k m : Nat) (c : Int) (w : World) (h : U64 v) (hm : mixN v k = m) (hc : c = k) (hk : k ≤ 63) :
    Calls Try.prog 28 #[.int .u64 v, .int .i64 c] w fun e w' => e = .returned (.int .u64 (m : Int)) ∧ w = w' := by
  subst hc
  have := mix_any v k w h.lt (by omega) (by omega)
  rw [show (k : Int).toNat = k from rfl, hm] at this
  exact this
theorem hash_parts (v : Nat) (h : U64 v) : ∃ m1 m2 m3 m4 : Nat, mixN v 30 = m1 ∧ IntKind.u64.wrap ((m1 : Int) * 13787848793156543929) = (m2 : Int) ∧ U64 m2 ∧
    mixN m2 27 = m3 ∧ IntKind.u64.wrap ((m3 : Int) * 10723151780598845931) = (m4 : Int) ∧ U64 m4 ∧ mixN m4 31 = hashN v :=
  ⟨_, _, _, _, rfl, wrap_mul _ 13787848793156543929, Nat.mod_lt _ (by decide), rfl, wrap_mul _ 10723151780598845931, Nat.mod_lt _ (by decide), rfl⟩
theorem hash_any (x : Int) (w : World) :
    Calls Try.prog 13 #[.int .i64 x] w fun e w' => e = .returned (.int .u64 ((hashN (u64N x) : Nat) : Int)) ∧ w = w' := by
  obtain ⟨m1, m2, m3, m4, h1, e1, u2, h3, e2, u4, h5⟩ := hash_parts (u64N x) (u64N_lt x)
  have C1 := Lib.hid (fun w => mix_to (u64N x) 30 m1 30 w (u64N_lt x) h1 rfl (by decide))
  have C2 := Lib.hid (fun w => mix_to m2 27 m3 27 w u2 h3 rfl (by decide))
  have C3 := Lib.hid (fun w => mix_to m4 31 _ 31 w u4 h5 rfl (by decide))
  have e0 := wrap_u64N x
  clear h1 h3 h5 u2 u4
  generalize u64N x = v at *
  generalize hashN v = r at *
  go_enter Try.func13, Try.ntmps13
  go_wp2_with fail
  refine (C1.out _).mono ?_; rintro e w' ⟨rfl, rfl⟩
  go_wp2_with fail
  refine (C2.out _).mono ?_; rintro e w' ⟨rfl, rfl⟩
  go_wp2_with fail
  refine (C3.out _).mono ?_; rintro e w' ⟨rfl, rfl⟩
  go_wp2
  go_ret
  exact ⟨rfl, rfl⟩

theorem refmix_any (v : Nat) (w : World) (h : U64 v) :
    Calls Try.prog 29 #[.int .u64 v] w fun e w' => e = .returned (.int .u64 ((hashN v : Nat) : Int)) ∧ w = w' := by
  obtain ⟨m1, m2, m3, m4, h1, e1, u2, h3, e2, u4, h5⟩ := hash_parts v h
  have x1 : bits .xor .u64 (v : Int) ((v : Int) / 1073741824) = ((mixN v 30 : Nat) : Int) := mix_val v 30 h
  have x2 : bits .xor .u64 (m2 : Int) ((m2 : Int) / 134217728) = ((mixN m2 27 : Nat) : Int) := mix_val m2 27 u2
  have x3 : bits .xor .u64 (m4 : Int) ((m4 : Int) / 2147483648) = ((mixN m4 31 : Nat) : Int) := mix_val m4 31 u4
  rw [h1] at x1
  rw [h3] at x2
  rw [h5] at x3
  have b0 : (0 : Int) ≤ v := by omega
  have b1 : (v : Int) ≤ 18446744073709551615 := by have := h.lt; omega
  have b2 : (0 : Int) ≤ m2 := by omega
  have b3 : (m2 : Int) ≤ 18446744073709551615 := by have := u2.lt; omega
  have b4 : (0 : Int) ≤ m4 := by omega
  have b5 : (m4 : Int) ≤ 18446744073709551615 := by have := u4.lt; omega
  clear h1 h3 h5 u2 u4 h
  generalize hashN v = r at *
  go_enter Try.func29, Try.ntmps29
  go_wp2
  go_ret
  exact ⟨rfl, rfl⟩
theorem rest_any (v : Nat) (g : Int) (w : World) (h : U64 v) (hg : 1 ≤ g) (hg2 : g ≤ 9223372036854775807) :
    Calls Try.prog 30 #[.int .u64 v, .int .i64 g] w fun e w' => e = .returned (.int .i64 ((v : Int) % g)) ∧ w = w' := by
  have b0 : (0 : Int) ≤ v := by omega
  have b1 : (v : Int) ≤ 18446744073709551615 := by have := h.lt; omega
  have h1 := Int.emod_nonneg (v : Int) (show g ≠ 0 by omega)
  have h2 := Int.emod_lt_of_pos (v : Int) (show 0 < g by omega)
  have HW := Lib.hid (show wrap64 ((v : Int) % g) = (v : Int) % g from wrap64_in (by omega) (by omega))
  clear h h1 h2
  go_enter Try.func30, Try.ntmps30
  go_wp2
  go_ret
  exact ⟨ret_int HW.out, rfl⟩
theorem rest_none (v : Nat) (g : Int) (w : World) (hg : g < 1) :
    Calls Try.prog 30 #[.int .u64 v, .int .i64 g] w fun e w' => e = .returned (.int .i64 0) ∧ w = w' := by
  go_enter Try.func30, Try.ntmps30
  go_wp2
  go_ret
  exact ⟨rfl, rfl⟩

/-- The rest of v by g; 0 where there is none. -/
def restI (v : Nat) (g : Int) : Int := if g < 1 then 0 else (v : Int) % g
theorem restI_no {v : Nat} {g : Int} (h : g < 1) : restI v g = 0 := if_pos h
theorem restI_yes {v : Nat} {g : Int} (h : 1 ≤ g) : restI v g = (v : Int) % g := if_neg (by omega)
theorem restI_in {v : Nat} {g : Int} (h : 1 ≤ g) : 0 ≤ restI v g ∧ restI v g < g := by
  rw [restI_yes h]; exact ⟨Int.emod_nonneg _ (by omega), Int.emod_lt_of_pos _ (by omega)⟩
theorem rest_all (v : Nat) (g : Int) (w : World) (h : U64 v) (hg2 : g ≤ 9223372036854775807) :
    Calls Try.prog 30 #[.int .u64 v, .int .i64 g] w fun e w' => e = .returned (.int .i64 (restI v g)) ∧ w = w' := by
  by_cases hg : g < 1
  · rw [restI_no hg]; exact rest_none v g w hg
  · rw [restI_yes (by omega)]; exact rest_any v g w h (by omega) hg2
theorem refhash_any (x : Int) (w : World) :
    Calls Try.prog 14 #[.int .i64 x] w fun e w' => e = .returned (.int .u64 ((hashN (u64N x) : Nat) : Int)) ∧ w = w' := by
  have e0 := wrap_u64N x
  have C := Lib.hid (fun w => refmix_any (u64N x) w (u64N_lt x))
  generalize u64N x = v at *
  generalize hashN v = r at *
  go_enter Try.func14, Try.ntmps14
  go_wp2_with fail
  refine (C.out _).mono ?_; rintro e w' ⟨rfl, rfl⟩
  go_wp2
  go_ret
  exact ⟨rfl, rfl⟩
theorem shard_any (x g : Int) (w : World) (hg2 : g ≤ 9223372036854775807) :
    Calls Try.prog 15 #[.int .i64 x, .int .i64 g] w fun e w' => e = .returned (.int .i64 (restI (hashN (u64N x)) g)) ∧ w = w' := by
  have C1 := Lib.hid (fun w => hash_any x w)
  have C2 := Lib.hid (fun w => rest_all (hashN (u64N x)) g w (hashN_lt _) hg2)
  generalize hashN (u64N x) = r at *
  generalize restI r g = z at *
  go_enter Try.func15, Try.ntmps15
  go_wp2_with fail
  refine (C1.out _).mono ?_; rintro e w' ⟨rfl, rfl⟩
  go_wp2_with fail
  refine (C2.out _).mono ?_; rintro e w' ⟨rfl, rfl⟩
  go_wp2
  go_ret
  exact ⟨rfl, rfl⟩
theorem refshard_any (x g : Int) (w : World) (hg2 : g ≤ 9223372036854775807) :
    Calls Try.prog 16 #[.int .i64 x, .int .i64 g] w fun e w' => e = .returned (.int .i64 (restI (hashN (u64N x)) g)) ∧ w = w' := by
  have C1 := Lib.hid (fun w => refhash_any x w)
  have hu : U64 (hashN (u64N x)) := hashN_lt _
  have hl := hu.lt
  generalize hashN (u64N x) = r at *
  by_cases hg : g < 1
  · rw [restI_no hg]
    clear hl hu
    go_enter Try.func16, Try.ntmps16
    go_wp2
    go_ret
    exact ⟨rfl, rfl⟩
  · have b0 : (0 : Int) ≤ r := by omega
    have b1 : (r : Int) ≤ 18446744073709551615 := by omega
    have b2 : 1 ≤ g := by omega
    have h1 := Int.emod_nonneg (r : Int) (show g ≠ 0 by omega)
    have h2 := Int.emod_lt_of_pos (r : Int) (show 0 < g by omega)
    have HW := Lib.hid (show wrap64 ((r : Int) % g) = (r : Int) % g from wrap64_in (by omega) (by omega))
    have HR := Lib.hid (@restI_yes r g b2)
    generalize restI r g = z at *
    clear h1 h2 hl hu hg
    go_enter Try.func16, Try.ntmps16
    go_wp2_with fail
    refine (C1.out _).mono ?_; rintro e w' ⟨rfl, rfl⟩
    go_wp2
    go_ret
    exact ⟨ret_int (by rw [HR.out]; exact HW.out), rfl⟩
def listN (l t : Int) : Nat := (u64N l + u64N t) % 18446744073709551616
theorem listN_lt (l t : Int) : U64 (listN l t) := Nat.mod_lt _ (by decide)
theorem list_val (l t : Int) : IntKind.u64.wrap (((u64N l : Nat) : Int) + ((u64N t : Nat) : Int)) = ((listN l t : Nat) : Int) := by
  rw [wrap_u64]; unfold listN; omega
theorem list_any (l t g : Int) (w : World) (hg2 : g ≤ 9223372036854775807) :
    Calls Try.prog 17 #[.int .i64 l, .int .i64 t, .int .i64 g] w fun e w' => e = .returned (.int .i64 (restI (listN l t) g)) ∧ w = w' := by
  have e0 := wrap_u64N l
  have e1 := wrap_u64N t
  have e2 := list_val l t
  have C2 := Lib.hid (fun w => rest_all (listN l t) g w (listN_lt _ _) hg2)
  generalize restI (listN l t) g = z at *
  generalize listN l t = r at *
  generalize u64N l = a at *
  generalize u64N t = b at *
  go_enter Try.func17, Try.ntmps17
  go_wp2_with fail
  refine (C2.out _).mono ?_; rintro e w' ⟨rfl, rfl⟩
  go_wp2
  go_ret
  exact ⟨rfl, rfl⟩
theorem reflist_any (l t g : Int) (w : World) (hg2 : g ≤ 9223372036854775807) :
    Calls Try.prog 18 #[.int .i64 l, .int .i64 t, .int .i64 g] w fun e w' => e = .returned (.int .i64 (restI (listN l t) g)) ∧ w = w' := by
  have e0 := wrap_u64N l
  have e1 := wrap_u64N t
  have e2 := list_val l t
  have hl := (listN_lt l t).lt
  by_cases hg : g < 1
  · rw [restI_no hg]
    clear hl e2
    go_enter Try.func18, Try.ntmps18
    go_wp2
    go_ret
    exact ⟨rfl, rfl⟩
  · generalize listN l t = r at *
    generalize u64N l = a at *
    generalize u64N t = b at *
    have b0 : (0 : Int) ≤ r := by omega
    have b1 : (r : Int) ≤ 18446744073709551615 := by omega
    have b2 : 1 ≤ g := by omega
    have h1 := Int.emod_nonneg (r : Int) (show g ≠ 0 by omega)
    have h2 := Int.emod_lt_of_pos (r : Int) (show 0 < g by omega)
    have HW := Lib.hid (show wrap64 ((r : Int) % g) = (r : Int) % g from wrap64_in (by omega) (by omega))
    have HR := Lib.hid (@restI_yes r g b2)
    generalize restI r g = z at *
    clear h1 h2 hl hg
    go_enter Try.func18, Try.ntmps18
    go_wp2
    go_ret
    exact ⟨ret_int (by rw [HR.out]; exact HW.out), rfl⟩
end Go.Proofs.Ytjgccgfabacbkaa
