/- The reference's Token; Of, both; Less, both. -/
import Derived.Test.YtjgccgfabacbkaaId
namespace Go.Proofs.Ytjgccgfabacbkaa
open Go.RowKit

def fitB (x m : Int) : Bool := decide (0 ≤ x ∧ x < m)
theorem fitB_iff {x m : Int} : fitB x m = true ↔ 0 ≤ x ∧ x < m := by simp [fitB]
theorem fits_20 (x : Int) (w : World) :
    Calls Try.prog 34 #[.int .i64 x, .int .u64 20] w fun e w' => e = .returned (.bool (fitB x 1048576)) ∧ w = w' := by
  by_cases h0 : x < 0
  · have hf : fitB x 1048576 = false := by unfold fitB; simp; intro h; omega
    rw [hf]
    clear hf
    go_enter Try.func34, Try.ntmps34
    go_wp2
    go_ret
    exact ⟨rfl, rfl⟩
  · have h1 : 0 ≤ x := by omega
    have hf : Hid (decide (x < 1048576) = fitB x 1048576) := Lib.hid (by unfold fitB; simp; intro h; omega)
    clear h0
    go_enter Try.func34, Try.ntmps34
    go_wp2
    go_ret
    exact ⟨by show Ending.returned (.bool _) = _; rw [hf.out], rfl⟩
theorem fits_16 (x : Int) (w : World) :
    Calls Try.prog 34 #[.int .i64 x, .int .u64 16] w fun e w' => e = .returned (.bool (fitB x 65536)) ∧ w = w' := by
  by_cases h0 : x < 0
  · have hf : fitB x 65536 = false := by unfold fitB; simp; intro h; omega
    rw [hf]
    clear hf
    go_enter Try.func34, Try.ntmps34
    go_wp2
    go_ret
    exact ⟨rfl, rfl⟩
  · have h1 : 0 ≤ x := by omega
    have hf : Hid (decide (x < 65536) = fitB x 65536) := Lib.hid (by unfold fitB; simp; intro h; omega)
    clear h0
    go_enter Try.func34, Try.ntmps34
    go_wp2
    go_ret
    exact ⟨by show Ending.returned (.bool _) = _; rw [hf.out], rfl⟩
theorem fits_12 (x : Int) (w : World) :
    Calls Try.prog 34 #[.int .i64 x, .int .u64 12] w fun e w' => e = .returned (.bool (fitB x 4096)) ∧ w = w' := by
  by_cases h0 : x < 0
  · have hf : fitB x 4096 = false := by unfold fitB; simp; intro h; omega
    rw [hf]
    clear hf
    go_enter Try.func34, Try.ntmps34
    go_wp2
    go_ret
    exact ⟨rfl, rfl⟩
  · have h1 : 0 ≤ x := by omega
    have hf : Hid (decide (x < 4096) = fitB x 4096) := Lib.hid (by unfold fitB; simp; intro h; omega)
    clear h0
    go_enter Try.func34, Try.ntmps34
    go_wp2
    go_ret
    exact ⟨by show Ending.returned (.bool _) = _; rw [hf.out], rfl⟩

theorem fits_of {k : Tok} (h1 : fitB k.f 1048576 = true) (h2 : fitB k.r 65536 = true) (h3 : fitB k.e 65536 = true) (h4 : fitB k.t 4096 = true) : k.fits :=
  ⟨fitB_iff.1 h1, fitB_iff.1 h2, fitB_iff.1 h3, fitB_iff.1 h4⟩
theorem ref_val (k : Tok) : bits .or .u64 (bits .or .u64 (bits .or .u64 (IntKind.u64.wrap (((u64N k.f : Nat) : Int) * 17592186044416)) (IntKind.u64.wrap (((u64N k.r : Nat) : Int) * 268435456))) (IntKind.u64.wrap (((u64N k.e : Nat) : Int) * 4096))) ((u64N k.t : Nat) : Int) = ((packN k : Nat) : Int) := by
  have := pack_val (u64N k.f) (u64N k.r) (u64N k.e) (u64N k.t)
  rw [show IntKind.u64.wrap ((u64N k.t : Nat) : Int) = ((u64N k.t : Nat) : Int) by rw [wrap_u64]; have := u64N_lt k.t; omega] at this
  exact this

set_option maxRecDepth 100000 in
set_option maxHeartbeats 4000000 in
theorem reftoken_any (k : Tok) (w : World) :
    Calls Try.prog 22 #[.agg k.cs] w fun e w' => e = .returned (.int .u64 ((tokN k : Nat) : Int)) ∧ Fr (fun _ => False) w w' := by
  have C1 := Lib.hid (fun w => fits_20 k.f w)
  have C2 := Lib.hid (fun w => fits_16 k.r w)
  have C3 := Lib.hid (fun w => fits_16 k.e w)
  have C4 := Lib.hid (fun w => fits_12 k.t w)
  have e1 := wrap_u64N k.f
  have e2 := wrap_u64N k.r
  have e3 := wrap_u64N k.e
  have e4 := wrap_u64N k.t
  have HV := Lib.hid (ref_val k)
  have HN : Hid ((fitB k.f 1048576 = true → fitB k.r 65536 = true → fitB k.e 65536 = true → fitB k.t 4096 = true → ¬ k.none → False) → tokN k = 0) := Lib.hid fun h => if_neg fun ⟨a, b⟩ =>
    h (fitB_iff.2 a.1) (fitB_iff.2 a.2.1) (fitB_iff.2 a.2.2.1) (fitB_iff.2 a.2.2.2) b
  have HY : Hid (fitB k.f 1048576 = true → fitB k.r 65536 = true → fitB k.e 65536 = true → fitB k.t 4096 = true → ¬ k.none → tokN k = packN k) := Lib.hid fun a b c d h => if_pos ⟨fits_of a b c d, h⟩
  generalize packN k = p at *
  generalize tokN k = q at *
  obtain ⟨f, r, e, t⟩ := k
  simp only [Tok.cs, Tok.none] at *
  cases b1 : fitB f 1048576
  · obtain rfl := HN.out (fun h => by rw [b1] at h; cases h)
    rw [b1] at C1
    clear HN HY b1 HV
    go_enter Try.func22, Try.ntmps22
    go_wp2_with fail
    refine (C1.out _).mono ?_; rintro e2 w1 ⟨rfl, rfl⟩
    go_wp2
    go_ret
    exact ⟨rfl, (Fr.refl _ _).alloc _⟩
  cases b2 : fitB r 65536
  · obtain rfl := HN.out (fun _ h => by rw [b2] at h; cases h)
    rw [b1] at C1
    rw [b2] at C2
    clear HN HY b1 b2 HV
    go_enter Try.func22, Try.ntmps22
    go_wp2_with fail
    refine (C1.out _).mono ?_; rintro e2 w1 ⟨rfl, rfl⟩
    go_wp2_with fail
    refine (C2.out _).mono ?_; rintro e2 w1 ⟨rfl, rfl⟩
    go_wp2
    go_ret
    exact ⟨rfl, (Fr.refl _ _).alloc _⟩
  cases b3 : fitB e 65536
  · obtain rfl := HN.out (fun _ _ h => by rw [b3] at h; cases h)
    rw [b1] at C1
    rw [b2] at C2
    rw [b3] at C3
    clear HN HY b1 b2 b3 HV
    go_enter Try.func22, Try.ntmps22
    go_wp2_with fail
    refine (C1.out _).mono ?_; rintro e2 w1 ⟨rfl, rfl⟩
    go_wp2_with fail
    refine (C2.out _).mono ?_; rintro e2 w1 ⟨rfl, rfl⟩
    go_wp2_with fail
    refine (C3.out _).mono ?_; rintro e2 w1 ⟨rfl, rfl⟩
    go_wp2
    go_ret
    exact ⟨rfl, (Fr.refl _ _).alloc _⟩
  cases b4 : fitB t 4096
  · obtain rfl := HN.out (fun _ _ _ h => by rw [b4] at h; cases h)
    rw [b1] at C1
    rw [b2] at C2
    rw [b3] at C3
    rw [b4] at C4
    clear HN HY b1 b2 b3 b4 HV
    go_enter Try.func22, Try.ntmps22
    go_wp2_with fail
    refine (C1.out _).mono ?_; rintro e2 w1 ⟨rfl, rfl⟩
    go_wp2_with fail
    refine (C2.out _).mono ?_; rintro e2 w1 ⟨rfl, rfl⟩
    go_wp2_with fail
    refine (C3.out _).mono ?_; rintro e2 w1 ⟨rfl, rfl⟩
    go_wp2_with fail
    refine (C4.out _).mono ?_; rintro e2 w1 ⟨rfl, rfl⟩
    go_wp2
    go_ret
    exact ⟨rfl, (Fr.refl _ _).alloc _⟩
  have hz : ((f == 0) = false ∧ q = p) ∨ ((f == 0) = true ∧ (r == 0) = false ∧ q = p) ∨ ((f == 0) = true ∧ (r == 0) = true ∧ q = 0) := by
    simp only [beq_iff_eq, beq_eq_false_iff_ne]
    by_cases g1 : f = 0
    · by_cases g2 : r = 0
      · exact .inr (.inr ⟨g1, g2, HN.out (fun _ _ _ _ h => h ⟨g1, g2⟩)⟩)
      · exact .inr (.inl ⟨g1, g2, HY.out b1 b2 b3 b4 (fun h => g2 h.2)⟩)
    · exact .inl ⟨g1, HY.out b1 b2 b3 b4 (fun h => g1 h.1)⟩
  rw [b1] at C1
  rw [b2] at C2
  rw [b3] at C3
  rw [b4] at C4
  clear HN HY b1 b2 b3 b4
  rcases hz with ⟨g1, rfl⟩ | ⟨g1, g2, rfl⟩ | ⟨g1, g2, rfl⟩
  all_goals
    go_enter Try.func22, Try.ntmps22
    go_wp2_with fail
    refine (C1.out _).mono ?_; rintro e2 w1 ⟨rfl, rfl⟩
    go_wp2_with fail
    refine (C2.out _).mono ?_; rintro e2 w1 ⟨rfl, rfl⟩
    go_wp2_with fail
    refine (C3.out _).mono ?_; rintro e2 w1 ⟨rfl, rfl⟩
    go_wp2_with fail
    refine (C4.out _).mono ?_; rintro e2 w1 ⟨rfl, rfl⟩
    go_wp2
    go_ret
    first
      | exact ⟨rfl, (Fr.refl _ _).alloc _⟩
      | exact ⟨ret_int HV.out, (Fr.refl _ _).alloc _⟩
end Go.Proofs.Ytjgccgfabacbkaa
