/- Blocks of task numbers. -/
import Derived.Test.YtjgccgfabacbkaaIa
namespace Go.Proofs.Ytjgccgfabacbkaa
open Go.RowKit

def rngB (n : Int) : Bool := decide (0 ≤ n ∧ n ≤ 1099511627776)
def sizB (n : Int) : Bool := decide (1 ≤ n ∧ n ≤ 1048576)
theorem rngB_yes {n : Int} (h : rngB n = true) : 0 ≤ n ∧ n ≤ 1099511627776 := by simpa [rngB] using h
theorem sizB_yes {n : Int} (h : sizB n = true) : 1 ≤ n ∧ n ≤ 1048576 := by simpa [sizB] using h
theorem rngB_no {n : Int} (h : rngB n = false) : n < 0 ∨ 1099511627776 < n := by simp [rngB] at h; omega
theorem sizB_no {n : Int} (h : sizB n = false) : n < 1 ∨ 1048576 < n := by simp [sizB] at h; omega
theorem rngB_mk {n : Int} (h : 0 ≤ n ∧ n ≤ 1099511627776) : rngB n = true := by simpa [rngB] using h
theorem sizB_mk {n : Int} (h : 1 ≤ n ∧ n ≤ 1048576) : sizB n = true := by simpa [sizB] using h

theorem isRange_any (n : Int) (w : World) :
    Calls Try.prog 25 #[.int .i64 n] w fun e w' => e = .returned (.bool (rngB n)) ∧ w = w' := by
  cases hr : rngB n with
  | true =>
    obtain ⟨h1, h2⟩ := rngB_yes hr
    clear hr
    go_enter Try.func25, Try.ntmps25
    go_wp2
    go_ret
    exact ⟨rfl, rfl⟩
  | false =>
    rcases rngB_no hr with h1 | h1
    · clear hr
      go_enter Try.func25, Try.ntmps25
      go_wp2
      go_ret
      exact ⟨rfl, rfl⟩
    · have h0 : 0 ≤ n := by omega
      have h2 : decide (n ≤ 1099511627776) = false := by simp; omega
      clear hr
      go_enter Try.func25, Try.ntmps25
      go_wp2
      go_ret
      exact ⟨rfl, rfl⟩
theorem isSize_any (n : Int) (w : World) :
    Calls Try.prog 26 #[.int .i64 n] w fun e w' => e = .returned (.bool (sizB n)) ∧ w = w' := by
  cases hr : sizB n with
  | true =>
    obtain ⟨h1, h2⟩ := sizB_yes hr
    clear hr
    go_enter Try.func26, Try.ntmps26
    go_wp2
    go_ret
    exact ⟨rfl, rfl⟩
  | false =>
    rcases sizB_no hr with h1 | h1
    · clear hr
      go_enter Try.func26, Try.ntmps26
      go_wp2
      go_ret
      exact ⟨rfl, rfl⟩
    · have h0 : 1 ≤ n := by omega
      have h2 : decide (n ≤ 1048576) = false := by simp; omega
      clear hr
      go_enter Try.func26, Try.ntmps26
      go_wp2
      go_ret
      exact ⟨rfl, rfl⟩
theorem right_any (n : Int) (w : World) :
    Calls Try.prog 27 #[.int .i64 n] w fun e w' => e = .returned (.bool (sizB n)) ∧ w = w' := by
  cases hr : sizB n with
  | true =>
    obtain ⟨h1, h2⟩ := sizB_yes hr
    clear hr
    go_enter Try.func27, Try.ntmps27
    go_wp2
    go_ret
    exact ⟨rfl, rfl⟩
  | false =>
    rcases sizB_no hr with h1 | h1
    · clear hr
      go_enter Try.func27, Try.ntmps27
      go_wp2
      go_ret
      exact ⟨rfl, rfl⟩
    · have h0 : 1 ≤ n := by omega
      have h2 : decide (n ≤ 1048576) = false := by simp; omega
      clear hr
      go_enter Try.func27, Try.ntmps27
      go_wp2
      go_ret
      exact ⟨rfl, rfl⟩

/-- A block: its beginning, its end, the number of the fault. -/
def blockOf (r s : Int) : Int × Int × Int := if rngB r = true ∧ sizB s = true then (r * s, r * s + s, 0) else (0, 0, 1)
theorem prod_in {r s : Int} (h1 : 0 ≤ r) (h2 : r ≤ 1099511627776) (h3 : 1 ≤ s) (h4 : s ≤ 1048576) : 0 ≤ r * s ∧ r * s ≤ 1152921504606846976 :=
  ⟨Int.mul_nonneg h1 (by omega), Int.le_trans (Int.mul_le_mul h2 h4 (by omega) (by omega)) (by decide)⟩

theorem ret3 {a b c a' b' c' : Int} (h1 : a = a') (h2 : b = b') (h3 : c = c') : Ending.returned (.tuple #[.int .i64 a, .int .i64 b, .int .i64 c]) = .returned (.tuple #[.int .i64 a', .int .i64 b', .int .i64 c']) := by rw [h1, h2, h3]

theorem block_any (r s : Int) (w : World) :
    Calls Try.prog 9 #[.int .i64 r, .int .i64 s] w fun e w' => e = .returned (.tuple #[.int .i64 (blockOf r s).1, .int .i64 (blockOf r s).2.1, .int .i64 (blockOf r s).2.2]) ∧ w = w' := by
  have C1 := Lib.hid (fun w => isRange_any r w)
  have C2 := Lib.hid (fun w => isSize_any s w)
  cases hr : rngB r with
  | false =>
    have hb : blockOf r s = (0, 0, 1) := if_neg (by rw [hr]; simp)
    rw [hb]
    rw [hr] at C1
    clear hr hb C2
    go_enter Try.func9, Try.ntmps9
    go_wp2_with fail
    refine (C1.out _).mono ?_; rintro e w' ⟨rfl, rfl⟩
    go_wp2
    go_ret3
    exact ⟨rfl, rfl⟩
  | true =>
    cases hs : sizB s with
    | false =>
      have hb : blockOf r s = (0, 0, 1) := if_neg (by rw [hs]; simp)
      rw [hb]
      rw [hr] at C1
      rw [hs] at C2
      clear hr hs hb
      go_enter Try.func9, Try.ntmps9
      go_wp2_with fail
      refine (C1.out _).mono ?_; rintro e w' ⟨rfl, rfl⟩
      go_wp2_with fail
      refine (C2.out _).mono ?_; rintro e w' ⟨rfl, rfl⟩
      go_wp2
      go_ret3
      exact ⟨rfl, rfl⟩
    | true =>
      have hb := Lib.hid (show blockOf r s = (r * s, r * s + s, 0) from if_pos ⟨hr, hs⟩)
      obtain ⟨a1, a2⟩ := rngB_yes hr
      obtain ⟨a3, a4⟩ := sizB_yes hs
      obtain ⟨p1, p2⟩ := prod_in a1 a2 a3 a4
      rw [hr] at C1
      rw [hs] at C2
      clear hr hs
      go_enter Try.func9, Try.ntmps9
      go_wp2_with fail
      refine (C1.out _).mono ?_; rintro e w' ⟨rfl, rfl⟩
      go_wp2_with fail
      refine (C2.out _).mono ?_; rintro e w' ⟨rfl, rfl⟩
      go_wp2
      go_ret3
      rw [hb.out]
      exact ⟨rfl, rfl⟩

theorem refblock_any (r s : Int) (w : World) :
    Calls Try.prog 10 #[.int .i64 r, .int .i64 s] w fun e w' => e = .returned (.tuple #[.int .i64 (blockOf r s).1, .int .i64 (blockOf r s).2.1, .int .i64 (blockOf r s).2.2]) ∧ w = w' := by
  have C2 := Lib.hid (fun w => right_any s w)
  by_cases h0 : r < 0
  · have hb : blockOf r s = (0, 0, 1) := if_neg (by rintro ⟨h, _⟩; have := rngB_yes h; omega)
    rw [hb]
    clear hb C2
    go_enter Try.func10, Try.ntmps10
    go_wp2
    go_ret3
    exact ⟨rfl, rfl⟩
  · have h0 : 0 ≤ r := by omega
    cases hs : sizB s with
    | false =>
      have hb : blockOf r s = (0, 0, 1) := if_neg (by rw [hs]; simp)
      rw [hb]
      rw [hs] at C2
      clear hs hb
      go_enter Try.func10, Try.ntmps10
      go_wp2_with fail
      refine (C2.out _).mono ?_; rintro e w' ⟨rfl, rfl⟩
      go_wp2
      go_ret3
      exact ⟨rfl, rfl⟩
    | true =>
      rw [hs] at C2
      by_cases h1 : 1099511627776 < r
      · have hb : blockOf r s = (0, 0, 1) := if_neg (by rintro ⟨h, _⟩; have := rngB_yes h; omega)
        rw [hb]
        clear hs hb
        go_enter Try.func10, Try.ntmps10
        go_wp2_with fail
        refine (C2.out _).mono ?_; rintro e w' ⟨rfl, rfl⟩
        go_wp2
        go_ret3
        exact ⟨rfl, rfl⟩
      · have h2 : r ≤ 1099511627776 := by omega
        have hb := Lib.hid (show blockOf r s = (r * s, r * s + s, 0) from if_pos ⟨rngB_mk ⟨h0, h2⟩, hs⟩)
        obtain ⟨a3, a4⟩ := sizB_yes hs
        obtain ⟨p1, p2⟩ := prod_in h0 h2 a3 a4
        clear hs h1
        go_enter Try.func10, Try.ntmps10
        go_wp2_with fail
        refine (C2.out _).mono ?_; rintro e w' ⟨rfl, rfl⟩
        go_wp2
        go_ret3
        rw [hb.out]
        exact ⟨rfl, rfl⟩

/-- The range that owns a number, and the number of the fault. -/
def ownerOf (i s : Int) : Int × Int := if 0 ≤ i ∧ sizB s = true ∧ rngB (i / s) = true then (i / s, 0) else (0, 1)
theorem div_in {i s : Int} (h1 : 0 ≤ i) (h2 : i ≤ 9223372036854775807) (h3 : 1 ≤ s) : 0 ≤ i / s ∧ i / s ≤ 9223372036854775807 :=
  ⟨Int.ediv_nonneg h1 (by omega), Int.le_trans (Int.ediv_le_self _ h1) h2⟩

theorem owner_any (i s : Int) (w : World) (hi : i ≤ 9223372036854775807) :
    Calls Try.prog 11 #[.int .i64 i, .int .i64 s] w fun e w' => e = .returned (.tuple #[.int .i64 (ownerOf i s).1, .int .i64 (ownerOf i s).2]) ∧ w = w' := by
  have C1 := Lib.hid (fun w => isRange_any (i / s) w)
  have C2 := Lib.hid (fun w => isSize_any s w)
  by_cases h0 : i < 0
  · have hb : ownerOf i s = (0, 1) := if_neg (by rintro ⟨h, _⟩; omega)
    rw [hb]
    clear hb C2 C1
    go_enter Try.func11, Try.ntmps11
    go_wp2
    go_ret2
    exact ⟨rfl, rfl⟩
  · have h0 : 0 ≤ i := by omega
    cases hs : sizB s with
    | false =>
      have hb : ownerOf i s = (0, 1) := if_neg (by rw [hs]; simp)
      rw [hb]
      rw [hs] at C2
      clear hs hb C1
      go_enter Try.func11, Try.ntmps11
      go_wp2_with fail
      refine (C2.out _).mono ?_; rintro e w' ⟨rfl, rfl⟩
      go_wp2
      go_ret2
      exact ⟨rfl, rfl⟩
    | true =>
      obtain ⟨a3, a4⟩ := sizB_yes hs
      obtain ⟨p1, p2⟩ := div_in h0 hi a3
      rw [hs] at C2
      cases hr : rngB (i / s) with
      | false =>
        have hb : ownerOf i s = (0, 1) := if_neg (by rw [hr]; simp)
        rw [hb]
        rw [hr] at C1
        clear hs hb hr
        go_enter Try.func11, Try.ntmps11
        go_wp2_with fail
        refine (C2.out _).mono ?_; rintro e w' ⟨rfl, rfl⟩
        go_wp2_with fail
        refine (C1.out _).mono ?_; rintro e w' ⟨rfl, rfl⟩
        go_wp2
        go_ret2
        exact ⟨rfl, rfl⟩
      | true =>
        have hb := Lib.hid (show ownerOf i s = (i / s, 0) from if_pos ⟨h0, hs, hr⟩)
        rw [hr] at C1
        clear hs hr
        go_enter Try.func11, Try.ntmps11
        go_wp2_with fail
        refine (C2.out _).mono ?_; rintro e w' ⟨rfl, rfl⟩
        go_wp2_with fail
        refine (C1.out _).mono ?_; rintro e w' ⟨rfl, rfl⟩
        go_wp2
        go_ret2
        rw [hb.out]
        exact ⟨rfl, rfl⟩
theorem refowner_any (i s : Int) (w : World) (hi : i ≤ 9223372036854775807) :
    Calls Try.prog 12 #[.int .i64 i, .int .i64 s] w fun e w' => e = .returned (.tuple #[.int .i64 (ownerOf i s).1, .int .i64 (ownerOf i s).2]) ∧ w = w' := by
  have C2 := Lib.hid (fun w => right_any s w)
  by_cases h0 : i < 0
  · have hb : ownerOf i s = (0, 1) := if_neg (by rintro ⟨h, _⟩; omega)
    rw [hb]
    clear hb C2
    go_enter Try.func12, Try.ntmps12
    go_wp2
    go_ret2
    exact ⟨rfl, rfl⟩
  · have h0 : 0 ≤ i := by omega
    cases hs : sizB s with
    | false =>
      have hb : ownerOf i s = (0, 1) := if_neg (by rw [hs]; simp)
      rw [hb]
      rw [hs] at C2
      clear hs hb
      go_enter Try.func12, Try.ntmps12
      go_wp2_with fail
      refine (C2.out _).mono ?_; rintro e w' ⟨rfl, rfl⟩
      go_wp2
      go_ret2
      exact ⟨rfl, rfl⟩
    | true =>
      obtain ⟨a3, a4⟩ := sizB_yes hs
      obtain ⟨p1, p2⟩ := div_in h0 hi a3
      rw [hs] at C2
      cases hr : rngB (i / s) with
      | false =>
        have hb : ownerOf i s = (0, 1) := if_neg (by rw [hr]; simp)
        rw [hb]
        have h5 : 1099511627776 < i / s := by have := rngB_no hr; omega
        clear hs hb hr
        go_enter Try.func12, Try.ntmps12
        go_wp2_with fail
        refine (C2.out _).mono ?_; rintro e w' ⟨rfl, rfl⟩
        go_wp2
        go_ret2
        exact ⟨rfl, rfl⟩
      | true =>
        have hb := Lib.hid (show ownerOf i s = (i / s, 0) from if_pos ⟨h0, hs, hr⟩)
        have h5 : i / s ≤ 1099511627776 := (rngB_yes hr).2
        clear hs hr
        go_enter Try.func12, Try.ntmps12
        go_wp2_with fail
        refine (C2.out _).mono ?_; rintro e w' ⟨rfl, rfl⟩
        go_wp2
        go_ret2
        rw [hb.out]
        exact ⟨rfl, rfl⟩
end Go.Proofs.Ytjgccgfabacbkaa
