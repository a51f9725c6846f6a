/- The reference's Last, Term, Match, Newer. -/
import Derived.Test.YtainkckcipdknaaQm
namespace Go.Proofs.Ytainkckcipdknaa
open Go.RowKit

set_option maxRecDepth 100000 in
set_option maxHeartbeats 1000000 in
theorem refLast {w : World} {g : Nat} {s : LG} {F : Nat → Prop} (h : Lg 41 68 w g s F) : Calls Try.prog 32 #[.pointer (some ⟨g, 0, none⟩)] w fun e w' => e = .returned (.tuple #[.int .i64 s.lastI, .int .i64 s.lastT]) ∧ Fr (fun _ => False) w w' := by
  obtain ⟨v, ps, h1, _, _⟩ := h
  obtain ⟨A, c, rfl, hnc, hcm, hA⟩ := h1.form
  have c0 := h1.c0
  have c1 := h1.c1
  have c2 := h1.c2
  have hok := h1.ok
  have b1 := hok.i1
  have b2 := hok.l1
  by_cases hn : 0 < s.l.length
  · obtain ⟨b, off, rfl⟩ := hA hn
    have ce := h1.ec (i := s.l.length - 1) (by omega)
    have HI : Hid (s.lastI = (s.ix : Int) + (s.l.length : Int)) := Lib.hid rfl
    have HT := Lib.hid (s.lastT_at hn)
    generalize hm : s.l.length = n at *
    generalize (s.l.getD (n - 1) default).t = tt at *
    generalize s.ix = ix at *
    generalize s.tm = tm at *
    have e1 : ((n : Int) - 1) = ((n - 1 : Nat) : Int) := by omega
    have hn1 : (0 : Int) < (n : Int) := by omega
    have hn2 : (n : Int) ≤ 5000000000000 := by omega
    have hx2 : (ix : Int) ≤ 20000000000000 := by omega
    have d1 : ((n : Int) == 0) = false := by rw [beq_eq_false_iff_ne]; omega
    have d2 : ¬ ((n : Int) = 0) := by omega
    clear h1 hok hA
    have hlt : n - 1 < n := by omega
    generalize n - 1 = m at *
    go_enter Try.func32, Try.ntmps32
    go_wp2_with fail
    go_quiet (fail)
    go_wp2
    go_ret2
    rw [HI.out, HT.out]
    exact ⟨rfl, (Fr.refl _ _).drewN _⟩
  · have hn0 : s.l.length = 0 := by omega
    have HI : Hid (s.lastI = (s.ix : Int)) := Lib.hid (by unfold LG.lastI; omega)
    have HT := Lib.hid (s.lastT_nil hn0)
    rw [hn0] at c2
    generalize s.ix = ix at *
    generalize s.tm = tm at *
    clear h1 hok hA
    go_enter Try.func32, Try.ntmps32
    go_wp2_with fail
    go_quiet (fail)
    go_wp2
    go_ret2
    rw [HI.out, HT.out]
    exact ⟨rfl, (Fr.refl _ _).drewN _⟩

set_option maxRecDepth 100000 in
set_option maxHeartbeats 2000000 in
theorem refTerm {w : World} {g : Nat} {s : LG} {F : Nat → Prop} (h : Lg 41 68 w g s F) (i : Int) (i0 : -9223372036854775808 ≤ i) (i1 : i ≤ 9223372036854775807) :
    Calls Try.prog 16 #[.pointer (some ⟨g, 0, none⟩), .int .i64 i] w fun e w' => e = .returned (.tuple #[.int .i64 (s.term i), .bool (s.is i)]) ∧ Fr (fun _ => False) w w' := by
  obtain ⟨v, ps, h1, _, _⟩ := h
  obtain ⟨A, c, rfl, hnc, hcm, hA⟩ := h1.form
  have c0 := h1.c0
  have c1 := h1.c1
  have c2 := h1.c2
  have hok := h1.ok
  have b1 := hok.i1
  have b2 := hok.l1
  by_cases hi : i = s.ix
  · subst hi
    have HT := Lib.hid s.term_self
    have HI := Lib.hid s.is_self
    generalize s.ix = ix at *
    generalize s.tm = tm at *
    clear h1 hok hA c2
    go_enter Try.func16, Try.ntmps16
    go_wp2
    go_ret2
    rw [HI.out, HT.out]
    exact ⟨rfl, Fr.refl _ _⟩
  · have d0 : (i == (s.ix : Int)) = false := by simpa using hi
    by_cases hlo : i < (s.ix : Int)
    · have hh : s.has i = false := by unfold LG.has; simp; omega
      have HT := Lib.hid (LG.term_not hi hh)
      generalize s.ix = ix at *
      clear h1 hok hA c2 c1 hh
      go_enter Try.func16, Try.ntmps16
      go_wp2_with fail
      go_quiet (fail)
      go_wp2
      go_ret2
      rw [HT.out.1, HT.out.2]
      exact ⟨rfl, (Fr.refl _ _).drewN _⟩
    · have dlo : decide (i < (s.ix : Int)) = false := decide_eq_false hlo
      obtain ⟨n, hn⟩ : ∃ n, s.l.length = n := ⟨_, rfl⟩
      have hn2 : (n : Int) ≤ 5000000000000 := by omega
      have hx2 : (s.ix : Int) ≤ 20000000000000 := by omega
      by_cases hhi : (s.ix : Int) + (n : Int) < i
      · have hh : s.has i = false := by unfold LG.has; simp; omega
        have HT := Lib.hid (LG.term_not hi hh)
        rw [hn] at c2
        generalize s.ix = ix at *
        clear h1 hok hA c1 hh b1 b2 hnc hn
        go_enter Try.func16, Try.ntmps16
        go_wp2_with fail
        go_quiet (fail)
        go_wp2
        go_ret2
        rw [HT.out.1, HT.out.2]
        exact ⟨rfl, (Fr.refl _ _).drewN _⟩
      · have hh : s.has i = true := by unfold LG.has; simp; omega
        have dhi : decide ((s.ix : Int) + (n : Int) < i) = false := decide_eq_false hhi
        have HT := Lib.hid (LG.term_has hh)
        have HI := Lib.hid (LG.is_of_has hh)
        obtain ⟨b, off, rfl⟩ := hA (by omega)
        have hk : (i - s.ix - 1).toNat < s.l.length := by omega
        have ce := h1.ec hk
        have e2 : i - (s.ix : Int) - 1 = ((i - s.ix - 1).toNat : Int) := by omega
        generalize (i - s.ix - 1).toNat = k at *
        generalize (s.l.getD k default).t = tt at *
        rw [hn] at c2 hk hnc b1 b2
        generalize s.ix = ix at *
        obtain ⟨j1, e1⟩ : ∃ j, i - (ix : Int) = j := ⟨_, rfl⟩
        rw [e1] at e2
        have hj1 : 1 ≤ j1 := by omega
        have hj2 : j1 ≤ 5000000000000 := by omega
        have hkI : (k : Int) < (n : Int) := by omega
        clear h1 hok hA c1 hh hi hn
        go_enter Try.func16, Try.ntmps16
        go_wp2_with fail
        go_quiet (fail)
        go_wp2_with fail
        go_quiet (fail)
        go_wp2
        go_ret2
        rw [HI.out, HT.out]
        exact ⟨rfl, ((Fr.refl _ _).drewN _).drewN _⟩

set_option maxRecDepth 100000 in
set_option maxHeartbeats 2000000 in
theorem refMatch {w : World} {g : Nat} {s : LG} {F : Nat → Prop} (h : Lg 41 68 w g s F) (i t : Int) (i0 : -9223372036854775808 ≤ i) (i1 : i ≤ 9223372036854775807) :
    Calls Try.prog 47 #[.pointer (some ⟨g, 0, none⟩), .int .i64 i, .int .i64 t] w fun e w' => e = .returned (.bool (s.mat i t)) ∧ Fr (fun _ => False) w w' := by
  have CT := Lib.hid (refTerm h i i0 i1)
  clear h
  obtain ⟨q1, d1⟩ : ∃ q, s.is i = q := ⟨_, rfl⟩
  obtain ⟨q2, d2⟩ : ∃ q, (s.term i == t) = q := ⟨_, rfl⟩
  have HR : Hid (s.mat i t = (q1 && q2)) := Lib.hid (by unfold LG.mat; rw [d1, ← d2]; congr 1)
  rw [d1] at CT
  clear d1
  generalize s.term i = tt at *
  cases q1
  all_goals
    go_enter Try.func47, Try.ntmps47
    go_wp2_with fail
    refine CT.out.mono ?_; rintro e w1 ⟨rfl, hf1⟩
    go_wp2
    go_ret
    rw [HR.out]
    exact ⟨rfl, hf1⟩

set_option maxRecDepth 100000 in
set_option maxHeartbeats 2000000 in
theorem refNewer {w : World} {g : Nat} {s : LG} {F : Nat → Prop} (h : Lg 41 68 w g s F) (i t : Int) :
    Calls Try.prog 49 #[.pointer (some ⟨g, 0, none⟩), .int .i64 i, .int .i64 t] w fun e w' => e = .returned (.bool (s.newer i t)) ∧ Fr (fun _ => False) w w' := by
  have CT := Lib.hid (refLast h)
  clear h
  obtain ⟨li, hli⟩ : ∃ x, s.lastI = x := ⟨_, rfl⟩
  obtain ⟨lt, hlt⟩ : ∃ x, s.lastT = x := ⟨_, rfl⟩
  have HR : Hid (s.newer i t = (decide (lt < t) || (decide (t = lt) && decide (li ≤ i)))) := Lib.hid (by unfold LG.newer; rw [hli, hlt])
  rw [hli, hlt] at CT
  clear hli hlt
  rcases Int.lt_trichotomy lt t with h1 | h1 | h1
  · go_enter Try.func49, Try.ntmps49
    go_wp2_with fail
    refine CT.out.mono ?_; rintro e w1 ⟨rfl, hf1⟩
    go_wp2
    go_ret
    rw [HR.out]
    exact ⟨by simp [h1], hf1⟩
  · subst h1
    obtain ⟨q, hq⟩ : ∃ q, decide (li ≤ i) = q := ⟨_, rfl⟩
    go_enter Try.func49, Try.ntmps49
    go_wp2_with fail
    refine CT.out.mono ?_; rintro e w1 ⟨rfl, hf1⟩
    go_wp2
    go_ret
    rw [HR.out, hq]
    exact ⟨by simp, hf1⟩
  · have d1 : decide (lt < t) = false := decide_eq_false (by omega)
    have d2 : (t == lt) = false := by rw [beq_eq_false_iff_ne]; omega
    go_enter Try.func49, Try.ntmps49
    go_wp2_with fail
    refine CT.out.mono ?_; rintro e w1 ⟨rfl, hf1⟩
    go_wp2
    go_ret
    rw [HR.out, d1, decide_eq_false (show ¬ (t = lt) by omega)]
    exact ⟨rfl, hf1⟩
end Go.Proofs.Ytainkckcipdknaa
