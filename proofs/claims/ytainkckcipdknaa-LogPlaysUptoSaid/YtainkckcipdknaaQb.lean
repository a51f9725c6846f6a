/- The log's small calls: isBegin, has, First, Last, Len, Term, Match, Newer. -/
import Derived.Test.YtainkckcipdknaaQa
namespace Go.Proofs.Ytainkckcipdknaa
open Go.RowKit

theorem wrap_u64q (n : Int) : IntKind.u64.wrap n = n % 18446744073709551616 := by simp [IntKind.wrap, IntKind.bits, IntKind.signed]

set_option maxRecDepth 100000 in
set_option maxHeartbeats 1000000 in
theorem has_any (g ix n c : Nat) (A : Option Addr) (i : Int) (w : World) (h0 : w.cell? ⟨g, 0, none⟩ = some (.int .i64 (ix : Int))) (h2 : w.cell? ⟨g, 2, none⟩ = some (.slice A n c)) (hx : ix ≤ 20000000000000) (hn : n ≤ 5000000000000) (i0 : -9223372036854775808 ≤ i) (i1 : i ≤ 9223372036854775807) :
    Calls Try.prog 42 #[.pointer (some ⟨g, 0, none⟩), .int .i64 i] w fun e w' => e = .returned (.bool (decide ((ix : Int) < i) && decide (i ≤ (ix : Int) + (n : Int)))) ∧ w = w' := by
  obtain ⟨x, hx1⟩ : ∃ x, IntKind.u64.wrap i = x := ⟨_, rfl⟩
  obtain ⟨far, hf⟩ : ∃ f, IntKind.u64.wrap (x - (ix : Int)) = f := ⟨_, rfl⟩
  have hix : IntKind.u64.wrap (ix : Int) = (ix : Int) := by rw [wrap_u64q]; omega
  have hnn : IntKind.u64.wrap (n : Int) = (n : Int) := by rw [wrap_u64q]; omega
  obtain ⟨q1, d1⟩ : ∃ q, decide (1 ≤ far) = q := ⟨_, rfl⟩
  obtain ⟨q2, d2⟩ : ∃ q, decide (far ≤ (n : Int)) = q := ⟨_, rfl⟩
  have HR : Hid ((decide ((ix : Int) < i) && decide (i ≤ (ix : Int) + (n : Int))) = (q1 && q2)) := Lib.hid (by
    rw [← d1, ← d2, ← hf, ← hx1, wrap_u64q, wrap_u64q]
    rcases Int.lt_trichotomy i ix with h | h | h
    · have e1 : ¬ ((ix : Int) < i) := by omega
      have e2 : ¬ ((i % 18446744073709551616 - (ix : Int)) % 18446744073709551616 ≤ (n : Int)) := by omega
      simp only [e1, e2, decide_false, Bool.false_and, Bool.and_false]
    · have e1 : ¬ ((ix : Int) < i) := by omega
      have e2 : ¬ (1 ≤ (i % 18446744073709551616 - (ix : Int)) % 18446744073709551616) := by omega
      simp only [e1, e2, decide_false, Bool.false_and]
    · have e1 : (i % 18446744073709551616 - (ix : Int)) % 18446744073709551616 = i - ix := by omega
      rw [e1]
      congr 1
      · exact decide_eq_decide.2 (by omega)
      · exact decide_eq_decide.2 (by omega))
  clear hx hn
  cases q1 with
  | false =>
    go_enter Try.func42, Try.ntmps42
    go_wp2
    go_ret
    exact ⟨by rw [HR.out]; rfl, rfl⟩
  | true =>
    go_enter Try.func42, Try.ntmps42
    go_wp2
    go_ret
    exact ⟨by rw [HR.out]; rfl, rfl⟩

theorem isBegin_any (i t : Int) (w : World) :
    Calls Try.prog 27 #[.int .i64 i, .int .i64 t] w fun e w' => e = .returned (.bool (begins i t)) ∧ w = w' := by
  by_cases h0 : 0 ≤ i
  · by_cases h1 : 0 ≤ t
    · obtain ⟨q1, d1⟩ : ∃ q, (i == 0) = q := ⟨_, rfl⟩
      obtain ⟨q2, d2⟩ : ∃ q, (t == 0) = q := ⟨_, rfl⟩
      have HR : Hid (begins i t = (q1 == q2)) := Lib.hid (by
        unfold begins
        rw [← d1, ← d2]
        simp [h0, h1]
        congr 1)
      go_enter Try.func27, Try.ntmps27
      go_wp2
      go_ret
      refine ⟨?_, rfl⟩
      rw [HR.out]
      rfl
    · have d1 : decide (0 ≤ t) = false := by simpa using h1
      go_enter Try.func27, Try.ntmps27
      go_wp2
      go_ret
      exact ⟨by unfold begins; rw [d1]; simp, rfl⟩
  · have d0 : decide (0 ≤ i) = false := by simpa using h0
    go_enter Try.func27, Try.ntmps27
    go_wp2
    go_ret
    exact ⟨by unfold begins; rw [d0]; simp, rfl⟩

theorem first_any (g ix : Nat) (w : World) (h0 : w.cell? ⟨g, 0, none⟩ = some (.int .i64 (ix : Int))) (hx : (ix : Int) ≤ 20000000000000) :
    Calls Try.prog 22 #[.pointer (some ⟨g, 0, none⟩)] w fun e w' => e = .returned (.int .i64 ((ix : Int) + 1)) ∧ w = w' := by
  go_enter Try.func22, Try.ntmps22
  go_wp2
  go_ret
  exact ⟨rfl, rfl⟩
theorem len_any (g n c : Nat) (A : Option Addr) (w : World) (h0 : w.cell? ⟨g, 2, none⟩ = some (.slice A n c)) :
    Calls Try.prog 25 #[.pointer (some ⟨g, 0, none⟩)] w fun e w' => e = .returned (.int .i64 (n : Int)) ∧ w = w' := by
  go_enter Try.func25, Try.ntmps25
  go_wp2
  go_ret
  exact ⟨rfl, rfl⟩

section
variable {w : World} {g : Nat} {s : LG} {F : Nat → Prop}
theorem lgFirst (h : Lg 65 51 w g s F) : Calls Try.prog 22 #[.pointer (some ⟨g, 0, none⟩)] w fun e w' => e = .returned (.int .i64 ((s.ix : Int) + 1)) ∧ w = w' := by
  obtain ⟨v, ps, h1, _, _⟩ := h
  exact first_any g s.ix w h1.c0 (by have := h1.ok.i1; omega)
theorem lgLen (h : Lg 65 51 w g s F) : Calls Try.prog 25 #[.pointer (some ⟨g, 0, none⟩)] w fun e w' => e = .returned (.int .i64 (s.l.length : Int)) ∧ w = w' := by
  obtain ⟨v, ps, h1, _, _⟩ := h
  obtain ⟨A, c, rfl, _⟩ := h1.form
  exact len_any g s.l.length c A w h1.c2
theorem lgHas (h : Lg 65 51 w g s F) (i : Int) (i0 : -9223372036854775808 ≤ i) (i1 : i ≤ 9223372036854775807) : Calls Try.prog 42 #[.pointer (some ⟨g, 0, none⟩), .int .i64 i] w fun e w' => e = .returned (.bool (s.has i)) ∧ w = w' := by
  obtain ⟨v, ps, h1, _, _⟩ := h
  obtain ⟨A, c, rfl, _⟩ := h1.form
  exact has_any g s.ix s.l.length c A i w h1.c0 h1.c2 (by have := h1.ok.i1; omega) h1.ok.l1 i0 i1
end

theorem LG.lastT_nil (s : LG) (h : s.l.length = 0) : s.lastT = s.tm := by
  unfold LG.lastT LG.term LG.lastI; rw [if_pos (by omega)]
theorem LG.lastT_at (s : LG) (h : 0 < s.l.length) : s.lastT = (s.l.getD (s.l.length - 1) default).t := by
  unfold LG.lastT LG.term LG.lastI
  rw [if_neg (by omega), if_pos (by unfold LG.has; simp; omega)]
  unfold LG.en
  rw [show ((s.ix : Int) + (s.l.length : Int) - (s.ix : Int) - 1).toNat = s.l.length - 1 by omega]

set_option maxRecDepth 100000 in
set_option maxHeartbeats 1000000 in
theorem lgLast {w : World} {g : Nat} {s : LG} {F : Nat → Prop} (h : Lg 65 51 w g s F) : Calls Try.prog 21 #[.pointer (some ⟨g, 0, none⟩)] w fun e w' => e = .returned (.tuple #[.int .i64 s.lastI, .int .i64 s.lastT]) ∧ Fr (fun _ => False) w w' := by
  obtain ⟨v, ps, h1, _, _⟩ := h
  obtain ⟨A, c, rfl, hnc, hcm, hA⟩ := h1.form
  have c0 := h1.c0
  have c1 := h1.c1
  have c2 := h1.c2
  have hok := h1.ok
  have b1 := hok.i1
  have b2 := hok.l1
  by_cases hn : 0 < s.l.length
  · obtain ⟨b, off, rfl⟩ := hA hn
    have ce := h1.ec (i := s.l.length - 1) (by omega)
    have HI : Hid (s.lastI = (s.ix : Int) + (s.l.length : Int)) := Lib.hid rfl
    have HT := Lib.hid (s.lastT_at hn)
    generalize hm : s.l.length = n at *
    generalize (s.l.getD (n - 1) default).t = tt at *
    generalize s.ix = ix at *
    generalize s.tm = tm at *
    have e1 : ((n : Int) - 1) = ((n - 1 : Nat) : Int) := by omega
    have hn1 : (0 : Int) < (n : Int) := by omega
    have hn2 : (n : Int) ≤ 5000000000000 := by omega
    have hx2 : (ix : Int) ≤ 20000000000000 := by omega
    have d1 : decide ((0 : Int) < (n : Int)) = true := by simpa using hn
    clear h1 hok hA
    have hlt : n - 1 < n := by omega
    generalize n - 1 = m at *
    go_enter Try.func21, Try.ntmps21
    go_wp2_with fail
    go_quiet (fail)
    go_wp2
    go_ret2
    rw [HI.out, HT.out]
    exact ⟨rfl, (Fr.refl _ _).drewN _⟩
  · have hn0 : s.l.length = 0 := by omega
    have HI : Hid (s.lastI = (s.ix : Int)) := Lib.hid (by unfold LG.lastI; omega)
    have HT := Lib.hid (s.lastT_nil hn0)
    rw [hn0] at c2
    generalize s.ix = ix at *
    generalize s.tm = tm at *
    clear h1 hok hA
    go_enter Try.func21, Try.ntmps21
    go_wp2_with fail
    go_quiet (fail)
    go_wp2
    go_ret2
    rw [HI.out, HT.out]
    exact ⟨rfl, (Fr.refl _ _).drewN _⟩
end Go.Proofs.Ytainkckcipdknaa
