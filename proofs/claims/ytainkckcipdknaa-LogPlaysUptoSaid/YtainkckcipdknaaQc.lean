/- The log's Term, Match, Newer; rise; bytes.Clone. -/
import Derived.Test.YtainkckcipdknaaQb
namespace Go.Proofs.Ytainkckcipdknaa
open Go.RowKit

theorem LG.is_has {s : LG} {i : Int} (h : s.has i = true) : (s.ix : Int) < i ∧ i ≤ (s.ix : Int) + (s.l.length : Int) := by
  unfold LG.has at h; simpa using h
theorem LG.term_self (s : LG) : s.term s.ix = s.tm := by unfold LG.term; rw [if_pos rfl]
theorem LG.is_self (s : LG) : s.is s.ix = true := by unfold LG.is; simp
theorem LG.term_has {s : LG} {i : Int} (h : s.has i = true) : s.term i = (s.l.getD (i - s.ix - 1).toNat default).t := by
  have h1 := LG.is_has h
  unfold LG.term; rw [if_neg (by omega), if_pos h]; rfl
theorem LG.is_of_has {s : LG} {i : Int} (h : s.has i = true) : s.is i = true := by unfold LG.is; simp [h]
theorem LG.term_not {s : LG} {i : Int} (hne : i ≠ s.ix) (h : s.has i = false) : s.term i = 0 ∧ s.is i = false := by
  unfold LG.term LG.is; simp [hne, h]

set_option maxRecDepth 100000 in
set_option maxHeartbeats 1000000 in
theorem lgTerm {w : World} {g : Nat} {s : LG} {F : Nat → Prop} (h : Lg 65 51 w g s F) (i : Int) (i0 : -9223372036854775808 ≤ i) (i1 : i ≤ 9223372036854775807) :
    Calls Try.prog 23 #[.pointer (some ⟨g, 0, none⟩), .int .i64 i] w fun e w' => e = .returned (.tuple #[.int .i64 (s.term i), .bool (s.is i)]) ∧ Fr (fun _ => False) w w' := by
  have CH := Lib.hid (lgHas h i i0 i1)
  obtain ⟨v, ps, h1, _, _⟩ := h
  obtain ⟨A, c, rfl, hnc, hcm, hA⟩ := h1.form
  have c0 := h1.c0
  have c1 := h1.c1
  have c2 := h1.c2
  have hok := h1.ok
  have b1 := hok.i1
  have b2 := hok.l1
  by_cases hi : i = s.ix
  · subst hi
    have HT := Lib.hid s.term_self
    have HI := Lib.hid s.is_self
    generalize s.ix = ix at *
    generalize s.tm = tm at *
    clear h1 hok hA c2 CH
    go_enter Try.func23, Try.ntmps23
    go_wp2
    go_ret2
    rw [HI.out, HT.out]
    exact ⟨rfl, Fr.refl _ _⟩
  · have d0 : (i == (s.ix : Int)) = false := by simpa using hi
    cases hh : s.has i with
    | false =>
      have HT := Lib.hid (LG.term_not hi hh)
      rw [hh] at CH
      generalize s.ix = ix at *
      clear h1 hok hA c2 c1 hh
      go_enter Try.func23, Try.ntmps23
      go_wp2_with fail
      refine CH.out.mono ?_; rintro e w1 ⟨rfl, rfl⟩
      go_wp2
      go_ret2
      rw [HT.out.1, HT.out.2]
      exact ⟨rfl, Fr.refl _ _⟩
    | true =>
      have h3 := LG.is_has hh
      have HT := Lib.hid (LG.term_has hh)
      have HI := Lib.hid (LG.is_of_has hh)
      rw [hh] at CH
      obtain ⟨b, off, rfl⟩ := hA (by omega)
      have hk : (i - s.ix - 1).toNat < s.l.length := by omega
      have ce := h1.ec hk
      have e2 : i - (s.ix : Int) - 1 = ((i - s.ix - 1).toNat : Int) := by omega
      generalize (i - s.ix - 1).toNat = k at *
      generalize (s.l.getD k default).t = tt at *
      generalize hm : s.l.length = n at *
      generalize s.ix = ix at *
      have hn2 : (n : Int) ≤ 5000000000000 := by omega
      have hx2 : (ix : Int) ≤ 20000000000000 := by omega
      obtain ⟨j1, e1⟩ : ∃ j, i - (ix : Int) = j := ⟨_, rfl⟩
      rw [e1] at e2
      have hj1 : 1 ≤ j1 := by omega
      have hj2 : j1 ≤ 5000000000000 := by omega
      have hkI : (k : Int) < (n : Int) := by omega
      clear h1 hok hA c1 hh hi
      go_enter Try.func23, Try.ntmps23
      go_wp2_with fail
      refine CH.out.mono ?_; rintro e w1 ⟨rfl, rfl⟩
      go_wp2_with fail
      go_quiet (fail)
      go_wp2
      go_ret2
      rw [HI.out, HT.out]
      exact ⟨rfl, (Fr.refl _ _).drewN _⟩
end Go.Proofs.Ytainkckcipdknaa
