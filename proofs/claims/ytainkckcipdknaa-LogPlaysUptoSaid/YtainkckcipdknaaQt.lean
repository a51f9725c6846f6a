/- The reference's Hint. -/
import Derived.Test.YtainkckcipdknaaQs
namespace Go.Proofs.Ytainkckcipdknaa
open Go.RowKit

set_option maxRecDepth 100000 in
set_option maxHeartbeats 4000000 in
theorem refHint {w : World} {g : Nat} {s : LG} {F : Nat → Prop} (h : Lg 41 68 w g s F) (i : Int) (i0 : -9223372036854775808 ≤ i) (i1 : i ≤ 9223372036854775807) :
    Calls Try.prog 48 #[.pointer (some ⟨g, 0, none⟩), .int .i64 i] w fun e w' => e = .returned (.tuple #[.int .i64 (s.hintT i), .int .i64 (s.hintI i)]) ∧ Fr (fun _ => False) w w' := by
  have CL := Lib.hid (refLast h)
  have CT := Lib.hid (fun w' (hf : Fr (fun _ => False) w w') => refTerm (h.fr0 hf) i i0 i1)
  have hi1 := h.ok.i1
  have hl1 := h.ok.l1
  have HC : Hid (∀ w', Fr (fun _ => False) w w' → w'.cell? ⟨g, 0, none⟩ = some (.int .i64 (s.ix : Int)) ∧ ∃ A c, w'.cell? ⟨g, 2, none⟩ = some (.slice A s.l.length c) ∧ ∀ k, k < s.l.length → ∃ b off, A = some ⟨b, off, none⟩ ∧ w'.cell? ⟨b, off + k * 2, none⟩ = some (.int .i64 (s.l.getD k default).t)) := Lib.hid (fun w' hf => by
    obtain ⟨v, ps, h1, _, _⟩ := h.fr0 hf
    obtain ⟨A, c, rfl, _, _, hA⟩ := h1.form
    refine ⟨h1.c0, A, c, h1.c2, fun k hk => ?_⟩
    obtain ⟨b, off, rfl⟩ := hA (by omega)
    exact ⟨b, off, rfl, h1.ec hk⟩)
  have hli : s.lastI = (s.ix : Int) + (s.l.length : Int) := rfl
  by_cases hhi : s.lastI < i
  · have hh : s.has i = false := by unfold LG.has; rw [hli] at hhi; simp; omega
    have HT : Hid (s.hintT i = 0) := Lib.hid (by unfold LG.hintT; rw [hh]; rfl)
    have HI : Hid (s.hintI i = s.lastI + 1) := Lib.hid (by unfold LG.hintI; rw [hh, if_neg (by simp), if_neg (by omega)])
    have hb : s.lastI ≤ 20000000000000 := by omega
    have hb0 : 0 ≤ s.lastI := by omega
    generalize s.lastI = li at *
    generalize s.lastT = lt at *
    clear h hh CT HC hi1 hl1 hli
    go_enter Try.func48, Try.ntmps48
    go_wp2_with fail
    refine CL.out.mono ?_; rintro e w1 ⟨rfl, hf1⟩
    go_wp2
    go_ret2
    rw [HT.out, HI.out]
    exact ⟨rfl, hf1⟩
  · have dhi : decide (s.lastI < i) = false := decide_eq_false hhi
    by_cases hlo : i ≤ (s.ix : Int)
    · have hh : s.has i = false := by unfold LG.has; simp; omega
      have HT : Hid (s.hintT i = 0) := Lib.hid (by unfold LG.hintT; rw [hh]; rfl)
      have HI : Hid (s.hintI i = (s.ix : Int) + 1) := Lib.hid (by unfold LG.hintI; rw [hh, if_neg (by simp), if_pos hlo])
      have hxb : (s.ix : Int) ≤ 20000000000000 := by omega
      obtain ⟨q, hq⟩ : ∃ q, s.is i = q := ⟨_, rfl⟩
      rw [hq] at CT
      have HC0 : Hid (∀ w', Fr (fun _ => False) w w' → w'.cell? ⟨g, 0, none⟩ = some (.int .i64 (s.ix : Int))) := Lib.hid (fun w' hf => (HC.out w' hf).1)
      generalize s.lastI = li at *
      generalize s.lastT = lt at *
      generalize s.term i = tt at *
      generalize hix : s.ix = ix at *
      clear h hh HC hi1 hl1 hq hhi hli hix
      cases q
      all_goals
        go_enter Try.func48, Try.ntmps48
        go_wp2_with fail
        refine CL.out.mono ?_; rintro e w1 ⟨rfl, hf1⟩
        have C := Lib.hid (CT.out w1 hf1)
        have HF1 := Lib.hid hf1
        clear hf1
        go_wp2_with fail
        refine C.out.mono ?_; rintro e w2 ⟨rfl, hf2⟩
        have HF2 := Lib.hid (HF1.out.trans hf2 (fun _ _ h => h))
        have c0 := HC0.out w2 HF2.out
        clear hf2 C CT
        go_wp2_with fail
        go_quiet (fail)
        go_wp2
        go_ret2
        rw [HT.out, HI.out]
        exact ⟨rfl, HF2.out.drewN _⟩
    · have dlo : decide (i ≤ (s.ix : Int)) = false := decide_eq_false hlo
      have hh : s.has i = true := by unfold LG.has; simp; omega
      obtain ⟨k0, hk0⟩ : ∃ k : Nat, i = (s.ix : Int) + (k : Int) := ⟨(i - s.ix).toNat, by omega⟩
      have hk1 : 0 < k0 := by omega
      have hk2 : k0 ≤ s.l.length := by omega
      have HT : Hid (s.hintT i = s.term i) := Lib.hid (by unfold LG.hintT; rw [hh]; rfl)
      have HI : Hid (s.hintI i = (s.ix : Int) + (s.back (s.term i) k0 : Int)) := Lib.hid (by
        unfold LG.hintI; rw [hh]
        simp only [if_true]
        rw [show (i - (s.ix : Int)).toNat = k0 by omega])
      rw [LG.is_of_has hh] at CT
      generalize s.lastI = li at *
      generalize s.lastT = lt at *
      generalize s.term i = tt at *
      obtain ⟨bk, hbk⟩ : ∃ bk, s.back tt = bk := ⟨_, rfl⟩
      have HB2 : Hid (∀ k, bk (k + 2) = if (s.l.getD k default).t = tt then bk (k + 1) else k + 2) := Lib.hid (fun k => by rw [← hbk]; rfl)
      have HB1 : Hid (bk 1 = 1) := Lib.hid (by rw [← hbk]; rfl)
      rw [hbk] at HI
      obtain ⟨n, hn⟩ : ∃ n, s.l.length = n := ⟨_, rfl⟩
      rw [hn] at HC hi1 hl1 hk2 hli
      obtain ⟨ix, hix⟩ : ∃ ix, s.ix = ix := ⟨_, rfl⟩
      rw [hix] at HC hi1 hk0 HI dlo hlo hli
      have hixb : (ix : Int) ≤ 20000000000000 := by omega
      have hm0 : i = ((ix + k0 : Nat) : Int) := by omega
      have HM0 := Lib.hid hm0
      have hnb : (n : Int) ≤ 5000000000000 := by omega
      have HK : Hid (0 < k0 ∧ k0 ≤ n) := Lib.hid ⟨hk1, hk2⟩
      clear h hh hbk hn hix hk0 hi1 hl1 hli hm0 hk1 hk2
      go_enter Try.func48, Try.ntmps48
      go_wp2_with fail
      refine CL.out.mono ?_; rintro e w1 ⟨rfl, hf1⟩
      have C := Lib.hid (CT.out w1 hf1)
      have HF1 := Lib.hid hf1
      clear hf1
      go_wp2_with fail
      refine C.out.mono ?_; rintro e w2 ⟨rfl, hf2⟩
      have HF2 := Lib.hid (HF1.out.trans hf2 (fun _ _ h => h))
      have c0 := (HC.out w2 HF2.out).1
      clear hf2 C CT
      go_wp2_with fail
      go_loopw [10] (fun u wr => ∃ m : Nat, u = .int .i64 (m : Int) ∧ ix + 1 ≤ m ∧ m ≤ ix + k0 ∧ bk (m - ix) = bk k0 ∧ Fr (fun _ => False) w wr) (fun u _ => (intOf u).toNat)
      case atStart => exact ⟨ix + k0, by rw [HM0.out], by have := HK.out; omega, Nat.le_refl _, by rw [Nat.add_sub_cancel_left], HF2.out⟩
      case round =>
        obtain ⟨m, rfl, hm1, hm2, hr, hf⟩ := hrel
        have HR := Lib.hid hr
        have HF := Lib.hid hf
        have HM1 := Lib.hid hm1
        have hmb : (m : Int) ≤ 40000000000000 := by have := HK.out; omega
        have hmb0 : (1 : Int) ≤ (m : Int) := by omega
        clear hr hf c0
        obtain ⟨c0, A, c, c2, hent⟩ := HC.out wr HF.out
        by_cases hm3 : m = ix + 1
        · have g1 : ¬ ((ix : Int) < (m : Int) - 1) := by omega
          have g2 : decide ((ix : Int) < (m : Int) - 1) = false := decide_eq_false g1
          have HM3 := Lib.hid hm3
          clear hm3 hent
          go_wp2_with fail
          go_quiet (fail)
          go_wp2
          go_ret2
          rw [HT.out, HI.out]
          have h9 := HR.out
          rw [show m - ix = 1 by have := HM3.out; omega, HB1.out] at h9
          rw [← h9]
          refine ⟨?_, HF.out.drewN _⟩
          have := HM3.out
          simp
          omega
        · have g1 : (ix : Int) < (m : Int) - 1 := by omega
          obtain ⟨b, off, rfl, ce⟩ := hent (m - ix - 2) (by have := HK.out; omega)
          obtain ⟨k, hk⟩ : ∃ k, m - ix - 2 = k := ⟨_, rfl⟩
          rw [hk] at ce
          have ek : (m : Int) - 2 - (ix : Int) = (k : Int) := by omega
          have hkn : (k : Int) < (n : Int) := by have := HK.out; omega
          have hkk : m - ix = k + 2 := by omega
          have HKK := Lib.hid hkk
          have HBK := HB2.out k
          obtain ⟨q, hq⟩ : ∃ q, ((s.l.getD k default).t == tt) = q := ⟨_, rfl⟩
          have HB9 : Hid (bk (k + 2) = if q = true then bk (k + 1) else k + 2) := Lib.hid (by rw [HBK, ← hq]; simp)
          generalize (s.l.getD k default).t = te at *
          have hk00 : (0 : Int) ≤ (k : Int) := by omega
          have hj : ∃ j : Int, (m : Int) - 2 = j := ⟨_, rfl⟩
          obtain ⟨j, ej⟩ := hj
          rw [ej] at ek
          have hj0 : -2 ≤ j := by omega
          have hj1 : j ≤ 40000000000000 := by omega
          clear hm3 hent HBK hk hkk
          cases q with
          | false =>
            go_wp2_with fail
            go_quiet (fail)
            go_wp2
            go_ret2
            rw [HT.out, HI.out]
            have h9 := HR.out
            rw [HKK.out, HB9.out, if_neg (by simp)] at h9
            rw [← h9]
            refine ⟨?_, HF.out.drewN _⟩
            have := HKK.out
            simp
            omega
          | true =>
            go_wp2_with fail
            go_quiet (fail)
            go_wp2
            refine ⟨⟨m - 1, by simp; omega, by have := HKK.out; omega, by omega, ?_, HF.out.drewN _⟩, ?_⟩
            · have h9 := HR.out
              rw [HKK.out, HB9.out, if_pos (by simp)] at h9
              rw [show m - 1 - ix = k + 1 by have := HKK.out; omega]
              exact h9
            · first | omega | (show _ < _; simp [intOf]; omega)
end Go.Proofs.Ytainkckcipdknaa
