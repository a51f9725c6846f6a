/- LogHints. -/
import Derived.Test.YtainkckcipdknaaQj
namespace Go.Proofs.Ytainkckcipdknaa
open Go.RowKit

theorem LG.back_all {s : LG} {t : Int} : ∀ k, 0 < k → (s.l.getD (k - 1) default).t = t → ∀ j, s.back t k ≤ j → j ≤ k → (s.l.getD (j - 1) default).t = t
  | 0, h, _, _, _, _ => by omega
  | 1, _, h, j, h1, h2 => by
    have h9 : s.back t 1 = 1 := rfl
    have : j = 1 := by omega
    subst this; exact h
  | k + 2, _, h, j, h1, h2 => by
    rw [LG.back_two] at h1
    by_cases hk : (s.l.getD k default).t = t
    · rw [if_pos hk] at h1
      by_cases hj : j = k + 2
      · subst hj; exact h
      · exact LG.back_all (k + 1) (by omega) hk j h1 (by omega)
    · rw [if_neg hk] at h1
      have : j = k + 2 := by omega
      subst this; exact h
theorem LG.back_first {s : LG} {t : Int} : ∀ k, 0 < k → s.back t k = 1 ∨ (2 ≤ s.back t k ∧ (s.l.getD (s.back t k - 2) default).t ≠ t)
  | 0, h => by omega
  | 1, _ => .inl rfl
  | k + 2, _ => by
    rw [LG.back_two]
    by_cases hk : (s.l.getD k default).t = t
    · rw [if_pos hk]; exact LG.back_first (k + 1) (by omega)
    · rw [if_neg hk]; exact .inr ⟨by omega, hk⟩
theorem LG.has_nat {s : LG} {k : Nat} (h0 : 0 < k) (h1 : k ≤ s.l.length) : s.has ((s.ix : Int) + (k : Int)) = true := by
  unfold LG.has; simp; omega
theorem LG.term_nat {s : LG} {k : Nat} (h0 : 0 < k) (h1 : k ≤ s.l.length) : s.term ((s.ix : Int) + (k : Int)) = (s.l.getD (k - 1) default).t := by
  rw [LG.term_has (LG.has_nat h0 h1)]
  congr 3
  omega
/-- What a hint says of a place that is there. -/
structure HintE (s : LG) (k b : Nat) : Prop where
  lo : 0 < b
  hi : b ≤ k
  all : ∀ j, b ≤ j → j ≤ k → s.mat ((s.ix : Int) + (j : Int)) (s.hintT ((s.ix : Int) + (k : Int))) = true
  first : b = 1 ∨ (s.is ((s.ix : Int) + (b : Int) - 1) = true ∧ s.term ((s.ix : Int) + (b : Int) - 1) ≠ s.hintT ((s.ix : Int) + (k : Int)))
theorem LG.hintE {s : LG} {k : Nat} (h0 : 0 < k) (h1 : k ≤ s.l.length) : ∃ b : Nat, s.hintI ((s.ix : Int) + (k : Int)) = (s.ix : Int) + (b : Int) ∧ HintE s k b := by
  have hh := LG.has_nat (s := s) h0 h1
  have ht : s.hintT ((s.ix : Int) + (k : Int)) = (s.l.getD (k - 1) default).t := by
    unfold LG.hintT; rw [hh, LG.term_nat h0 h1]; rfl
  obtain ⟨t, hte⟩ : ∃ t, (s.l.getD (k - 1) default).t = t := ⟨_, rfl⟩
  refine ⟨s.back t k, ?_, LG.back_pos k h0, LG.back_le k, fun j hj1 hj2 => ?_, ?_⟩
  · unfold LG.hintI; rw [hh, LG.term_nat h0 h1, hte]
    simp only [if_true]
    rw [show ((s.ix : Int) + (k : Int) - (s.ix : Int)).toNat = k by omega]
  · have hp := LG.back_pos (s := s) (t := t) k h0
    unfold LG.mat
    rw [LG.is_of_has (LG.has_nat (by omega) (by omega)), LG.term_nat (by omega) (by omega), ht, hte, LG.back_all k h0 hte j hj1 hj2]
    simp
  · have hle := LG.back_le (s := s) (t := t) k
    rcases LG.back_first (s := s) (t := t) k h0 with h | ⟨h2, h3⟩
    · exact .inl h
    · refine .inr ?_
      rw [show (s.ix : Int) + (s.back t k : Int) - 1 = (s.ix : Int) + ((s.back t k - 1 : Nat) : Int) by omega]
      refine ⟨LG.is_of_has (LG.has_nat (by omega) (by omega)), ?_⟩
      rw [LG.term_nat (by omega) (by omega), ht, hte]
      exact h3

set_option maxRecDepth 100000 in
set_option maxHeartbeats 4000000 in
theorem hints_any (i t : Int) (A : Option Addr) (n c : Nat) (ps : List EL) (at_ : Int) (w : World) (h : Es w A n ps (fun k => k < w.heap.size)) (hn : n ≤ 5000000000000) (i0 : -9223372036854775808 ≤ i) (i1 : i ≤ 9223372036854775807) (t1 : t ≤ 9223372036854775807) (a0 : -9223372036854775808 ≤ at_) (a1 : at_ ≤ 9223372036854775807) :
    Calls Try.prog 5 #[.int .i64 i, .int .i64 t, .slice A n c, .int .i64 at_] w fun e w' => e = .returned (.bool true) ∧ Fr (fun _ => False) w w' := by
  have H1 := Lib.hid h
  have HN := Lib.hid hn
  clear h hn
  go_enter Try.func5, Try.ntmps5
  go_wp2_with fail
  refine (known_any w).mono ?_; rintro e w0 ⟨rfl, hf0⟩
  have HF := Lib.hid hf0
  clear hf0
  go_wp2_with fail
  refine (few_q A n c ps _ w0 (H1.out.fr0 HF.out) HN.out).mono ?_; rintro e w1 ⟨q1, rfl, rfl⟩
  cases q1 with
  | false =>
    go_wp2
    go_ret
    exact ⟨rfl, HF.out⟩
  | true =>
    by_cases hi : (1099511627776 : Int) < i
    · go_wp2
      go_ret
      exact ⟨rfl, HF.out⟩
    by_cases ha : (2199023255552 : Int) < at_
    · have hi2 : decide ((1099511627776 : Int) < i) = false := decide_eq_false hi
      go_wp2
      go_ret
      exact ⟨rfl, HF.out⟩
    have hi2 : decide ((1099511627776 : Int) < i) = false := decide_eq_false hi
    have ha2 : decide ((2199023255552 : Int) < at_) = false := decide_eq_false ha
    have hib : i ≤ 1099511627776 := by omega
    have hab : at_ ≤ 2199023255552 := by omega
    have C1 := Lib.hid (lgNew i t A n c ps _ w0 (H1.out.fr0 HF.out) (fun k hk => Nat.lt_of_lt_of_le hk HF.out.size) HN.out hib t1)
    unfold NewL at C1
    go_wp2_with fail
    by_cases hq1 : (begins i t && rise t (ps.map EL.e)) = true
    · simp only [hq1, if_true] at C1
      refine C1.out.mono ?_; rintro e w1 ⟨g, F1, rfl, hl1, hf1, hn1, hg1⟩
      have HF1 := Lib.hid (HF.out.trans hf1 (fun _ _ h => h))
      obtain ⟨s, hs⟩ : ∃ s, (⟨i.toNat, t, ps.map EL.e⟩ : LG) = s := ⟨_, rfl⟩
      rw [hs] at hl1
      have HL := Lib.hid hl1
      have CH := Lib.hid (lgHint hl1 at_ a0 a1)
      have CL := Lib.hid (fun w' (hf : Fr (fun _ => False) w1 w') => lgLast (hl1.fr0 hf))
      have CF := Lib.hid (fun w' (hf : Fr (fun _ => False) w1 w') => lgFirst (hl1.fr0 hf))
      have CM := Lib.hid (fun (x y : Int) (x0 : -9223372036854775808 ≤ x) (x1 : x ≤ 9223372036854775807) w' (hf : Fr (fun _ => False) w1 w') => lgMatch (hl1.fr0 hf) x y x0 x1)
      have CT := Lib.hid (fun (x : Int) (x0 : -9223372036854775808 ≤ x) (x1 : x ≤ 9223372036854775807) w' (hf : Fr (fun _ => False) w1 w') => lgTerm (hl1.fr0 hf) x x0 x1)
      have hok := hl1.ok
      have o1 := hok.i1
      have HLI : Hid (s.lastI = (s.ix : Int) + (s.l.length : Int)) := Lib.hid rfl
      clear hl1 hf1 hn1 hg1 C1 hq1 hs hok
      go_wp2_with fail
      refine CH.out.mono ?_; rintro e w2 ⟨rfl, hf2⟩
      have HF2 := Lib.hid hf2
      clear hf2 CH
      go_wp2_with fail
      refine (CL.out _ HF2.out).mono ?_; rintro e w3 ⟨rfl, hf3⟩
      have HF3 := Lib.hid (HF2.out.trans hf3 (fun _ _ h => h))
      have HFE := Lib.hid (HF1.out.trans HF3.out (fun _ _ h => h))
      clear hf3 CL
      have hlb : 0 ≤ s.lastI ∧ s.lastI ≤ 20000000000000 := by rw [HLI.out]; omega
      obtain ⟨hl0, hl9⟩ := hlb
      by_cases hc1 : s.lastI < at_
      · have HHas : Hid (s.has at_ = false) := Lib.hid (by unfold LG.has; rw [HLI.out] at hc1; simp; omega)
        have HT : s.hintT at_ = 0 := by unfold LG.hintT; rw [HHas.out]; rfl
        have HI : s.hintI at_ = s.lastI + 1 := by unfold LG.hintI; rw [HHas.out, if_neg (by simp), if_neg (by rw [HLI.out] at hc1; omega)]
        rw [HT, HI]
        generalize s.lastI = li at *
        clear HT HI
        go_wp2
        go_ret
        exact ⟨rfl, HFE.out⟩
      · have d1 : decide (s.lastI < at_) = false := decide_eq_false hc1
        obtain ⟨fi, hfi⟩ : ∃ fi : Int, (s.ix : Int) + 1 = fi := ⟨_, rfl⟩
        rw [hfi] at CF
        by_cases hc2 : at_ < fi
        · have HHas : Hid (s.has at_ = false) := Lib.hid (by unfold LG.has; simp; omega)
          have HT : s.hintT at_ = 0 := by unfold LG.hintT; rw [HHas.out]; rfl
          have HI : s.hintI at_ = fi := by unfold LG.hintI; rw [HHas.out, if_neg (by simp), if_pos (by omega), hfi]
          rw [HT, HI]
          generalize s.lastI = li at *
          clear HT HI hfi
          go_wp2_with fail
          refine (CF.out _ HF3.out).mono ?_; rintro e w4 ⟨rfl, rfl⟩
          go_wp2_with fail
          refine (CF.out _ HF3.out).mono ?_; rintro e w4 ⟨rfl, rfl⟩
          go_wp2
          go_ret
          exact ⟨rfl, HFE.out⟩
        · have d2 : decide (at_ < fi) = false := decide_eq_false hc2
          rw [HLI.out] at hc1
          obtain ⟨kk, hkk⟩ : ∃ kk : Nat, at_ = (s.ix : Int) + (kk : Int) := ⟨(at_ - s.ix).toNat, by omega⟩
          subst hkk
          obtain ⟨b, hb1, hb2⟩ := LG.hintE (s := s) (k := kk) (by omega) (by omega)
          have HBE := Lib.hid hb2
          have hbl := hb2.lo
          have hbh := hb2.hi
          rw [hb1]
          obtain ⟨ht, hht⟩ : ∃ ht, s.hintT ((s.ix : Int) + (kk : Int)) = ht := ⟨_, rfl⟩
          rw [hht]
          have HHT := Lib.hid hht
          have HFI := Lib.hid hfi
          have hkb : (kk : Int) ≤ 20000000000000 := by omega
          have hbb : (b : Int) ≤ (kk : Int) := by omega
          have hb0 : (1 : Int) ≤ (b : Int) := by omega
          obtain ⟨ix, hix⟩ : ∃ ix, s.ix = ix := ⟨_, rfl⟩
          have HIX := Lib.hid hix
          rw [hix] at a0 a1 hab d1 d2 hc1 hc2 hfi ha ha2 ⊢
          have hixb : (ix : Int) ≤ 20000000000000 := by omega
          have g1 : ¬ ((ix : Int) + (kk : Int) < (ix : Int) + (b : Int)) := by omega
          have d3 : decide ((ix : Int) + (kk : Int) < (ix : Int) + (b : Int)) = false := decide_eq_false g1
          have g8 : decide (kk < b) = false := decide_eq_false (by omega)
          have g9 : ¬ (kk < b) := by omega
          have g7 : decide ((kk : Int) < (b : Int)) = false := decide_eq_false (by omega)
          have g2 : fi ≤ (ix : Int) + (b : Int) := by omega
          have d4 : decide ((ix : Int) + (b : Int) < fi) = false := decide_eq_false (by omega)
          generalize s.lastI = li at *
          clear hb1 hb2 hht hfi hix hl0 hl9
          go_wp2_with fail
          refine (CF.out _ HF3.out).mono ?_; rintro e w4 ⟨rfl, rfl⟩
          go_wp2_with fail
          refine (CF.out _ HF3.out).mono ?_; rintro e w4 ⟨rfl, rfl⟩
          go_wp2_with fail
          have HX : Hid (b ≤ kk ∧ (kk : Int) ≤ 20000000000000) := Lib.hid ⟨hbh, hkb⟩
          go_loopw [15] (fun u wr => ∃ m : Nat, u = .int .i64 (m : Int) ∧ ix + b ≤ m ∧ m ≤ ix + kk + 1 ∧ Fr (fun _ => False) w1 wr) (fun u _ => ix + kk + 1 - (intOf u).toNat)
          case atStart => exact ⟨ix + b, by simp, Nat.le_refl _, by omega, HF3.out⟩
          case round =>
            obtain ⟨m, rfl, hj1, hj2, hf⟩ := hrel
            have HFR := Lib.hid hf
            have HJ1 := Lib.hid hj1
            clear hf
            have hjb : (m : Int) ≤ 40000000000001 := by omega
            by_cases hjk : m ≤ ix + kk
            · have hjk3 : (m : Int) ≤ (ix : Int) + (kk : Int) := by omega
              have C := Lib.hid (CM.out (m : Int) ht (by omega) (by omega) wr HFR.out)
              have hm := HBE.out.all (m - ix) (by omega) (by omega)
              rw [HHT.out, HIX.out, show (ix : Int) + ((m - ix : Nat) : Int) = (m : Int) by omega] at hm
              rw [hm] at C
              clear hm
              go_wp2_with fail
              refine C.out.mono ?_; rintro e w5 ⟨rfl, hf5⟩
              have HF5 := Lib.hid (HFR.out.trans hf5 (fun _ _ h => h))
              clear hf5 C
              go_wp2
              refine ⟨⟨m + 1, by simp, by have := HJ1.out; omega, by omega, HF5.out⟩, ?_⟩
              first | omega | (show _ < _; simp [intOf]; omega)
            · have hjk3 : ¬ ((m : Int) ≤ (ix : Int) + (kk : Int)) := by omega
              have d9 : decide ((m : Int) ≤ (ix : Int) + (kk : Int)) = false := decide_eq_false hjk3
              have C := Lib.hid (CT.out ((ix : Int) + (b : Int) - 1) (by omega) (by omega) wr HFR.out)
              have hfirst := HBE.out.first
              rw [HHT.out, HIX.out] at hfirst
              generalize s.is ((ix : Int) + (b : Int) - 1) = qi at *
              generalize s.term ((ix : Int) + (b : Int) - 1) = ti at *
              by_cases hbf : b = 1
              · have g3 : ((ix : Int) + (b : Int) == fi) = true := by rw [beq_iff_eq]; have := HFI.out; have := HIX.out; omega
                clear hfirst hbf
                go_wp2_with fail
                refine C.out.mono ?_; rintro e w5 ⟨rfl, hf5⟩
                have HF5 := Lib.hid (HFR.out.trans hf5 (fun _ _ h => h))
                clear hf5 C
                go_wp2_with fail
                refine (CF.out _ HF5.out).mono ?_; rintro e w6 ⟨rfl, rfl⟩
                go_wp2
                go_ret
                exact ⟨rfl, HF1.out.trans HF5.out (fun _ _ h => h)⟩
              · rcases hfirst with h | ⟨h3, h4⟩
                · exact absurd h hbf
                subst h3
                have g3 : ((ix : Int) + (b : Int) == fi) = false := by rw [beq_eq_false_iff_ne]; have := HFI.out; have := HIX.out; omega
                have g4 : (ti == ht) = false := by rw [beq_eq_false_iff_ne]; exact h4
                have g5 : (ti != ht) = true := by unfold bne; rw [g4]; rfl
                go_wp2_with fail
                refine C.out.mono ?_; rintro e w5 ⟨rfl, hf5⟩
                have HF5 := Lib.hid (HFR.out.trans hf5 (fun _ _ h => h))
                clear hf5 C
                go_wp2_with fail
                refine (CF.out _ HF5.out).mono ?_; rintro e w6 ⟨rfl, rfl⟩
                go_wp2
                go_ret
                exact ⟨rfl, HF1.out.trans HF5.out (fun _ _ h => h)⟩
    · simp only [hq1] at C1
      refine C1.out.mono ?_; rintro e w1 ⟨rfl, hf1⟩
      have HF1 := Lib.hid (HF.out.trans hf1 (fun _ _ h => h))
      clear hf1 C1 hq1
      go_wp2
      go_ret
      exact ⟨rfl, HF1.out⟩
end Go.Proofs.Ytainkckcipdknaa
