/- The laws' few, whatever it says; LogNewer. -/
import Derived.Test.YtainkckcipdknaaQi
namespace Go.Proofs.Ytainkckcipdknaa
open Go.RowKit

set_option maxRecDepth 100000 in
set_option maxHeartbeats 4000000 in
theorem few_q (A : Option Addr) (n c : Nat) (ps : List EL) (G : Nat → Prop) (w : World) (h : Es w A n ps G) (hn : n ≤ 5000000000000) :
    Calls Try.prog 9 #[.slice A n c, .slice none 0 0] w fun e w' => ∃ q, e = .returned (.bool q) ∧ w = w' := by
  have HES := Lib.hid h
  have hnI : (n : Int) ≤ 5000000000000 := by omega
  clear h hn
  go_enter Try.func9, Try.ntmps9
  go_wp2_with fail
  go_loopw [6, 5] (fun u v wr => ∃ (k : Nat) (z : Int), u = .int .i64 (k : Int) ∧ v = .int .i64 z ∧ k ≤ n ∧ w = wr) (fun u _ _ => n - (intOf u).toNat)
  case atStart => exact ⟨0, _, rfl, rfl, Nat.zero_le _, rfl⟩
  case round =>
    obtain ⟨k, z, rfl, rfl, hk, rfl⟩ := hrel
    have hk0 : (0 : Int) ≤ (k : Int) := by omega
    by_cases hlt : k < n
    · have hlt' : (k : Int) < n := by omega
      obtain ⟨b, off, rfl, e0, e1, he⟩ := HES.out.at hlt
      unfold EL.bv at e1
      generalize (ps.getD k default).e.d.length = m at *
      generalize (ps.getD k default).A = A2 at *
      generalize (ps.getD k default).c = c2 at *
      clear he e0
      go_wp2
      refine ⟨⟨k + 1, _, by simp, rfl, by omega, trivial⟩, ?_⟩
      first | omega | (show _ < _; simp [intOf]; omega)
    · obtain rfl : k = n := by omega
      by_cases hz : z ≤ 8192
      · go_wp2_with fail
        go_loopw [7, 5] (fun u v wr => u = .int .i64 0 ∧ v = .int .i64 z ∧ w = wr) (fun _ _ _ => 0)
        case atStart => exact ⟨rfl, rfl, rfl⟩
        case round =>
          obtain ⟨rfl, rfl, rfl⟩ := hrel
          go_wp2
          go_ret
          exact ⟨_, rfl, rfl⟩
      · have d0 : decide (z ≤ 8192) = false := decide_eq_false hz
        go_wp2_with fail
        go_loopw [7, 5] (fun u v wr => u = .int .i64 0 ∧ v = .int .i64 z ∧ w = wr) (fun _ _ _ => 0)
        case atStart => exact ⟨rfl, rfl, rfl⟩
        case round =>
          obtain ⟨rfl, rfl, rfl⟩ := hrel
          go_wp2
          go_ret
          exact ⟨_, rfl, rfl⟩

theorem LG.newer_both (s r : LG) : (s.newer r.lastI r.lastT || r.newer s.lastI s.lastT) = true ∧ ((s.newer r.lastI r.lastT && r.newer s.lastI s.lastT) = (decide (s.lastI = r.lastI) && decide (s.lastT = r.lastT))) := by
  unfold LG.newer
  generalize s.lastI = a
  generalize s.lastT = b
  generalize r.lastI = c
  generalize r.lastT = d
  constructor
  · simp only [Bool.or_eq_true, Bool.and_eq_true, decide_eq_true_eq]
    omega
  · rw [Bool.eq_iff_iff]
    simp only [Bool.or_eq_true, Bool.and_eq_true, decide_eq_true_eq]
    omega
theorem begins00 : begins 0 0 = true := by decide
set_option maxRecDepth 100000 in
set_option maxHeartbeats 4000000 in
theorem newer_any (A : Option Addr) (n c : Nat) (ps : List EL) (A2 : Option Addr) (n2 c2 : Nat) (ps2 : List EL) (w : World) (h : Es w A n ps (fun k => k < w.heap.size)) (hn : n ≤ 5000000000000) (h2 : Es w A2 n2 ps2 (fun k => k < w.heap.size)) (hn2 : n2 ≤ 5000000000000) :
    Calls Try.prog 7 #[.slice A n c, .slice A2 n2 c2] w fun e w' => e = .returned (.bool true) ∧ Fr (fun _ => False) w w' := by
  have H1 := Lib.hid h
  have H2 := Lib.hid h2
  have HN := Lib.hid (And.intro hn hn2)
  clear h h2 hn hn2
  go_enter Try.func7, Try.ntmps7
  go_wp2_with fail
  refine (known_any w).mono ?_; rintro e w0 ⟨rfl, hf0⟩
  have HF := Lib.hid hf0
  clear hf0
  go_wp2_with fail
  refine (few_q A n c ps _ w0 (H1.out.fr0 HF.out) HN.out.1).mono ?_; rintro e w1 ⟨q1, rfl, rfl⟩
  cases q1 with
  | false =>
    go_wp2
    go_ret
    exact ⟨rfl, HF.out⟩
  | true =>
    go_wp2_with fail
    refine (few_q A2 n2 c2 ps2 _ w0 (H2.out.fr0 HF.out) HN.out.2).mono ?_; rintro e w1 ⟨q2, rfl, rfl⟩
    cases q2 with
    | false =>
      go_wp2
      go_ret
      exact ⟨rfl, HF.out⟩
    | true =>
      have C1 := Lib.hid (lgNew 0 0 A n c ps _ w0 (H1.out.fr0 HF.out) (fun k hk => Nat.lt_of_lt_of_le hk HF.out.size) HN.out.1 (by omega) (by omega))
      unfold NewL at C1
      rw [begins00, Bool.true_and] at C1
      go_wp2_with fail
      by_cases hq1 : rise 0 (ps.map EL.e) = true
      · simp only [hq1, if_true] at C1
        refine C1.out.mono ?_; rintro e w1 ⟨g1, F1, rfl, hl1, hf1, hn1, hg1⟩
        have C2 := Lib.hid (lgNew 0 0 A2 n2 c2 ps2 _ w1 ((H2.out.fr0 HF.out).fr0 hf1) (fun k hk => Nat.lt_of_lt_of_le hk (Nat.le_trans HF.out.size hf1.size)) HN.out.2 (by omega) (by omega))
        unfold NewL at C2
        rw [begins00, Bool.true_and] at C2
        have HL1 := Lib.hid hl1
        have HF1 := Lib.hid (HF.out.trans hf1 (fun _ _ h => h))
        clear hl1 hf1 hn1 hg1 C1 hq1
        go_wp2_with fail
        by_cases hq2 : rise 0 (ps2.map EL.e) = true
        · simp only [hq2, if_true] at C2
          refine C2.out.mono ?_; rintro e w2 ⟨g2, F2, rfl, hl2, hf2, hn2, hg2⟩
          have HLa := Lib.hid (HL1.out.fr0 hf2)
          have HLb := Lib.hid hl2
          have HF2 := Lib.hid (HF1.out.trans hf2 (fun _ _ h => h))
          clear hl2 hf2 hn2 hg2 C2 hq2
          obtain ⟨s, hs⟩ : ∃ s, (⟨(0 : Int).toNat, 0, ps.map EL.e⟩ : LG) = s := ⟨_, rfl⟩
          obtain ⟨r, hr⟩ : ∃ r, (⟨(0 : Int).toNat, 0, ps2.map EL.e⟩ : LG) = r := ⟨_, rfl⟩
          rw [hs] at HLa HL1
          rw [hr] at HLb
          have CL1 := Lib.hid (lgLast HLa.out)
          have CL2 := Lib.hid (fun w' (hf : Fr (fun _ => False) w2 w') => lgLast (HLb.out.fr0 hf))
          have CN1 := Lib.hid (fun w' (hf : Fr (fun _ => False) w2 w') => lgNewer (HLa.out.fr0 hf) r.lastI r.lastT)
          have CN2 := Lib.hid (fun w' (hf : Fr (fun _ => False) w2 w') => lgNewer (HLb.out.fr0 hf) s.lastI s.lastT)
          have HB := Lib.hid (LG.newer_both s r)
          generalize s.lastI = si at *
          generalize s.lastT = st at *
          generalize r.lastI = ri at *
          generalize r.lastT = rt at *
          generalize s.newer ri rt = p at *
          generalize r.newer si st = q at *
          clear hs hr
          go_wp2_with fail
          refine CL1.out.mono ?_; rintro e w3 ⟨rfl, hf3⟩
          have HF3 := Lib.hid hf3
          clear hf3 CL1
          go_wp2_with fail
          refine (CL2.out _ HF3.out).mono ?_; rintro e w4 ⟨rfl, hf4⟩
          have HF4 := Lib.hid (HF3.out.trans hf4 (fun _ _ h => h))
          clear hf4 CL2
          go_wp2_with fail
          refine (CN1.out _ HF4.out).mono ?_; rintro e w5 ⟨rfl, hf5⟩
          have HF5 := Lib.hid (HF4.out.trans hf5 (fun _ _ h => h))
          clear hf5 CN1
          go_wp2_with fail
          refine (CN2.out _ HF5.out).mono ?_; rintro e w6 ⟨rfl, hf6⟩
          have HF6 := Lib.hid (HF2.out.trans (HF5.out.trans hf6 (fun _ _ h => h)) (fun _ _ h => h))
          clear hf6 CN2
          obtain ⟨d1, hd1⟩ : ∃ d, (si == ri) = d := ⟨_, rfl⟩
          obtain ⟨d2, hd2⟩ : ∃ d, (st == rt) = d := ⟨_, rfl⟩
          have HB2 : Hid ((p || q) = true ∧ (p && q) = (d1 && d2)) := Lib.hid ⟨HB.out.1, by rw [HB.out.2, ← hd1, ← hd2]; congr 1⟩
          cases p <;> cases q <;> cases d1 <;> cases d2 <;> first
            | (have := HB2.out; simp at this; done)
            | (go_wp2; go_ret; exact ⟨rfl, HF6.out⟩)
        · simp only [hq2] at C2
          refine C2.out.mono ?_; rintro e w2 ⟨rfl, hf2⟩
          have HF2 := Lib.hid (HF1.out.trans hf2 (fun _ _ h => h))
          clear hf2 C2 hq2
          go_wp2
          go_ret
          exact ⟨rfl, HF2.out⟩
      · simp only [hq1] at C1
        refine C1.out.mono ?_; rintro e w1 ⟨rfl, hf1⟩
        have HF1 := Lib.hid (HF.out.trans hf1 (fun _ _ h => h))
        have HF01 := Lib.hid hf1
        have C2 := Lib.hid (lgNew 0 0 A2 n2 c2 ps2 _ w1 ((H2.out.fr0 HF.out).fr0 hf1) (fun k hk => Nat.lt_of_lt_of_le hk (Nat.le_trans HF.out.size hf1.size)) HN.out.2 (by omega) (by omega))
        unfold NewL at C2
        rw [begins00, Bool.true_and] at C2
        clear hf1 C1 hq1
        go_wp2_with fail
        by_cases hq2 : rise 0 (ps2.map EL.e) = true
        · simp only [hq2, if_true] at C2
          refine C2.out.mono ?_; rintro e w2 ⟨g2, F2, rfl, hl2, hf2, hn2, hg2⟩
          have HF2 := Lib.hid (HF1.out.trans hf2 (fun _ _ h => h))
          clear hl2 hf2 hn2 hg2 C2 hq2
          go_wp2
          go_ret
          exact ⟨rfl, HF2.out⟩
        · simp only [hq2] at C2
          refine C2.out.mono ?_; rintro e w2 ⟨rfl, hf2⟩
          have HF2 := Lib.hid (HF1.out.trans hf2 (fun _ _ h => h))
          clear hf2 C2 hq2
          go_wp2
          go_ret
          exact ⟨rfl, HF2.out⟩
end Go.Proofs.Ytainkckcipdknaa
