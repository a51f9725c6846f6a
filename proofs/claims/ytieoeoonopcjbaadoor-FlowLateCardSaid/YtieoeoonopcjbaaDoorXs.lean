/- FlowLate: the walk. -/
import Derived.Test.YtieoeoonopcjbaaDoorXr
namespace Go.Proofs.YtieoeoonopcjbaaDoor
open Go.RowKit Go.Maps

theorem and3 (a : Int) : 0 ≤ bits BinOp.and IntKind.i64 a 3 ∧ bits BinOp.and IntKind.i64 a 3 ≤ 3 := by
  have h : (BitVec.ofInt 64 a &&& BitVec.ofInt 64 3).toNat ≤ 3 := by
    rw [BitVec.toNat_and]
    exact Nat.le_trans Nat.and_le_right (by decide)
  have e : bits BinOp.and IntKind.i64 a 3 = IntKind.i64.wrap ((BitVec.ofInt 64 a &&& BitVec.ofInt 64 3).toNat : Int) := rfl
  rw [e, IntWalk.i64_in _ (by omega)]
  omega
set_option maxRecDepth 100000 in
set_option maxHeartbeats 8000000 in
theorem late_any (a : Int) (asked : Bool) (kk : Int) (w : World) (hM : MadeT w) : Calls Tryd.prog 7 #[.int .i64 a, .bool asked, .int .i64 kk] w fun e w' => e = .returned (.bool true) ∧ Fr (fun _ => False) w w' := by
  have CK := Lib.hid (known_any w hM)
  have HM := Lib.hid hM
  obtain ⟨kr, hkr⟩ : ∃ kr, bits BinOp.and IntKind.i64 kk 3 = kr := ⟨_, rfl⟩
  have HKR : Hid (0 ≤ kr ∧ kr ≤ 3) := Lib.hid (hkr ▸ and3 kk)
  have hw5 : IntKind.wrap .i64 (5 + kr) = 5 + kr := by have := HKR.out; simp only [IntKind.wrap_i64]; omega
  have CN : Hid (∀ w', Fr (fun _ => False) w w' → Calls Tryd.prog 12 #[.int .i64 3, .int .i64 1, .int .i64 0, .int .i64 7, .slice none 0 0, .int .i64 0] w' fun e w9 => ∃ g bm Ao co, e = .returned (.tuple #[.pointer (some ⟨g, 0, none⟩), .slice Ao 1 co, .int .i64 0]) ∧ Kept w w9 g bm sL1) := Lib.hid (fun w' hf => by
    refine (newF_any 3 1 0 7 none 0 0 [] 0 w' (Rd8.nil _ _) rfl (by omega) ⟨by omega, by omega⟩ ⟨by omega, by omega⟩ ⟨by omega, by omega⟩ ⟨by omega, by omega⟩ ⟨by omega, by omega⟩ (fun ad e => by cases e)).mono ?_
    rintro e w1 ⟨g, bm, A, c, ps, D, Ao, m, co, os, rfl, hl, ho, hfl, hown, hfb, hob, hf1⟩
    rw [stL1] at ho hfl
    obtain ⟨rfl, x, rfl, hx⟩ := one_of hl ho
    exact ⟨g, bm, Ao, co, rfl, A, c, ps, D, hfl, hf.trans hf1 (fun _ _ h => h), fun y e => by
      have h9 : w'.heap.size ≤ y := by
        rcases e with rfl | rfl | e
        · exact hfb _ (.inl rfl)
        · exact hfb _ (.inr (.inl rfl))
        · exact hfb _ (.inr (.inr (.inl e)))
      have := hf.size; omega⟩)
  have CD : Hid (∀ w' g bm, Kept w w' g bm sL1 → Calls Tryd.prog 19 #[.pointer (some ⟨g, 0, none⟩), .int .i64 2, .int .i64 0, .int .i64 0] w' fun e w9 => (∃ v u, e = .returned (.tuple #[v, u])) ∧ Kept w w9 g bm sL2) := Lib.hid (fun w' g bm h => by
    obtain ⟨A, c, ps, D, h1, h2, h3⟩ := h
    refine (decides_ok h1 (by decide) 2 0 0 2 rfl (by omega) ⟨by decide, by decide⟩ ⟨by omega, by omega⟩ (by decide) rfl (by decide)).mono ?_
    rintro e w9 ⟨A', c', ps', mo', D', Ao, mo, co, os, rfl, -, -, h4, h5⟩
    obtain rfl := h5 (by intro e he; simp [evN] at he; subst he; rfl)
    rw [stL2] at h4
    exact ⟨⟨_, _, rfl⟩, Kept.lay h2 h3 h4⟩)
  clear hM
  go_enter Tryd.func7, Tryd.ntmps7
  go_wp2_with fail
  refine CK.out.mono ?_; rintro e w1 ⟨rfl, hf1⟩
  have HF1 := Lib.hid hf1
  clear hf1 CK
  by_cases h1 : a < 0
  · have d1 : decide (a < 0) = true := decide_eq_true h1
    clear h1
    go_wp2
    go_ret
    exact ⟨rfl, HF1.out⟩
  have d1 : decide (a < 0) = false := decide_eq_false h1
  by_cases h2 : (30 : Int) < a
  · have d2 : decide ((30 : Int) < a) = true := decide_eq_true h2
    clear h1 h2
    go_wp2
    go_ret
    exact ⟨rfl, HF1.out⟩
  have d2 : decide ((30 : Int) < a) = false := decide_eq_false h2
  obtain ⟨m, rfl⟩ : ∃ m : Nat, a = (m : Int) := ⟨a.toNat, by omega⟩
  have HM30 : Hid (m ≤ 30) := Lib.hid (by omega)
  clear h1 h2
  go_wp2_with fail
  clear d1 d2 hkr hw5
  refine (CN.out _ HF1.out).mono ?_; rintro e w2 ⟨g, bm, Ao, co, rfl, hk⟩
  have HK := Lib.hid hk
  clear hk CN HF1
  go_wp2_with fail
  refine (CD.out _ g bm HK.out).mono ?_; rintro e w3 ⟨⟨v, u, rfl⟩, hk⟩
  have HK3 := Lib.hid hk
  clear hk CD HK
  go_wp2_with fail
  go_loopw [10] (fun v wr => ∃ j : Nat, v = .int .i64 (j : Int) ∧ j ≤ m ∧ Hid (∃ s, Came j s ∧ s.asked = false ∧ Kept w wr g bm s)) (fun v _ => m - (intOf v).toNat)
  case atStart => exact ⟨0, rfl, Nat.zero_le _, Lib.hid ⟨sL2, cameL2, rfl, HK3.out⟩⟩
  case round =>
    clear HK3
    obtain ⟨j, rfl, hj, HS⟩ := hrel
    have HJ := Lib.hid hj
    by_cases hjm : j < m
    · have dj : decide ((j : Int) < (m : Int)) = true := decide_eq_true (by omega)
      have hw8 : IntKind.wrap .u8 (j : Int) = (j : Int) := by have := HM30.out; simp only [IntKind.wrap_u8]; omega
      have hwj : IntKind.wrap .i64 ((j : Int) + 1) = (j : Int) + 1 := by have := HM30.out; simp only [IntKind.wrap_i64]; omega
      have HJM := Lib.hid hjm
      clear hj hjm
      go_wp2_with fail
      obtain ⟨s, hc, ha, hk⟩ := HS.out
      refine (signalK hk hc (by have := HM30.out; have := HJ.out; omega) j (by have := HM30.out; have := HJ.out; omega) _).mono ?_; rintro e w4 ⟨⟨v4, u4, rfl⟩, s4, hc4, ha4, hk4⟩
      have HS4 : Hid (∃ s, Came (j + 1) s ∧ s.asked = false ∧ Kept w w4 g bm s) := Lib.hid ⟨s4, hc4, ha4.trans ha, hk4⟩
      clear hc ha hk hc4 ha4 hk4 dj hw8 HS
      go_wp2
      go_roundw
      case rel => exact ⟨j + 1, by first | rfl | (push_cast; rfl) | (go_num; done), HJM.out, HS4⟩
      case measure => (have := HJM.out; simp [intOf]) <;> omega
    · have dj : decide ((j : Int) < (m : Int)) = false := decide_eq_false (by omega)
      obtain rfl : j = m := by omega
      clear hj hjm
      obtain ⟨s, hc, ha, hk⟩ := HS.out
      have HC := Lib.hid hc
      have HASK := Lib.hid ha
      have HKs := Lib.hid hk
      clear hc ha hk HS
      cases asked
      · by_cases h7 : kr = 2
        · have d7 : ((5 + kr) == 7) = true := by rw [beq_iff_eq]; omega
          clear dj h7
          have CC := Lib.hid (cancelK HKs.out HC.out (by have := HM30.out; omega) HASK.out)
          go_wp2_with fail
          refine CC.out.mono ?_; rintro e w4 ⟨⟨v4, u4, rfl⟩, s4, hc4, ha4, hk4⟩
          have HC : Hid (Came (j + 1) s4) := Lib.hid hc4
          have HKs := Lib.hid hk4
          have HA : Hid (5 + kr = 7 → s4.asked = true) := Lib.hid (fun _ => ha4)
          have hwm : IntKind.wrap .i64 ((j : Int) + 1) = (j : Int) + 1 := by have := HM30.out; simp only [IntKind.wrap_i64]; omega
          have z9 : (((j : Int) + 1) == 0) = false := by rw [beq_eq_false_iff_ne]; omega
          clear hc4 ha4 hk4 CC
          have CR := Lib.hid (refusedK HKs.out HM.out HC.out (j := j) (by have := HM30.out; omega) (5 + kr) (by have := HKR.out; omega) HA.out)
          go_wp2_with fail
          refine CR.out.mono ?_; rintro e w5 ⟨b, off, c5, rfl, ⟨c0, c2, c3⟩, s5, hag, has, hkb⟩
          have HAG := Lib.hid hag
          have HKB := Lib.hid hkb
          have HAS := Lib.hid has
          have CS := Lib.hid (statusK hkb.kept (by rw [hag.len]; omega) hag.st)
          have CA := Lib.hid (againK hkb hag (by have := HM30.out; omega))
          have HC2 := Lib.hid c2
          clear hag hkb has CR
          go_wp2_with fail
          refine CS.out.mono ?_; rintro e w6 ⟨rfl, rfl⟩
          clear CS
          go_wp2_with fail
          clear c0 c2 c3 z9
          refine CA.out.mono ?_; rintro e w7 ⟨⟨v7, rfl⟩, hcell, s7, hbe, hba, hk7⟩
          have c2 := hcell _ _ HC2.out
          have CF := Lib.hid (closesK' (6 + (j : Nat)) 1 3 hk7 HM.out (by unfold FS.taskAt; rw [hbe.tat, hbe.trn, if_pos ⟨by push_cast; omega, rfl⟩]) (by rw [hbe.len]; omega) (by rw [hbe.beg]; omega) hbe.late ⟨by omega, by omega⟩ (by have := hbe.last; rw [hbe.len]; rw [show 6 + (j + 1) - 1 = 5 + (j + 1) by omega]; exact this) hbe.st (by have := HM30.out; rw [hbe.len]; omega) (5 + kr) (by have := HKR.out; omega) (fun e => hba.trans (HAS.out.trans (HA.out e))))
          clear hcell hbe hba hk7 CA HKB HAG
          go_wp2_with fail
          clear c2
          refine CF.out.mono ?_; rintro e w8 ⟨A8, c8, rfl, hf8, st, hst, hcs⟩
          have HF8 := Lib.hid hf8
          have CS := Lib.hid hcs
          have d9 : (st != 1) = true := by rw [bne_iff_ne]; exact hst
          clear hf8 hcs hst CF
          go_wp2_with fail
          refine CS.out.mono ?_; rintro e w9 ⟨rfl, rfl⟩
          go_wp2
          go_ret
          exact ⟨rfl, HF8.out⟩
        · have d7 : ((5 + kr) == 7) = false := by rw [beq_eq_false_iff_ne]; omega
          have HA : Hid (5 + kr = 7 → s.asked = true) := Lib.hid (fun e => absurd (by omega) h7)
          clear dj h7
          rcases Nat.eq_zero_or_pos j with h0 | h0
          · subst h0
            have CF := Lib.hid (closesK' 2 0 2 HKs.out HM.out (by unfold FS.taskAt; rw [HC.out.tat, HC.out.trn, if_pos ⟨rfl, rfl⟩]) (by rw [HC.out.len]; omega) (by rw [HC.out.beg]; decide) HC.out.late ⟨by omega, by omega⟩ (by have := HC.out.last; rw [HC.out.len]; exact Int.le_trans this (by decide)) HC.out.st (by rw [HC.out.len]; omega) (5 + kr) (by have := HKR.out; omega) HA.out)
            go_wp2_with fail
            refine CF.out.mono ?_; rintro e w8 ⟨A8, c8, rfl, hf8, st, hst, hcs⟩
            have HF8 := Lib.hid hf8
            have CS := Lib.hid hcs
            have d9 : (st != 1) = true := by rw [bne_iff_ne]; exact hst
            clear hf8 hcs hst CF d7
            go_wp2_with fail
            refine CS.out.mono ?_; rintro e w9 ⟨rfl, rfl⟩
            go_wp2
            go_ret
            exact ⟨rfl, HF8.out⟩
          · obtain ⟨i, rfl⟩ : ∃ i, j = i + 1 := ⟨j - 1, by omega⟩
            have z9 : (((i + 1 : Nat) : Int) == 0) = false := by rw [beq_eq_false_iff_ne]; omega
            clear h0
            have CR := Lib.hid (refusedK HKs.out HM.out HC.out (j := i) (by have := HM30.out; omega) (5 + kr) (by have := HKR.out; omega) HA.out)
            go_wp2_with fail
            refine CR.out.mono ?_; rintro e w5 ⟨b, off, c5, rfl, ⟨c0, c2, c3⟩, s5, hag, has, hkb⟩
            have HAG := Lib.hid hag
            have HKB := Lib.hid hkb
            have HAS := Lib.hid has
            have CS := Lib.hid (statusK hkb.kept (by rw [hag.len]; omega) hag.st)
            have CA := Lib.hid (againK hkb hag (by have := HM30.out; omega))
            have HC2 := Lib.hid c2
            clear hag hkb has CR
            go_wp2_with fail
            refine CS.out.mono ?_; rintro e w6 ⟨rfl, rfl⟩
            clear CS
            go_wp2_with fail
            clear c0 c2 c3 z9
            refine CA.out.mono ?_; rintro e w7 ⟨⟨v7, rfl⟩, hcell, s7, hbe, hba, hk7⟩
            have c2 := hcell _ _ HC2.out
            have CF := Lib.hid (closesK' (6 + (i : Nat)) 1 3 hk7 HM.out (by unfold FS.taskAt; rw [hbe.tat, hbe.trn, if_pos ⟨by push_cast; omega, rfl⟩]) (by rw [hbe.len]; omega) (by rw [hbe.beg]; omega) hbe.late ⟨by omega, by omega⟩ (by have := hbe.last; rw [hbe.len]; rw [show 6 + (i + 1) - 1 = 5 + (i + 1) by omega]; exact this) hbe.st (by have := HM30.out; rw [hbe.len]; omega) (5 + kr) (by have := HKR.out; omega) (fun e => hba.trans (HAS.out.trans (HA.out e))))
            clear hcell hbe hba hk7 CA HKB HAG
            go_wp2_with fail
            clear c2
            refine CF.out.mono ?_; rintro e w8 ⟨A8, c8, rfl, hf8, st, hst, hcs⟩
            have HF8 := Lib.hid hf8
            have CS := Lib.hid hcs
            have d9 : (st != 1) = true := by rw [bne_iff_ne]; exact hst
            clear hf8 hcs hst CF
            go_wp2_with fail
            refine CS.out.mono ?_; rintro e w9 ⟨rfl, rfl⟩
            go_wp2
            go_ret
            exact ⟨rfl, HF8.out⟩
      · clear dj
        have CC := Lib.hid (cancelK HKs.out HC.out (by have := HM30.out; omega) HASK.out)
        go_wp2_with fail
        refine CC.out.mono ?_; rintro e w4 ⟨⟨v4, u4, rfl⟩, s4, hc4, ha4, hk4⟩
        have HC : Hid (Came (j + 1) s4) := Lib.hid hc4
        have HKs := Lib.hid hk4
        have HA : Hid (5 + kr = 7 → s4.asked = true) := Lib.hid (fun _ => ha4)
        have hwm : IntKind.wrap .i64 ((j : Int) + 1) = (j : Int) + 1 := by have := HM30.out; simp only [IntKind.wrap_i64]; omega
        have z9 : (((j : Int) + 1) == 0) = false := by rw [beq_eq_false_iff_ne]; omega
        clear hc4 ha4 hk4 CC
        have CR := Lib.hid (refusedK HKs.out HM.out HC.out (j := j) (by have := HM30.out; omega) (5 + kr) (by have := HKR.out; omega) HA.out)
        go_wp2_with fail
        refine CR.out.mono ?_; rintro e w5 ⟨b, off, c5, rfl, ⟨c0, c2, c3⟩, s5, hag, has, hkb⟩
        have HAG := Lib.hid hag
        have HKB := Lib.hid hkb
        have HAS := Lib.hid has
        have CS := Lib.hid (statusK hkb.kept (by rw [hag.len]; omega) hag.st)
        have CA := Lib.hid (againK hkb hag (by have := HM30.out; omega))
        have HC2 := Lib.hid c2
        clear hag hkb has CR
        go_wp2_with fail
        refine CS.out.mono ?_; rintro e w6 ⟨rfl, rfl⟩
        clear CS
        go_wp2_with fail
        clear c0 c2 c3 z9
        refine CA.out.mono ?_; rintro e w7 ⟨⟨v7, rfl⟩, hcell, s7, hbe, hba, hk7⟩
        have c2 := hcell _ _ HC2.out
        have CF := Lib.hid (closesK' (6 + (j : Nat)) 1 3 hk7 HM.out (by unfold FS.taskAt; rw [hbe.tat, hbe.trn, if_pos ⟨by push_cast; omega, rfl⟩]) (by rw [hbe.len]; omega) (by rw [hbe.beg]; omega) hbe.late ⟨by omega, by omega⟩ (by have := hbe.last; rw [hbe.len]; rw [show 6 + (j + 1) - 1 = 5 + (j + 1) by omega]; exact this) hbe.st (by have := HM30.out; rw [hbe.len]; omega) (5 + kr) (by have := HKR.out; omega) (fun e => hba.trans (HAS.out.trans (HA.out e))))
        clear hcell hbe hba hk7 CA HKB HAG
        go_wp2_with fail
        clear c2
        refine CF.out.mono ?_; rintro e w8 ⟨A8, c8, rfl, hf8, st, hst, hcs⟩
        have HF8 := Lib.hid hf8
        have CS := Lib.hid hcs
        have d9 : (st != 1) = true := by rw [bne_iff_ne]; exact hst
        clear hf8 hcs hst CF
        go_wp2_with fail
        refine CS.out.mono ?_; rintro e w9 ⟨rfl, rfl⟩
        go_wp2
        go_ret
        exact ⟨rfl, HF8.out⟩
end Go.Proofs.YtieoeoonopcjbaaDoor
