/- QuorumMeets, walked. -/
import Derived.Test.YtiinkjplhihdaaaOx
import Derived.Test.YtiinkjplhihdaaaOn
import Derived.Deep.DeepCutAuto
namespace Go.Proofs.Ytiinkjplhihdaaa
open Go.RowKit

set_option maxRecDepth 100000 in
set_option maxHeartbeats 8000000 in
theorem lawMeets_any (m : Nat → Int) (node role : Int) (A : Option Addr) (N c : Nat) (a : Nat → Bool) (A2 : Option Addr) (N2 c2 : Nat) (b : Nat → Bool) (w : World) (hm : ∀ k, 0 ≤ m k ∧ m k < 256) (h1 : RdF w A N (fun j => .bool (a j))) (h2 : RdF w A2 N2 (fun j => .bool (b j)))
    (hN : (N : Int) ≤ 9223372036854775807) (hN2 : (N2 : Int) ≤ 9223372036854775807) :
    Calls Try.prog 5 #[mv m, .int .i64 node, .int .i64 role, .slice A N c, .slice A2 N2 c2] w fun e w' => e = .returned (.bool true) ∧ Fr (fun _ => False) w w' := by
  obtain ⟨w1, hw1⟩ : ∃ w1, w.alloc (.cells (mcs m) 23) = w1 := ⟨_, rfl⟩
  have hbx1 : Bx w1 w.heap.size 0 m := by rw [← hw1]; exact Bx.new w 23 m
  have hf1 : Fr (fun _ => False) w w1 := by rw [← hw1]; exact (Fr.refl _ _).alloc _
  have CK := Lib.hid (known_any w1)
  have CR := Lib.hid right_any
  have CC := Lib.hid (change_any m hm node role)
  have CV := Lib.hid (fun q hq w' (hf : Fr (fun _ => False) w w') => votes_any q hq A N c a w' (h1.fr0 hf))
  have CV2 := Lib.hid (fun q hq w' (hf : Fr (fun _ => False) w w') => votes_any q hq A2 N2 c2 b w' (h2.fr0 hf))
  have HM := Lib.hid (fun hR hw hw2 => meet (a := a) (b := b) hm hR node role hw hw2)
  have HNX := Lib.hid (fun hR => nxt_is hm hR node role)
  have HDF : Hid (nxt m node role = if (chg m node role).2 = 0 then (chg m node role).1 else m) := Lib.hid rfl
  have H1 := Lib.hid h1
  have H2 := Lib.hid h2
  unfold mcs at hw1
  unfold mv at CR CC CV CV2 ⊢
  clear h1 h2
  go_enter Try.func5, Try.ntmps5
  go_wp2_with fail
  refine CK.out.mono ?_; rintro e w2 ⟨rfl, hf2⟩
  have hbx2 := hbx1.fr hf2 (fun h => h)
  have hF2 := hf1.trans hf2 (fun _ _ h => h)
  have hb2 : ∀ k, k < 9 → w2.cell? ⟨w.heap.size, k, none⟩ = some (.int .u8 (m k)) := fun k hk => hbx2.at0 hk
  clear hw1
  go_wp2_with fail
  refine (CR.out m hm _).mono ?_; rintro e w3 ⟨rfl, hf3⟩
  have hbx3 := hbx2.fr hf3 (fun h => h)
  have hF3 := hF2.trans hf3 (fun _ _ h => h)
  clear hb2
  by_cases hR : rightP m
  · rw [rightB_yes hR]
    by_cases h9 : N = 9
    · subst h9
      by_cases h92 : N2 = 9
      · subst h92
        have hb3 : ∀ k, k < 9 → w3.cell? ⟨w.heap.size, k, none⟩ = some (.int .u8 (m k)) := fun k hk => hbx3.at0 hk
        have C3 := Lib.hid (CC.out w3)
        obtain ⟨hq, hqR, _⟩ := HNX.out hR
        have HM2 := Lib.hid (HM.out hR)
        have HF3 := Lib.hid hF3
        have HB3 := Lib.hid hbx3
        have HDF2 := HDF
        obtain ⟨⟨q0, z⟩, hqz⟩ : ∃ p, chg m node role = p := ⟨_, rfl⟩
        rw [hqz] at C3 HDF2
        dsimp only at C3 HDF2
        generalize nxt m node role = q at *
        have HQR := Lib.hid hqR
        clear HNX HM HDF hqz hF3 hF2 hf1 hf2 hf3 hbx1 hbx2 hbx3 hqR hR CC
        go_wp2_with fail
        refine C3.out.mono ?_; rintro e w4 ⟨rfl, hf4⟩
        have HF4 := Lib.hid (HF3.out.trans hf4 (fun _ _ h => h))
        have HB4 := Lib.hid (HB3.out.fr hf4 (fun h => h))
        have hb4 : ∀ k, k < 9 → w4.cell? ⟨w.heap.size, k, none⟩ = some (.int .u8 (m k)) := fun k hk => HB4.out.at0 hk
        obtain ⟨w5, hw5⟩ : ∃ w5, w4.alloc (.cells (mcs q) 23) = w5 := ⟨_, rfl⟩
        have HF5 : Hid (Fr (fun _ => False) w w5) := Lib.hid (by rw [← hw5]; exact HF4.out.alloc _)
        have HB5 : Hid (Bx w5 w.heap.size 0 m) := Lib.hid (by rw [← hw5]; exact HB4.out.fr ((Fr.refl (fun _ => False) _).alloc _) (fun h => h))
        have HQ5 : Hid (Bx w5 w4.heap.size 0 q) := Lib.hid (by rw [← hw5]; exact Bx.new w4 _ q)
        clear hb3 C3 hf4
        by_cases hz : z = 0
        · subst hz
          rw [if_pos rfl] at HDF2
          have hw5' : w4.alloc (.cells (mcs q0) 23) = w5 := by rw [← hw5, HDF2]
          unfold mcs at hw5'
          clear HDF2
          go_upto_region 8 with (fail)
          try rw [hw5']
          clear hw5'
          clear hb4 hw5
          have hq5 : ∀ k, k < 9 → w5.cell? ⟨w4.heap.size, k, none⟩ = some (.int .u8 (q k)) := fun k hk => HQ5.out.at0 hk
          have C5 := Lib.hid (CR.out q hq w5)
          rw [rightB_yes HQR.out] at C5
          go_wp2_with fail
          refine C5.out.mono ?_; rintro e w6 ⟨rfl, hf6⟩
          have HF6 := Lib.hid (HF5.out.trans hf6 (fun _ _ h => h))
          have HB6 := Lib.hid (HB5.out.fr hf6 (fun h => h))
          have HQ6 := Lib.hid (HQ5.out.fr hf6 (fun h => h))
          have hb6 : ∀ k, k < 9 → w6.cell? ⟨w.heap.size, k, none⟩ = some (.int .u8 (m k)) := fun k hk => HB6.out.at0 hk
          have C6 := Lib.hid (CV.out m hm w6 HF6.out)
          clear hq5 hf6 C5
          go_wp2_with fail
          refine C6.out.mono ?_; rintro e w7 ⟨rfl, hf7⟩
          have HF7 := Lib.hid (HF6.out.trans hf7 (fun _ _ h => h))
          have HB7 := Lib.hid (HB6.out.fr hf7 (fun h => h))
          have HQ7 := Lib.hid (HQ6.out.fr hf7 (fun h => h))
          have hq7 : ∀ k, k < 9 → w7.cell? ⟨w4.heap.size, k, none⟩ = some (.int .u8 (q k)) := fun k hk => HQ7.out.at0 hk
          have C7 := Lib.hid (CV2.out q hq w7 HF7.out)
          clear hb6 hf7 C6
          go_wp2_with fail
          refine C7.out.mono ?_; rintro e w8 ⟨rfl, hf8⟩
          have HF8 := Lib.hid (HF7.out.trans hf8 (fun _ _ h => h))
          have HB8 := Lib.hid (HB7.out.fr hf8 (fun h => h))
          have HQ8 := Lib.hid (HQ7.out.fr hf8 (fun h => h))
          have HR1 := Lib.hid (H1.out.fr0 HF8.out)
          have HR2 := Lib.hid (H2.out.fr0 HF8.out)
          clear hq7 hf8 C7 CV CV2 CR hq
          generalize lostB m 9 a = l1 at *
          generalize lostB q 9 b = l2 at *
          cases hw1 : wonB m 9 a with
          | false =>
            go_wp2
            go_ret
            exact ⟨rfl, HF8.out⟩
          | true =>
            cases hw2 : wonB q 9 b with
            | false =>
              go_wp2
              go_ret
              exact ⟨rfl, HF8.out⟩
            | true =>
              have HM3 := Lib.hid (HM2.out hw1 hw2)
              clear hw1 hw2 HM2
              go_wp2_with fail
              go_loopw [17] (fun i wr => ∃ k : Nat, i = .int .i64 (k : Int) ∧ k ≤ 9 ∧ (∀ j, j < k → ¬ (a j = true ∧ b j = true ∧ m j = 1 ∧ q j = 1)) ∧ w8 = wr) (fun i _ => 9 - (intOf i).toNat)
              case atStart => exact ⟨0, rfl, Nat.zero_le _, fun _ h => absurd h (Nat.not_lt_zero _), rfl⟩
              case round =>
                obtain ⟨k, rfl, hk, hno, rfl⟩ := hrel
                by_cases hlt : k < 9
                · obtain ⟨g1, o1, rfl, hc1⟩ := HR1.out (by omega)
                  obtain ⟨g2, o2, rfl, hc2⟩ := HR2.out (by omega)
                  have ha := hc1 k hlt
                  have hb := hc2 k hlt
                  dsimp only at ha hb
                  have hmk : w8.cell? ⟨w.heap.size, k, none⟩ = some (.int .u8 (m k)) := HB8.out.at0 hlt
                  have hqk : w8.cell? ⟨w4.heap.size, k, none⟩ = some (.int .u8 (q k)) := HQ8.out.at0 hlt
                  have hltI : (k : Int) < 9 := by omega
                  have HSTEP : Hid (¬ (a k = true ∧ b k = true ∧ m k = 1 ∧ q k = 1) → ∀ j, j < k + 1 → ¬ (a j = true ∧ b j = true ∧ m j = 1 ∧ q j = 1)) := Lib.hid (fun h j hj => by rcases Nat.lt_succ_iff_lt_or_eq.1 hj with h2 | rfl; exact hno j h2; exact h)
                  clear hc1 hc2 hno
                  cases hak : a k with
                  | false =>
                    have HN := Lib.hid (HSTEP.out (by rw [hak]; simp))
                    rw [hak] at ha
                    clear hak HSTEP
                    go_wp2
                    refine ⟨⟨k + 1, by simp, by omega, HN.out, trivial⟩, ?_⟩
                    first | omega | (show _ < _; simp [intOf]; omega)
                  | true =>
                    rw [hak] at ha
                    cases hbk : b k with
                    | false =>
                      have HN := Lib.hid (HSTEP.out (by rw [hbk]; simp))
                      rw [hbk] at hb
                      clear hak hbk HSTEP
                      go_wp2
                      refine ⟨⟨k + 1, by simp, by omega, HN.out, trivial⟩, ?_⟩
                      first | omega | (show _ < _; simp [intOf]; omega)
                    | true =>
                      rw [hbk] at hb
                      by_cases hm1 : m k = 1
                      · have dm : (m k == 1) = true := by simp [hm1]
                        by_cases hq1 : q k = 1
                        · have dq : (q k == 1) = true := by simp [hq1]
                          clear hm1 hq1 hak hbk HSTEP
                          go_wp2
                          go_ret
                          exact ⟨rfl, HF8.out⟩
                        · have dq : (q k == 1) = false := by simp [hq1]
                          have HN := Lib.hid (HSTEP.out (fun h => hq1 h.2.2.2))
                          clear hm1 hq1 hak hbk HSTEP
                          go_wp2
                          refine ⟨⟨k + 1, by simp, by omega, HN.out, trivial⟩, ?_⟩
                          first | omega | (show _ < _; simp [intOf]; omega)
                      · have dm : (m k == 1) = false := by simp [hm1]
                        have HN := Lib.hid (HSTEP.out (fun h => hm1 h.2.2.1))
                        clear hm1 hak hbk HSTEP
                        go_wp2
                        refine ⟨⟨k + 1, by simp, by omega, HN.out, trivial⟩, ?_⟩
                        first | omega | (show _ < _; simp [intOf]; omega)
                · obtain rfl : k = 9 := by omega
                  obtain ⟨j, hj, x1, x2, x3, x4⟩ := HM3.out
                  exact absurd ⟨x1, x2, x3, x4⟩ (hno j hj)
        · rw [if_neg hz] at HDF2
          have hzz : (z == 0) = false := by simp [hz]
          have hzz' : (z != 0) = true := by simp [hz]
          have hb4' : ∀ k, k < 9 → (w4.alloc (.cells (mcs q0) 23)).cell? ⟨w.heap.size, k, none⟩ = some (.int .u8 (m k)) := fun k hk => (HB4.out.fr ((Fr.refl (fun _ => False) _).alloc _) (fun h => h)).at0 hk
          unfold mcs at hb4'
          have hw5' : w4.alloc (.cells (mcs m) 23) = w5 := by rw [← hw5, HDF2]
          unfold mcs at hw5'
          clear HDF2 hz
          go_upto_region 8 with (fail)
          try rw [hw5']
          clear hw5' hb4'
          clear hb4 hw5
          have hq5 : ∀ k, k < 9 → w5.cell? ⟨w4.heap.size, k, none⟩ = some (.int .u8 (q k)) := fun k hk => HQ5.out.at0 hk
          have C5 := Lib.hid (CR.out q hq w5)
          rw [rightB_yes HQR.out] at C5
          go_wp2_with fail
          refine C5.out.mono ?_; rintro e w6 ⟨rfl, hf6⟩
          have HF6 := Lib.hid (HF5.out.trans hf6 (fun _ _ h => h))
          have HB6 := Lib.hid (HB5.out.fr hf6 (fun h => h))
          have HQ6 := Lib.hid (HQ5.out.fr hf6 (fun h => h))
          have hb6 : ∀ k, k < 9 → w6.cell? ⟨w.heap.size, k, none⟩ = some (.int .u8 (m k)) := fun k hk => HB6.out.at0 hk
          have C6 := Lib.hid (CV.out m hm w6 HF6.out)
          clear hq5 hf6 C5
          go_wp2_with fail
          refine C6.out.mono ?_; rintro e w7 ⟨rfl, hf7⟩
          have HF7 := Lib.hid (HF6.out.trans hf7 (fun _ _ h => h))
          have HB7 := Lib.hid (HB6.out.fr hf7 (fun h => h))
          have HQ7 := Lib.hid (HQ6.out.fr hf7 (fun h => h))
          have hq7 : ∀ k, k < 9 → w7.cell? ⟨w4.heap.size, k, none⟩ = some (.int .u8 (q k)) := fun k hk => HQ7.out.at0 hk
          have C7 := Lib.hid (CV2.out q hq w7 HF7.out)
          clear hb6 hf7 C6
          go_wp2_with fail
          refine C7.out.mono ?_; rintro e w8 ⟨rfl, hf8⟩
          have HF8 := Lib.hid (HF7.out.trans hf8 (fun _ _ h => h))
          have HB8 := Lib.hid (HB7.out.fr hf8 (fun h => h))
          have HQ8 := Lib.hid (HQ7.out.fr hf8 (fun h => h))
          have HR1 := Lib.hid (H1.out.fr0 HF8.out)
          have HR2 := Lib.hid (H2.out.fr0 HF8.out)
          clear hq7 hf8 C7 CV CV2 CR hq
          generalize lostB m 9 a = l1 at *
          generalize lostB q 9 b = l2 at *
          cases hw1 : wonB m 9 a with
          | false =>
            go_wp2
            go_ret
            exact ⟨rfl, HF8.out⟩
          | true =>
            cases hw2 : wonB q 9 b with
            | false =>
              go_wp2
              go_ret
              exact ⟨rfl, HF8.out⟩
            | true =>
              have HM3 := Lib.hid (HM2.out hw1 hw2)
              clear hw1 hw2 HM2
              go_wp2_with fail
              go_loopw [17] (fun i wr => ∃ k : Nat, i = .int .i64 (k : Int) ∧ k ≤ 9 ∧ (∀ j, j < k → ¬ (a j = true ∧ b j = true ∧ m j = 1 ∧ q j = 1)) ∧ w8 = wr) (fun i _ => 9 - (intOf i).toNat)
              case atStart => exact ⟨0, rfl, Nat.zero_le _, fun _ h => absurd h (Nat.not_lt_zero _), rfl⟩
              case round =>
                obtain ⟨k, rfl, hk, hno, rfl⟩ := hrel
                by_cases hlt : k < 9
                · obtain ⟨g1, o1, rfl, hc1⟩ := HR1.out (by omega)
                  obtain ⟨g2, o2, rfl, hc2⟩ := HR2.out (by omega)
                  have ha := hc1 k hlt
                  have hb := hc2 k hlt
                  dsimp only at ha hb
                  have hmk : w8.cell? ⟨w.heap.size, k, none⟩ = some (.int .u8 (m k)) := HB8.out.at0 hlt
                  have hqk : w8.cell? ⟨w4.heap.size, k, none⟩ = some (.int .u8 (q k)) := HQ8.out.at0 hlt
                  have hltI : (k : Int) < 9 := by omega
                  have HSTEP : Hid (¬ (a k = true ∧ b k = true ∧ m k = 1 ∧ q k = 1) → ∀ j, j < k + 1 → ¬ (a j = true ∧ b j = true ∧ m j = 1 ∧ q j = 1)) := Lib.hid (fun h j hj => by rcases Nat.lt_succ_iff_lt_or_eq.1 hj with h2 | rfl; exact hno j h2; exact h)
                  clear hc1 hc2 hno
                  cases hak : a k with
                  | false =>
                    have HN := Lib.hid (HSTEP.out (by rw [hak]; simp))
                    rw [hak] at ha
                    clear hak HSTEP
                    go_wp2
                    refine ⟨⟨k + 1, by simp, by omega, HN.out, trivial⟩, ?_⟩
                    first | omega | (show _ < _; simp [intOf]; omega)
                  | true =>
                    rw [hak] at ha
                    cases hbk : b k with
                    | false =>
                      have HN := Lib.hid (HSTEP.out (by rw [hbk]; simp))
                      rw [hbk] at hb
                      clear hak hbk HSTEP
                      go_wp2
                      refine ⟨⟨k + 1, by simp, by omega, HN.out, trivial⟩, ?_⟩
                      first | omega | (show _ < _; simp [intOf]; omega)
                    | true =>
                      rw [hbk] at hb
                      by_cases hm1 : m k = 1
                      · have dm : (m k == 1) = true := by simp [hm1]
                        by_cases hq1 : q k = 1
                        · have dq : (q k == 1) = true := by simp [hq1]
                          clear hm1 hq1 hak hbk HSTEP
                          go_wp2
                          go_ret
                          exact ⟨rfl, HF8.out⟩
                        · have dq : (q k == 1) = false := by simp [hq1]
                          have HN := Lib.hid (HSTEP.out (fun h => hq1 h.2.2.2))
                          clear hm1 hq1 hak hbk HSTEP
                          go_wp2
                          refine ⟨⟨k + 1, by simp, by omega, HN.out, trivial⟩, ?_⟩
                          first | omega | (show _ < _; simp [intOf]; omega)
                      · have dm : (m k == 1) = false := by simp [hm1]
                        have HN := Lib.hid (HSTEP.out (fun h => hm1 h.2.2.1))
                        clear hm1 hak hbk HSTEP
                        go_wp2
                        refine ⟨⟨k + 1, by simp, by omega, HN.out, trivial⟩, ?_⟩
                        first | omega | (show _ < _; simp [intOf]; omega)
                · obtain rfl : k = 9 := by omega
                  obtain ⟨j, hj, x1, x2, x3, x4⟩ := HM3.out
                  exact absurd ⟨x1, x2, x3, x4⟩ (hno j hj)
      · have d9 : ((N2 : Int) == 9) = false := by simp; omega
        have d9' : (N2 == 9) = false := by simp; omega
        go_wp2
        go_ret
        exact ⟨rfl, hF3⟩
    · have d9 : ((N : Int) == 9) = false := by simp; omega
      have d9' : (N == 9) = false := by simp; omega
      go_wp2
      go_ret
      exact ⟨rfl, hF3⟩
  · rw [rightB_no hR]
    go_wp2
    go_ret
    exact ⟨rfl, hF3⟩
end Go.Proofs.Ytiinkjplhihdaaa
