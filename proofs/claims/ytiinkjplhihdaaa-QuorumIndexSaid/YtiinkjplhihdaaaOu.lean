/- QuorumIndex, walked. -/
import Derived.Test.YtiinkjplhihdaaaOt
import Derived.Test.YtiinkjplhihdaaaOn
namespace Go.Proofs.Ytiinkjplhihdaaa
open Go.RowKit

set_option maxRecDepth 100000 in
set_option maxHeartbeats 8000000 in
theorem lawIndex_any (m : Nat → Int) (A : Option Addr) (N c : Nat) (t : Nat → Int) (w : World) (hm : ∀ k, 0 ≤ m k ∧ m k < 256) (hrd : RdF w A N (fun j => .int .i64 (t j))) (hN : (N : Int) ≤ 9223372036854775807) :
    Calls Try.prog 6 #[mv m, .slice A N c] w fun e w' => e = .returned (.bool true) ∧ Fr (fun _ => False) w w' := by
  obtain ⟨w1, hw1⟩ : ∃ w1, w.alloc (.cells (mcs m) 23) = w1 := ⟨_, rfl⟩
  have hbx1 : Bx w1 w.heap.size 0 m := by rw [← hw1]; exact Bx.new w 23 m
  have hf1 : Fr (fun _ => False) w w1 := by rw [← hw1]; exact (Fr.refl _ _).alloc _
  have CK := Lib.hid (known_any w1)
  have CR := Lib.hid (right_any m hm)
  have CI := Lib.hid (fun w' (hf : Fr (fun _ => False) w w') => index_any m hm A N c t w' (hrd.fr0 hf))
  have CM := Lib.hid (most_any m hm)
  have HAT := Lib.hid (fun h => bst_at (m := m) N t h)
  have HMO := Lib.hid (bst_more (m := m) N t)
  have HGE := Lib.hid (bst_ge m N t)
  unfold mcs at hw1
  unfold mv at *
  go_enter Try.func6, Try.ntmps6
  go_wp2_with fail
  refine CK.out.mono ?_; rintro e w2 ⟨rfl, hf2⟩
  have hbx2 := hbx1.fr hf2 (fun h => h)
  have hF2 := hf1.trans hf2 (fun _ _ h => h)
  have hb2 : ∀ k, k < 9 → w2.cell? ⟨w.heap.size, k, none⟩ = some (.int .u8 (m k)) := fun k hk => hbx2.at0 hk
  clear hw1
  go_wp2_with fail
  refine (CR.out _).mono ?_; rintro e w3 ⟨rfl, hf3⟩
  have hbx3 := hbx2.fr hf3 (fun h => h)
  have hF3 := hF2.trans hf3 (fun _ _ h => h)
  clear hb2
  by_cases hR : rightP m
  · rw [rightB_yes hR]
    by_cases h100 : N ≤ 100
    · have d1 : decide ((100 : Int) < (N : Int)) = false := decide_eq_false (by omega)
      have d1n : decide (100 < N) = false := decide_eq_false (by omega)
      have hb3 : ∀ k, k < 9 → w3.cell? ⟨w.heap.size, k, none⟩ = some (.int .u8 (m k)) := fun k hk => hbx3.at0 hk
      have C3 := Lib.hid (CI.out w3 hF3)
      have hAT := HAT.out hR.2
      have hMO := HMO.out
      have hGE := HGE.out
      clear HAT HMO HGE CI CK
      generalize bst m N t (hav m 1 9) = B at *
      go_wp2_with fail
      refine C3.out.mono ?_; rintro e w4 ⟨rfl, hf4⟩
      have hbx4 := hbx3.fr hf4 (fun h => h)
      have HF4 := Lib.hid (hF3.trans hf4 (fun _ _ h => h))
      have HRD := Lib.hid (hrd.fr0 HF4.out)
      have HB4 := Lib.hid hbx4
      have HAT := Lib.hid hAT
      have HMO := Lib.hid hMO
      have HGE := Lib.hid hGE
      clear hb3 hf4 hf3 hf2 hf1 hF3 hF2 hbx1 hbx2 hbx3 hbx4 hrd hAT hMO C3
      go_wp2_with fail
      go_loopw [8, 6, 7] (fun i a b wr => ∃ k : Nat, i = .int .i64 (k : Int) ∧ a = .int .i64 (pc m (fun k => decide (B ≤ posv N t k)) k : Int) ∧ b = .int .i64 (pc m (fun k => decide (B < posv N t k)) k : Int) ∧ k ≤ 9 ∧ w4 = wr) (fun i _ _ _ => 9 - (intOf i).toNat)
      case atStart => exact ⟨0, rfl, rfl, rfl, Nat.zero_le _, rfl⟩
      case round =>
        obtain ⟨k, rfl, rfl, rfl, hk, rfl⟩ := hrel
        by_cases hlt : k < 9
        · have hmk : w4.cell? ⟨w.heap.size, k, none⟩ = some (.int .u8 (m k)) := HB4.out.at0 hlt
          have hpa := pc_le m (fun k => decide (B ≤ posv N t k)) k
          have hpb := pc_le m (fun k => decide (B < posv N t k)) k
          have hwa : wrap64 ((pc m (fun k => decide (B ≤ posv N t k)) k : Int) + 1) = (pc m (fun k => decide (B ≤ posv N t k)) k : Int) + 1 := by unfold wrap64; omega
          have hwb : wrap64 ((pc m (fun k => decide (B < posv N t k)) k : Int) + 1) = (pc m (fun k => decide (B < posv N t k)) k : Int) + 1 := by unfold wrap64; omega
          have hltI : (k : Int) < 9 := by omega
          by_cases hkn : k < N
          · have hknI : (k : Int) < N := by omega
            obtain ⟨g, o, rfl, hc⟩ := HRD.out (by omega)
            have hck := hc k hkn
            dsimp only at hck
            clear hc
            by_cases hp : 0 < t k
            · have hv : posv N t k = t k := if_pos ⟨hkn, hp⟩
              have dp : decide (0 < t k) = true := decide_eq_true hp
              clear hkn hp
              by_cases hr : m k = 1
              · have dr : (m k == 1) = true := by simp [hr]
                by_cases hge : B ≤ posv N t k
                · by_cases hgt : B < posv N t k
                  · have HA := Lib.hid (pc_yes (p := fun k => decide (B ≤ posv N t k)) hr (decide_eq_true hge))
                    have HB := Lib.hid (pc_yes (p := fun k => decide (B < posv N t k)) hr (decide_eq_true hgt))
                    have da : decide (B ≤ t k) = true := decide_eq_true (by rw [← hv]; exact hge)
                    have db : decide (B < t k) = true := decide_eq_true (by rw [← hv]; omega)
                    clear hr hge hgt hv
                    go_wp2
                    refine ⟨⟨k + 1, by simp, by rw [HA.out]; simp, by rw [HB.out]; simp, by omega, trivial⟩, ?_⟩
                    first | omega | (show _ < _; simp [intOf]; omega)
                  · have HA := Lib.hid (pc_yes (p := fun k => decide (B ≤ posv N t k)) hr (decide_eq_true hge))
                    have HB := Lib.hid (pc_no (p := fun k => decide (B < posv N t k)) hr (decide_eq_false (by omega)))
                    have da : decide (B ≤ t k) = true := decide_eq_true (by rw [← hv]; exact hge)
                    have db : decide (B < t k) = false := decide_eq_false (by rw [← hv]; omega)
                    clear hr hge hgt hv
                    go_wp2
                    refine ⟨⟨k + 1, by simp, by rw [HA.out]; simp, by rw [HB.out], by omega, trivial⟩, ?_⟩
                    first | omega | (show _ < _; simp [intOf]; omega)
                · have HA := Lib.hid (pc_no (p := fun k => decide (B ≤ posv N t k)) hr (decide_eq_false hge))
                  have HB := Lib.hid (pc_no (p := fun k => decide (B < posv N t k)) hr (decide_eq_false (by omega)))
                  have da : decide (B ≤ t k) = false := decide_eq_false (by rw [← hv]; exact hge)
                  have db : decide (B < t k) = false := decide_eq_false (by rw [← hv]; omega)
                  clear hr hge hv
                  go_wp2
                  refine ⟨⟨k + 1, by simp, by rw [HA.out], by rw [HB.out], by omega, trivial⟩, ?_⟩
                  first | omega | (show _ < _; simp [intOf]; omega)
              · have dr : (m k == 1) = false := by simp [hr]
                have HA := Lib.hid (pc_not (p := fun k => decide (B ≤ posv N t k)) hr)
                have HB := Lib.hid (pc_not (p := fun k => decide (B < posv N t k)) hr)
                clear hr hv
                go_wp2
                refine ⟨⟨k + 1, by simp, by rw [HA.out], by rw [HB.out], by omega, trivial⟩, ?_⟩
                first | omega | (show _ < _; simp [intOf]; omega)
            · have hv : posv N t k = 0 := if_neg (fun e => hp e.2)
              have dp : decide (0 < t k) = false := decide_eq_false hp
              clear hkn hp
              by_cases hr : m k = 1
              · have dr : (m k == 1) = true := by simp [hr]
                by_cases hge : B ≤ posv N t k
                · by_cases hgt : B < posv N t k
                  · have HA := Lib.hid (pc_yes (p := fun k => decide (B ≤ posv N t k)) hr (decide_eq_true hge))
                    have HB := Lib.hid (pc_yes (p := fun k => decide (B < posv N t k)) hr (decide_eq_true hgt))
                    have da : decide (B ≤ 0) = true := decide_eq_true (by rw [← hv]; exact hge)
                    have db : decide (B < 0) = true := decide_eq_true (by rw [← hv]; omega)
                    clear hr hge hgt hv
                    go_wp2
                    refine ⟨⟨k + 1, by simp, by rw [HA.out]; simp, by rw [HB.out]; simp, by omega, trivial⟩, ?_⟩
                    first | omega | (show _ < _; simp [intOf]; omega)
                  · have HA := Lib.hid (pc_yes (p := fun k => decide (B ≤ posv N t k)) hr (decide_eq_true hge))
                    have HB := Lib.hid (pc_no (p := fun k => decide (B < posv N t k)) hr (decide_eq_false (by omega)))
                    have da : decide (B ≤ 0) = true := decide_eq_true (by rw [← hv]; exact hge)
                    have db : decide (B < 0) = false := decide_eq_false (by rw [← hv]; omega)
                    clear hr hge hgt hv
                    go_wp2
                    refine ⟨⟨k + 1, by simp, by rw [HA.out]; simp, by rw [HB.out], by omega, trivial⟩, ?_⟩
                    first | omega | (show _ < _; simp [intOf]; omega)
                · have HA := Lib.hid (pc_no (p := fun k => decide (B ≤ posv N t k)) hr (decide_eq_false hge))
                  have HB := Lib.hid (pc_no (p := fun k => decide (B < posv N t k)) hr (decide_eq_false (by omega)))
                  have da : decide (B ≤ 0) = false := decide_eq_false (by rw [← hv]; exact hge)
                  have db : decide (B < 0) = false := decide_eq_false (by rw [← hv]; omega)
                  clear hr hge hv
                  go_wp2
                  refine ⟨⟨k + 1, by simp, by rw [HA.out], by rw [HB.out], by omega, trivial⟩, ?_⟩
                  first | omega | (show _ < _; simp [intOf]; omega)
              · have dr : (m k == 1) = false := by simp [hr]
                have HA := Lib.hid (pc_not (p := fun k => decide (B ≤ posv N t k)) hr)
                have HB := Lib.hid (pc_not (p := fun k => decide (B < posv N t k)) hr)
                clear hr hv
                go_wp2
                refine ⟨⟨k + 1, by simp, by rw [HA.out], by rw [HB.out], by omega, trivial⟩, ?_⟩
                first | omega | (show _ < _; simp [intOf]; omega)
          · have hv : posv N t k = 0 := if_neg (fun e => hkn e.1)
            have dk : decide ((k : Int) < (N : Int)) = false := decide_eq_false (by omega)
            have dkn : decide (k < N) = false := decide_eq_false hkn
            clear hkn
            by_cases hr : m k = 1
            · have dr : (m k == 1) = true := by simp [hr]
              by_cases hge : B ≤ posv N t k
              · by_cases hgt : B < posv N t k
                · have HA := Lib.hid (pc_yes (p := fun k => decide (B ≤ posv N t k)) hr (decide_eq_true hge))
                  have HB := Lib.hid (pc_yes (p := fun k => decide (B < posv N t k)) hr (decide_eq_true hgt))
                  have da : decide (B ≤ 0) = true := decide_eq_true (by rw [← hv]; exact hge)
                  have db : decide (B < 0) = true := decide_eq_true (by rw [← hv]; omega)
                  clear hr hge hgt hv
                  go_wp2
                  refine ⟨⟨k + 1, by simp, by rw [HA.out]; simp, by rw [HB.out]; simp, by omega, trivial⟩, ?_⟩
                  first | omega | (show _ < _; simp [intOf]; omega)
                · have HA := Lib.hid (pc_yes (p := fun k => decide (B ≤ posv N t k)) hr (decide_eq_true hge))
                  have HB := Lib.hid (pc_no (p := fun k => decide (B < posv N t k)) hr (decide_eq_false (by omega)))
                  have da : decide (B ≤ 0) = true := decide_eq_true (by rw [← hv]; exact hge)
                  have db : decide (B < 0) = false := decide_eq_false (by rw [← hv]; omega)
                  clear hr hge hgt hv
                  go_wp2
                  refine ⟨⟨k + 1, by simp, by rw [HA.out]; simp, by rw [HB.out], by omega, trivial⟩, ?_⟩
                  first | omega | (show _ < _; simp [intOf]; omega)
              · have HA := Lib.hid (pc_no (p := fun k => decide (B ≤ posv N t k)) hr (decide_eq_false hge))
                have HB := Lib.hid (pc_no (p := fun k => decide (B < posv N t k)) hr (decide_eq_false (by omega)))
                have da : decide (B ≤ 0) = false := decide_eq_false (by rw [← hv]; exact hge)
                have db : decide (B < 0) = false := decide_eq_false (by rw [← hv]; omega)
                clear hr hge hv
                go_wp2
                refine ⟨⟨k + 1, by simp, by rw [HA.out], by rw [HB.out], by omega, trivial⟩, ?_⟩
                first | omega | (show _ < _; simp [intOf]; omega)
            · have dr : (m k == 1) = false := by simp [hr]
              have HA := Lib.hid (pc_not (p := fun k => decide (B ≤ posv N t k)) hr)
              have HB := Lib.hid (pc_not (p := fun k => decide (B < posv N t k)) hr)
              clear hr hv
              go_wp2
              refine ⟨⟨k + 1, by simp, by rw [HA.out], by rw [HB.out], by omega, trivial⟩, ?_⟩
              first | omega | (show _ < _; simp [intOf]; omega)
        · obtain rfl : k = 9 := by omega
          have hAT := HAT.out
          have hMO := HMO.out
          generalize pc m (fun k => decide (B ≤ posv N t k)) 9 = PA at *
          generalize pc m (fun k => decide (B < posv N t k)) 9 = PB at *
          have hb4 : ∀ k, k < 9 → w4.cell? ⟨w.heap.size, k, none⟩ = some (.int .u8 (m k)) := fun k hk => HB4.out.at0 hk
          have dg : decide (0 ≤ B) = true := decide_eq_true HGE.out
          have C5 := Lib.hid CM.out
          generalize mst m = M at *
          have da : decide ((M : Int) ≤ (PA : Int)) = true := decide_eq_true (by omega)
          have dan : decide (M ≤ PA) = true := decide_eq_true hAT
          have db : decide ((PB : Int) < (M : Int)) = true := decide_eq_true (by omega)
          have dbn : decide (PB < M) = true := decide_eq_true hMO
          clear hAT hMO CM hGE
          go_wp2_with fail
          refine (C5.out _).mono ?_; rintro e w5 ⟨rfl, hf5⟩
          have hb5 : ∀ k, k < 9 → w5.cell? ⟨w.heap.size, k, none⟩ = some (.int .u8 (m k)) := fun k hk => (HB4.out.fr hf5 (fun h => h)).at0 hk
          go_wp2_with fail
          refine (C5.out _).mono ?_; rintro e w6 ⟨rfl, hf6⟩
          go_wp2
          go_ret
          exact ⟨rfl, (HF4.out.trans hf5 (fun _ _ h => h)).trans hf6 (fun _ _ h => h)⟩
    · have d1 : decide ((100 : Int) < (N : Int)) = true := decide_eq_true (by omega)
      have d1n : decide (100 < N) = true := decide_eq_true (by omega)
      go_wp2
      go_ret
      exact ⟨rfl, hF3⟩
  · rw [rightB_no hR]
    go_wp2
    go_ret
    exact ⟨rfl, hF3⟩
end Go.Proofs.Ytiinkjplhihdaaa
