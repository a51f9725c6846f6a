/- The reference's Votes. -/
import Derived.Test.YtiinkjplhihdaaaOt
import Derived.Test.YtiinkjplhihdaaaOe
namespace Go.Proofs.Ytiinkjplhihdaaa
open Go.RowKit

theorem pc_part {m : Nat → Int} {p q r : Nat → Bool} (h : ∀ k, (p k).toNat + (q k).toNat + (r k).toNat = 1) : ∀ n, pc m p n + pc m q n + pc m r n = (hav m 1 n).length
  | 0 => rfl
  | n + 1 => by
    have ih := pc_part (m := m) h n
    have hn := h n
    by_cases hm : m n = 1
    · rw [hav_yes hm]
      simp only [List.length_append, List.length_singleton]
      cases hp : p n <;> cases hq : q n <;> cases hr : r n <;> simp [hp, hq, hr] at hn
      · rw [pc_no hm hp, pc_no hm hq, pc_yes hm hr]; omega
      · rw [pc_no hm hp, pc_yes hm hq, pc_no hm hr]; omega
      · rw [pc_yes hm hp, pc_no hm hq, pc_no hm hr]; omega
    · rw [hav_no hm, pc_not hm, pc_not hm, pc_not hm]; exact ih
theorem lost_open (m : Nat → Int) (N : Nat) (y : Nat → Bool) : lostB m N y = decide (((pc m (fun k => decide (k < N) && y k) 9 : Int) + (pc m (fun k => !decide (k < N)) 9 : Int)) < (mst m : Int)) := by
  have h := pc_part (m := m) (p := fun k => decide (k < N) && y k) (q := fun k => !decide (k < N)) (r := fun k => decide (k < N) && !y k) (fun k => by
    by_cases h : k < N <;> cases hy : y k <;> simp [h, hy]) 9
  have e2 : ny N y (hav m 1 9) = pc m (fun k => decide (k < N) && !y k) 9 := rfl
  have e3 : (hav m 1 9).length = cnt m 1 := rfl
  unfold lostB
  rw [e2]
  congr 1
  rw [e3] at h
  simp only [eq_iff_iff]
  omega

set_option maxRecDepth 100000 in
set_option maxHeartbeats 8000000 in
theorem rVotes_any (m : Nat → Int) (hm : ∀ k, 0 ≤ m k ∧ m k < 256) (A : Option Addr) (N c : Nat) (y : Nat → Bool) (w : World) (hrd : RdF w A N (fun j => .bool (y j))) :
    Calls Try.prog 14 #[mv m, .slice A N c] w fun e w' => e = .returned (.tuple #[.bool (wonB m N y), .bool (lostB m N y)]) ∧ Fr (fun _ => False) w w' := by
  obtain ⟨w1, hw1⟩ : ∃ w1, w.alloc (.cells (mcs m) 22) = w1 := ⟨_, rfl⟩
  have HC : Hid (∀ k, k < 9 → w1.cell? ⟨w.heap.size, k, none⟩ = some (.int .u8 (m k))) := Lib.hid (fun k hk => by rw [← hw1]; exact (Bx.new w 22 m).at0 hk)
  have HF1 : Hid (Fr (fun _ => False) w w1) := Lib.hid (hw1 ▸ (Fr.refl _ _).alloc _)
  have HRD := Lib.hid (hrd.fr0 HF1.out)
  have cM : ∀ d os, Calls Try.prog 18 #[mv m] (Sort.grow (redrawn w1 d) os) fun e w'' => e = .returned (.int .i64 (mst m : Int)) ∧ ∃ p : Regrown, w'' = Sort.grow (redrawn w1 p.d) p.os := fun d os =>
    Calls.regrown_of ((rMost_any m hm _).mono fun _ _ ⟨h, k⟩ => ⟨h, k.bel⟩)
  have HWB : Hid (wonB m N y = decide (mst m ≤ pc m (fun k => decide (k < N) && y k) 9)) := Lib.hid rfl
  have HLB := Lib.hid (lost_open m N y)
  have HMC := Lib.hid cM
  clear hrd cM
  unfold mcs at hw1
  unfold mv at HMC ⊢
  go_enter Try.func14, Try.ntmps14
  go_wp2_with fail
  clear hw1
  go_loopw [8, 6, 7] (fun i a b wr => ∃ k : Nat, i = .int .i64 (k : Int) ∧ a = .int .i64 (pc m (fun k => decide (k < N) && y k) k : Int) ∧ b = .int .i64 (pc m (fun k => !decide (k < N)) k : Int) ∧ k ≤ 9 ∧ w1 = wr) (fun i _ _ _ => 9 - (intOf i).toNat)
  case atStart => exact ⟨0, rfl, rfl, rfl, Nat.zero_le _, rfl⟩
  case round =>
    obtain ⟨k, rfl, rfl, rfl, hk, rfl⟩ := hrel
    have hpa := pc_le m (fun k => decide (k < N) && y k) k
    have hpb := pc_le m (fun k => !decide (k < N)) k
    by_cases hlt : k < 9
    · have hc := HC.out k hlt
      have hltI : (k : Int) < 9 := by omega
      have hwa : wrap64 ((pc m (fun k => decide (k < N) && y k) k : Int) + 1) = (pc m (fun k => decide (k < N) && y k) k : Int) + 1 := by unfold wrap64; omega
      have hwb : wrap64 ((pc m (fun k => !decide (k < N)) k : Int) + 1) = (pc m (fun k => !decide (k < N)) k : Int) + 1 := by unfold wrap64; omega
      by_cases hr : m k = 1
      · have dr : (m k == 1) = true := by simp [hr]
        have dr2 : (m k != 1) = false := by simp [hr]
        by_cases hkn : k < N
        · have hknI : (k : Int) < N := by omega
          obtain ⟨g, o, rfl, hcc⟩ := HRD.out (by omega)
          have hck := hcc k hkn
          dsimp only at hck
          cases hy : y k with
          | true =>
            have HA := Lib.hid (pc_yes (p := fun k => decide (k < N) && y k) hr (by simp [hkn, hy]))
            have HB := Lib.hid (pc_no (p := fun k => !decide (k < N)) hr (by simp [hkn]))
            rw [hy] at hck
            clear hcc hr hy hkn
            go_wp2
            refine ⟨⟨k + 1, by simp, by rw [HA.out]; simp, by rw [HB.out], by omega, trivial⟩, ?_⟩
            first | omega | (show _ < _; simp [intOf]; omega)
          | false =>
            have HA := Lib.hid (pc_no (p := fun k => decide (k < N) && y k) hr (by simp [hy]))
            have HB := Lib.hid (pc_no (p := fun k => !decide (k < N)) hr (by simp [hkn]))
            rw [hy] at hck
            clear hcc hr hy hkn
            go_wp2
            refine ⟨⟨k + 1, by simp, by rw [HA.out], by rw [HB.out], by omega, trivial⟩, ?_⟩
            first | omega | (show _ < _; simp [intOf]; omega)
        · have HA := Lib.hid (pc_no (p := fun k => decide (k < N) && y k) hr (by simp [hkn]))
          have HB := Lib.hid (pc_yes (p := fun k => !decide (k < N)) hr (by simp [hkn]))
          have hknI : decide ((N : Int) ≤ (k : Int)) = true := decide_eq_true (by omega)
          have hknN : decide (N ≤ k) = true := decide_eq_true (by omega)
          clear hr hkn
          go_wp2
          refine ⟨⟨k + 1, by simp, by rw [HA.out], by rw [HB.out]; simp, by omega, trivial⟩, ?_⟩
          first | omega | (show _ < _; simp [intOf]; omega)
      · have dr : (m k == 1) = false := by simp [hr]
        have dr2 : (m k != 1) = true := by simp [hr]
        have HA := Lib.hid (pc_not (p := fun k => decide (k < N) && y k) hr)
        have HB := Lib.hid (pc_not (p := fun k => !decide (k < N)) hr)
        clear hr
        go_wp2
        refine ⟨⟨k + 1, by simp, by rw [HA.out], by rw [HB.out], by omega, trivial⟩, ?_⟩
        first | omega | (show _ < _; simp [intOf]; omega)
    · obtain rfl : k = 9 := by omega
      generalize pc m (fun k => decide (k < N) && y k) 9 = PA at *
      generalize pc m (fun k => !decide (k < N)) 9 = PB at *
      have k0 : ∀ k, k < 9 → ∀ d os, (Sort.grow (redrawn w1 d) os).cell? ⟨w.heap.size, k, none⟩ = some (.int .u8 (m k)) := fun k hk d os => cell_regrown (HC.out k hk) d os
      have cM := HMC.out
      have HW9 : Hid (IntKind.i64.wrap ((PA : Int) + (PB : Int)) = (PA : Int) + (PB : Int)) := Lib.hid (IntWalk.i64_in _ (by omega))
      generalize mst m = M at *
      go_wp2_with fail
      refine wp_region_quiet_below (by kernel_rfl) (by kernel_rfl) ?_
      repeat (quiet_step (first | exact cM _ _))
      refine wpQuiet_nil ?_
      intro _ hw'
      obtain ⟨⟨dq, osq⟩, hw''⟩ := hw'
      subst hw''
      clear k0 cM
      have HF9 := Lib.hid (HF1.out.trans (Fr.of_regrown w1 dq osq) (fun _ _ h => h))
      go_wp2
      refine bodyPost_ret (results_tmp2 rfl _ _ _) rfl ⟨?_, HF9.out⟩
      rw [HWB.out, HLB.out]
      show Ending.returned (.tuple #[.bool (decide (M ≤ PA)), .bool (decide (IntKind.i64.wrap ((PA : Int) + (PB : Int)) < (M : Int)))]) = _
      rw [HW9.out]
end Go.Proofs.Ytiinkjplhihdaaa
