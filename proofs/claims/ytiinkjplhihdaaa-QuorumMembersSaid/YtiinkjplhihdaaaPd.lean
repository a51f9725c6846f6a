/- The reference's Change. -/
import Derived.Test.YtiinkjplhihdaaaOv
import Derived.Test.YtiinkjplhihdaaaOe
namespace Go.Proofs.Ytiinkjplhihdaaa
open Go.RowKit

theorem chg_arg {m : Nat → Int} {node role : Int} (h : ¬ (0 ≤ node ∧ node < 9) ∨ ¬ (role = 0 ∨ role = 1 ∨ role = 2)) : chg m node role = (zeroM, 1) := by unfold chg; rw [if_pos h]
theorem chg_in {m : Nat → Int} {k : Nat} {role : Int} (hk : k < 9) (hr : role = 0 ∨ role = 1 ∨ role = 2) : chg m (k : Int) role = if m k = role then (zeroM, 3) else if mayF (m k) role = false ∨ cnt (putM m k role) 1 = 0 then (zeroM, 6) else (putM m k role, 0) := by
  unfold chg
  rw [if_neg (by rintro (h | h); exact h ⟨by omega, by omega⟩; exact h hr)]
  simp

set_option maxRecDepth 100000 in
set_option maxHeartbeats 8000000 in
theorem rChange_any (m : Nat → Int) (hm : ∀ k, 0 ≤ m k ∧ m k < 256) (hR : rightP m) (node role : Int) (w : World) :
    Calls Try.prog 16 #[mv m, .int .i64 node, .int .i64 role] w fun e w' => e = .returned (.tuple #[mv (chg m node role).1, .int .i64 (chg m node role).2]) ∧ Fr (fun _ => False) w w' := by
  obtain ⟨w1, hw1⟩ : ∃ w1, (w.alloc (.cells (mcs m) 22)).alloc (.cells (mcs zeroM) 22) = w1 := ⟨_, rfl⟩
  have HF1 : Hid (Fr (fun _ => False) w w1) := Lib.hid (by rw [← hw1]; exact ((Fr.refl _ _).alloc _).alloc _)
  have HK0 : Hid (Bk w1 w.heap.size 22 (mcs m)) := Lib.hid (by rw [← hw1]; exact (Bk.new w _ _).alloc _)
  have HZ1 : Hid (Bk w1 (w.heap.size + 1) 22 (mcs zeroM)) := Lib.hid (by rw [← hw1]; have := Bk.new (w.alloc (.cells (mcs m) 22)) 22 (mcs zeroM); simpa using this)
  have CC := Lib.hid (rCount_any m hm 1)
  have hcz : ∀ k, k < 9 → w1.cell? ⟨w.heap.size + 1, k, none⟩ = some (.int .u8 0) := fun k hk => (HZ1.out.cell k).trans (mcs_at zeroM k hk)
  have hfz : ∀ k, w1.frozen? ⟨w.heap.size + 1, k, none⟩ = false := fun k => HZ1.out.frozen k
  have hb1 : ∀ k, k < 9 → w1.cell? ⟨w.heap.size, k, none⟩ = some (.int .u8 (m k)) := fun k hk => (HK0.out.cell k).trans (mcs_at m k hk)
  have HR := Lib.hid hR
  rw [mcs_zero] at hw1
  unfold mcs at hw1
  unfold mv at CC ⊢
  clear hR
  go_enter Try.func16, Try.ntmps16
  by_cases h9 : 0 ≤ node ∧ node < 9
  · obtain ⟨k, rfl⟩ := Int.eq_ofNat_of_zero_le h9.1
    have hk : k < 9 := by omega
    have dn8 : decide ((8 : Int) < (k : Int)) = false := decide_eq_false (by omega)
    have dn8n : decide (8 < k) = false := decide_eq_false (by omega)
    have hkI : (k : Int) < 9 := by omega
    by_cases hr : role = 0 ∨ role = 1 ∨ role = 2
    · have HC := chg_in (m := m) hk hr
      have hmk := HR.out.1 k hk
      have hck := hb1 k hk
      have dk0 : decide ((k : Int) < 0) = false := decide_eq_false (by omega)
      have hfk := HK0.out.frozen k
      have HPC := Lib.hid (cnt_put m hk role 1)
      have HPO : Hid (0 < cnt m 1) := Lib.hid HR.out.2
      rcases hr with rfl | rfl | rfl
      · rcases hmk with e | e | e
        · rw [e] at HPC HC
          have HE : Hid (chg m (k : Int) 0 = (zeroM, 3)) := Lib.hid (by rw [HC, if_pos rfl])
          clear HC HPC
          go_wp2
          refine bodyPost_ret (res22 rfl _ _ _ zeroM rfl (Bx.of ((HZ1.out).set9 zeroM))) rfl ⟨?_, (HF1.out).set9 (fun h => absurd h (by omega)) zeroM⟩
          rw [HE.out]; rfl
        · rw [e] at HPC HC
          have C1 := Lib.hid (CC.out w1)
          have HCN := Lib.hid HC
          clear HC
          go_wp2_with fail
          refine C1.out.mono ?_; rintro e w2 ⟨rfl, hf2⟩
          have HF2 := Lib.hid (HF1.out.trans hf2 (fun _ _ h => h))
          have HZ2 := Lib.hid (HZ1.out.fr hf2 (fun h => h))
          have HK2 := Lib.hid (HK0.out.fr hf2 (fun h => h))
          have hcz2 : ∀ k, k < 9 → w2.cell? ⟨w.heap.size + 1, k, none⟩ = some (.int .u8 0) := fun k hk => (HZ2.out.cell k).trans (mcs_at zeroM k hk)
          have hfz2' : ∀ k, w2.frozen? ⟨w.heap.size + 1, k, none⟩ = false := fun k => HZ2.out.frozen k
          have hck2 : w2.cell? ⟨w.heap.size, k, none⟩ = some (.int .u8 (m k)) := (HK2.out.cell k).trans (mcs_at m k hk)
          have hfk2 := HK2.out.frozen k
          have hpc := HPC.out
          have hpo := HPO.out
          clear hcz hfz hb1 hck hfk HPC
          simp only [if_true, show ¬ ((0 : Int) = 1) by decide, if_false, Nat.add_zero] at hpc
          have HC := HCN.out
          clear HCN
          by_cases hc1 : cnt m 1 = 1
          · have HE : Hid (chg m (k : Int) 0 = (zeroM, 6)) := Lib.hid (by rw [HC, if_neg (by decide), if_pos (.inr (by omega))])
            rw [hc1]
            clear HC hpc hc1
            go_wp2
            refine bodyPost_ret (res22 rfl _ _ _ zeroM rfl (Bx.of ((HZ2.out).set9 zeroM))) rfl ⟨?_, (HF2.out).set9 (fun h => absurd h (by omega)) zeroM⟩
            rw [HE.out]; rfl
          · have hn1 : ((cnt m 1 : Int) == 1) = false := by simp; omega
            have hn1' : (cnt m 1 == 1) = false := by simp; omega
            have HE : Hid (chg m (k : Int) 0 = (putM m k 0, 0)) := Lib.hid (by rw [HC, if_neg (by decide), if_neg (by rintro (h | h); exact absurd h (by decide); omega)])
            have HBP := Lib.hid ((HK2.out).put hk 0)
            have HZP := Lib.hid ((HZ2.out).far (p := ⟨w.heap.size, k, none⟩) (by simp) (.int .u8 0))
            have HFP := Lib.hid ((HF2.out).setCell (p := ⟨w.heap.size, k, none⟩) (fun h => absurd (show w.heap.size < w.heap.size from h) (Nat.lt_irrefl _)) (.int .u8 0))
            have hq2 : ∀ j, j < 9 → (w2.setCell ⟨w.heap.size, k, none⟩ (.int .u8 0)).cell? ⟨w.heap.size, j, none⟩ = some (.int .u8 (putM m k 0 j)) := fun j hj => (HBP.out.cell j).trans (mcs_at _ j hj)
            have hz2 : ∀ j, j < 9 → (w2.setCell ⟨w.heap.size, k, none⟩ (.int .u8 0)).cell? ⟨w.heap.size + 1, j, none⟩ = some (.int .u8 0) := fun j hj => (HZP.out.cell j).trans (mcs_at zeroM j hj)
            have hfz2 : ∀ j, (w2.setCell ⟨w.heap.size, k, none⟩ (.int .u8 0)).frozen? ⟨w.heap.size + 1, j, none⟩ = false := fun j => HZP.out.frozen j
            clear HC hpc hc1 hpo
            generalize putM m k 0 = q at *
            go_wp2
            refine bodyPost_ret (res22 rfl _ _ _ q rfl (Bx.of ((HZP.out).set9 q))) rfl ⟨?_, (HFP.out).set9 (fun h => absurd h (by omega)) q⟩
            rw [HE.out]; rfl
        · rw [e] at HPC HC
          have hpc := HPC.out
          have hpo := HPO.out
          simp only [if_true, show ¬ ((2 : Int) = 1) by decide, show ¬ ((0 : Int) = 1) by decide, if_false, Nat.add_zero] at hpc
          have HE : Hid (chg m (k : Int) 0 = (putM m k 0, 0)) := Lib.hid (by rw [HC, if_neg (by decide), if_neg (by rintro (h | h); exact absurd h (by decide); omega)])
          have HBP := Lib.hid ((HK0.out).put hk 0)
          have HZP := Lib.hid ((HZ1.out).far (p := ⟨w.heap.size, k, none⟩) (by simp) (.int .u8 0))
          have HFP := Lib.hid ((HF1.out).setCell (p := ⟨w.heap.size, k, none⟩) (fun h => absurd (show w.heap.size < w.heap.size from h) (Nat.lt_irrefl _)) (.int .u8 0))
          have hq2 : ∀ j, j < 9 → (w1.setCell ⟨w.heap.size, k, none⟩ (.int .u8 0)).cell? ⟨w.heap.size, j, none⟩ = some (.int .u8 (putM m k 0 j)) := fun j hj => (HBP.out.cell j).trans (mcs_at _ j hj)
          have hz2 : ∀ j, j < 9 → (w1.setCell ⟨w.heap.size, k, none⟩ (.int .u8 0)).cell? ⟨w.heap.size + 1, j, none⟩ = some (.int .u8 0) := fun j hj => (HZP.out.cell j).trans (mcs_at zeroM j hj)
          have hfz2 : ∀ j, (w1.setCell ⟨w.heap.size, k, none⟩ (.int .u8 0)).frozen? ⟨w.heap.size + 1, j, none⟩ = false := fun j => HZP.out.frozen j
          clear HC hpc hpo HPC hcz hfz
          generalize putM m k 0 = q at *
          go_wp2
          refine bodyPost_ret (res22 rfl _ _ _ q rfl (Bx.of ((HZP.out).set9 q))) rfl ⟨?_, (HFP.out).set9 (fun h => absurd h (by omega)) q⟩
          rw [HE.out]; rfl
      · rcases hmk with e | e | e
        · rw [e] at HPC HC
          have HE : Hid (chg m (k : Int) 1 = (zeroM, 6)) := Lib.hid (by rw [HC, if_neg (by decide), if_pos (.inl (by decide))])
          clear HC HPC
          go_wp2
          refine bodyPost_ret (res22 rfl _ _ _ zeroM rfl (Bx.of ((HZ1.out).set9 zeroM))) rfl ⟨?_, (HF1.out).set9 (fun h => absurd h (by omega)) zeroM⟩
          rw [HE.out]; rfl
        · rw [e] at HPC HC
          have HE : Hid (chg m (k : Int) 1 = (zeroM, 3)) := Lib.hid (by rw [HC, if_pos rfl])
          clear HC HPC
          go_wp2
          refine bodyPost_ret (res22 rfl _ _ _ zeroM rfl (Bx.of ((HZ1.out).set9 zeroM))) rfl ⟨?_, (HF1.out).set9 (fun h => absurd h (by omega)) zeroM⟩
          rw [HE.out]; rfl
        · rw [e] at HPC HC
          have hpc := HPC.out
          have hpo := HPO.out
          simp only [if_true, show ¬ ((2 : Int) = 1) by decide, show ¬ ((2 : Int) = 1) by decide, if_false, Nat.add_zero] at hpc
          have HE : Hid (chg m (k : Int) 1 = (putM m k 1, 0)) := Lib.hid (by rw [HC, if_neg (by decide), if_neg (by rintro (h | h); exact absurd h (by decide); omega)])
          have HBP := Lib.hid ((HK0.out).put hk 1)
          have HZP := Lib.hid ((HZ1.out).far (p := ⟨w.heap.size, k, none⟩) (by simp) (.int .u8 1))
          have HFP := Lib.hid ((HF1.out).setCell (p := ⟨w.heap.size, k, none⟩) (fun h => absurd (show w.heap.size < w.heap.size from h) (Nat.lt_irrefl _)) (.int .u8 1))
          have hq2 : ∀ j, j < 9 → (w1.setCell ⟨w.heap.size, k, none⟩ (.int .u8 1)).cell? ⟨w.heap.size, j, none⟩ = some (.int .u8 (putM m k 1 j)) := fun j hj => (HBP.out.cell j).trans (mcs_at _ j hj)
          have hz2 : ∀ j, j < 9 → (w1.setCell ⟨w.heap.size, k, none⟩ (.int .u8 1)).cell? ⟨w.heap.size + 1, j, none⟩ = some (.int .u8 0) := fun j hj => (HZP.out.cell j).trans (mcs_at zeroM j hj)
          have hfz2 : ∀ j, (w1.setCell ⟨w.heap.size, k, none⟩ (.int .u8 1)).frozen? ⟨w.heap.size + 1, j, none⟩ = false := fun j => HZP.out.frozen j
          clear HC hpc hpo HPC hcz hfz
          generalize putM m k 1 = q at *
          go_wp2
          refine bodyPost_ret (res22 rfl _ _ _ q rfl (Bx.of ((HZP.out).set9 q))) rfl ⟨?_, (HFP.out).set9 (fun h => absurd h (by omega)) q⟩
          rw [HE.out]; rfl
      · rcases hmk with e | e | e
        · rw [e] at HPC HC
          have hpc := HPC.out
          have hpo := HPO.out
          simp only [if_true, show ¬ ((0 : Int) = 1) by decide, show ¬ ((2 : Int) = 1) by decide, if_false, Nat.add_zero] at hpc
          have HE : Hid (chg m (k : Int) 2 = (putM m k 2, 0)) := Lib.hid (by rw [HC, if_neg (by decide), if_neg (by rintro (h | h); exact absurd h (by decide); omega)])
          have HBP := Lib.hid ((HK0.out).put hk 2)
          have HZP := Lib.hid ((HZ1.out).far (p := ⟨w.heap.size, k, none⟩) (by simp) (.int .u8 2))
          have HFP := Lib.hid ((HF1.out).setCell (p := ⟨w.heap.size, k, none⟩) (fun h => absurd (show w.heap.size < w.heap.size from h) (Nat.lt_irrefl _)) (.int .u8 2))
          have hq2 : ∀ j, j < 9 → (w1.setCell ⟨w.heap.size, k, none⟩ (.int .u8 2)).cell? ⟨w.heap.size, j, none⟩ = some (.int .u8 (putM m k 2 j)) := fun j hj => (HBP.out.cell j).trans (mcs_at _ j hj)
          have hz2 : ∀ j, j < 9 → (w1.setCell ⟨w.heap.size, k, none⟩ (.int .u8 2)).cell? ⟨w.heap.size + 1, j, none⟩ = some (.int .u8 0) := fun j hj => (HZP.out.cell j).trans (mcs_at zeroM j hj)
          have hfz2 : ∀ j, (w1.setCell ⟨w.heap.size, k, none⟩ (.int .u8 2)).frozen? ⟨w.heap.size + 1, j, none⟩ = false := fun j => HZP.out.frozen j
          clear HC hpc hpo HPC hcz hfz
          generalize putM m k 2 = q at *
          go_wp2
          refine bodyPost_ret (res22 rfl _ _ _ q rfl (Bx.of ((HZP.out).set9 q))) rfl ⟨?_, (HFP.out).set9 (fun h => absurd h (by omega)) q⟩
          rw [HE.out]; rfl
        · rw [e] at HPC HC
          have HE : Hid (chg m (k : Int) 2 = (zeroM, 6)) := Lib.hid (by rw [HC, if_neg (by decide), if_pos (.inl (by decide))])
          clear HC HPC
          go_wp2
          refine bodyPost_ret (res22 rfl _ _ _ zeroM rfl (Bx.of ((HZ1.out).set9 zeroM))) rfl ⟨?_, (HF1.out).set9 (fun h => absurd h (by omega)) zeroM⟩
          rw [HE.out]; rfl
        · rw [e] at HPC HC
          have HE : Hid (chg m (k : Int) 2 = (zeroM, 3)) := Lib.hid (by rw [HC, if_pos rfl])
          clear HC HPC
          go_wp2
          refine bodyPost_ret (res22 rfl _ _ _ zeroM rfl (Bx.of ((HZ1.out).set9 zeroM))) rfl ⟨?_, (HF1.out).set9 (fun h => absurd h (by omega)) zeroM⟩
          rw [HE.out]; rfl
    · have HE := Lib.hid (chg_arg (m := m) (node := (k : Int)) (.inr hr))
      by_cases h0 : role < 0
      · have d0 : decide (role < 0) = true := decide_eq_true h0
        clear hr
        go_wp2
        refine bodyPost_ret (res22 rfl _ _ _ zeroM rfl (Bx.of ((HZ1.out).set9 zeroM))) rfl ⟨?_, (HF1.out).set9 (fun h => absurd h (by omega)) zeroM⟩
        rw [HE.out]; rfl
      · have d0 : decide (role < 0) = false := decide_eq_false h0
        have d2 : decide (2 < role) = true := decide_eq_true (by omega)
        clear hr h0
        go_wp2
        refine bodyPost_ret (res22 rfl _ _ _ zeroM rfl (Bx.of ((HZ1.out).set9 zeroM))) rfl ⟨?_, (HF1.out).set9 (fun h => absurd h (by omega)) zeroM⟩
        rw [HE.out]; rfl
  · have HE := Lib.hid (chg_arg (m := m) (role := role) (.inl h9))
    by_cases h0 : node < 0
    · have d0 : decide (node < 0) = true := decide_eq_true h0
      clear h9
      go_wp2
      refine bodyPost_ret (res22 rfl _ _ _ zeroM rfl (Bx.of ((HZ1.out).set9 zeroM))) rfl ⟨?_, (HF1.out).set9 (fun h => absurd h (by omega)) zeroM⟩
      rw [HE.out]; rfl
    · have d0 : decide (node < 0) = false := decide_eq_false h0
      have d2 : decide (8 < node) = true := decide_eq_true (by omega)
      clear h9 h0
      go_wp2
      refine bodyPost_ret (res22 rfl _ _ _ zeroM rfl (Bx.of ((HZ1.out).set9 zeroM))) rfl ⟨?_, (HF1.out).set9 (fun h => absurd h (by omega)) zeroM⟩
      rw [HE.out]; rfl
end Go.Proofs.Ytiinkjplhihdaaa
