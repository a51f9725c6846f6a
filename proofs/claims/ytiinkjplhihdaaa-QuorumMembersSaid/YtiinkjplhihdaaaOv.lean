/- Change. -/
import Derived.Test.YtiinkjplhihdaaaOl
import Derived.Test.YtiinkjplhihdaaaOs
import Derived.Deep.DeepCutAuto
namespace Go.Proofs.Ytiinkjplhihdaaa
open Go.RowKit

theorem hav_put (m : Nat → Int) (k : Nat) (r c : Int) : ∀ n, (hav (putM m k r) c n).length + (if k < n ∧ m k = c then 1 else 0) = (hav m c n).length + (if k < n ∧ r = c then 1 else 0)
  | 0 => by simp [hav]
  | n + 1 => by
    have ih := hav_put m k r c n
    by_cases e : n = k
    · subst e
      have a1 : (hav (putM m n r) c (n + 1)).length = (hav (putM m n r) c n).length + (if r = c then 1 else 0) := by
        by_cases h : r = c
        · rw [hav_yes (by rw [putM_same]; exact h)]; simp [h]
        · rw [hav_no (by rw [putM_same]; exact h)]; simp [h]
      have a2 : (hav m c (n + 1)).length = (hav m c n).length + (if m n = c then 1 else 0) := by
        by_cases h : m n = c
        · rw [hav_yes h]; simp [h]
        · rw [hav_no h]; simp [h]
      simp only [Nat.lt_irrefl, false_and, if_false, Nat.add_zero] at ih
      rw [a1, a2, ih]
      simp only [Nat.lt_succ_self, true_and]
      omega
    · have a1 : (hav (putM m k r) c (n + 1)).length = (hav (putM m k r) c n).length + (if m n = c then 1 else 0) := by
        by_cases h : m n = c
        · rw [hav_yes (by rw [putM_far m r e]; exact h)]; simp [h]
        · rw [hav_no (by rw [putM_far m r e]; exact h)]; simp [h]
      have a2 : (hav m c (n + 1)).length = (hav m c n).length + (if m n = c then 1 else 0) := by
        by_cases h : m n = c
        · rw [hav_yes h]; simp [h]
        · rw [hav_no h]; simp [h]
      have e1 : k < n + 1 ↔ k < n := by omega
      simp only [a1, a2, e1]
      omega
theorem cnt_put (m : Nat → Int) {k : Nat} (hk : k < 9) (r c : Int) : cnt (putM m k r) c + (if m k = c then 1 else 0) = cnt m c + (if r = c then 1 else 0) := by
  have h := hav_put m k r c 9
  simp only [hk, true_and] at h
  exact h
/-- What Change tells. -/
def chg (m : Nat → Int) (node role : Int) : (Nat → Int) × Int :=
  if ¬ (0 ≤ node ∧ node < 9) ∨ ¬ (role = 0 ∨ role = 1 ∨ role = 2) then (zeroM, 1)
  else if m node.toNat = role then (zeroM, 3)
  else if mayF (m node.toNat) role = false ∨ cnt (putM m node.toNat role) 1 = 0 then (zeroM, 6)
  else (putM m node.toNat role, 0)
theorem set_put (m : Nat → Int) (r : Int) : ∀ k, k < 9 → (List.set [.int .u8 (m 0), .int .u8 (m 1), .int .u8 (m 2), .int .u8 (m 3), .int .u8 (m 4), .int .u8 (m 5), .int .u8 (m 6), .int .u8 (m 7), .int .u8 (m 8)] k (.int .u8 r) : List Value).toArray = mcs (putM m k r)
  | 0, _ => rfl | 1, _ => rfl | 2, _ => rfl | 3, _ => rfl | 4, _ => rfl | 5, _ => rfl | 6, _ => rfl | 7, _ => rfl | 8, _ => rfl
  | _ + 9, h => by omega
theorem putM_ok {m : Nat → Int} (hm : ∀ k, 0 ≤ m k ∧ m k < 256) {k : Nat} {r : Int} (h0 : 0 ≤ r) (h1 : r ≤ 2) : ∀ j, 0 ≤ putM m k r j ∧ putM m k r j < 256 := fun j => by
  by_cases e : j = k
  · subst e; rw [putM_same]; omega
  · rw [putM_far m r e]; exact hm j
theorem u8_conv {r : Int} (h : 0 ≤ r ∧ r ≤ 2) : IntKind.u8.wrap r = r := IntWalk.u8_in r (by omega)

set_option maxRecDepth 100000 in
set_option maxHeartbeats 8000000 in
theorem change_any (m : Nat → Int) (hm : ∀ k, 0 ≤ m k ∧ m k < 256) (node role : Int) (w : World) :
    Calls Try.prog 15 #[mv m, .int .i64 node, .int .i64 role] w fun e w' => e = .returned (.tuple #[mv (chg m node role).1, .int .i64 (chg m node role).2]) ∧ Fr (fun _ => False) w w' := by
  obtain ⟨w1, hw1⟩ : ∃ w1, (w.alloc (.cells (mcs m) 23)).alloc (.cells (mcs zeroM) 23) = w1 := ⟨_, rfl⟩
  have HF1 : Hid (Fr (fun _ => False) w w1) := Lib.hid (by rw [← hw1]; exact ((Fr.refl _ _).alloc _).alloc _)
  have hs1 : w1.heap.size = w.heap.size + 1 + 1 := by rw [← hw1]; simp
  have HK0 : Hid (Bk w1 w.heap.size 23 (mcs m)) := Lib.hid (by rw [← hw1]; exact (Bk.new w _ _).alloc _)
  have HZ1 : Hid (Bk w1 (w.heap.size + 1) 23 (mcs zeroM)) := Lib.hid (by rw [← hw1]; have := Bk.new (w.alloc (.cells (mcs m) 23)) 23 (mcs zeroM); simpa using this)
  have CN := Lib.hid (isNode_any node w1)
  have CR := Lib.hid (isRole_any role w1)
  have CF := Lib.hid mayFollow_any
  have CC := Lib.hid (fun q hq w => count_any q hq 1 w)
  have hcz : ∀ k, k < 9 → w1.cell? ⟨w.heap.size + 1, k, none⟩ = some (.int .u8 0) := fun k hk => (HZ1.out.cell k).trans (mcs_at zeroM k hk)
  have hfz : ∀ k, w1.frozen? ⟨w.heap.size + 1, k, none⟩ = false := fun k => HZ1.out.frozen k
  have hb1 : ∀ k, k < 9 → w1.cell? ⟨w.heap.size, k, none⟩ = some (.int .u8 (m k)) := fun k hk => (HK0.out.cell k).trans (mcs_at m k hk)
  rw [mcs_zero] at hw1
  unfold mcs at hw1
  unfold mv at CC ⊢
  go_enter Try.func15, Try.ntmps15
  go_wp2_with fail
  clear hw1
  refine CN.out.mono ?_; rintro e w' ⟨rfl, rfl⟩
  by_cases h9 : 0 ≤ node ∧ node < 9
  · rw [decide_eq_true h9]
    by_cases hr : role = 0 ∨ role = 1 ∨ role = 2
    · rw [decide_eq_true hr] at CR
      obtain ⟨k, rfl⟩ := Int.eq_ofNat_of_zero_le h9.1
      have hk : k < 9 := by omega
      have hc8 : IntKind.u8.wrap role = role := u8_conv (by omega)
      have HE1 : Hid (chg m (k : Int) role = if m k = role then (zeroM, 3) else if mayF (m k) role = false ∨ cnt (putM m k role) 1 = 0 then (zeroM, 6) else (putM m k role, 0)) := Lib.hid (by unfold chg; rw [if_neg (by rintro (h | h); exact h h9; exact h hr)]; simp)
      have HPO := Lib.hid (putM_ok hm (k := k) (r := role) (by omega) (by omega))
      have HRL : Hid (0 ≤ role ∧ role ≤ 2) := Lib.hid (by omega)
      have hkI : (k : Int) < 9 := by omega
      have HBM : Hid (Bk (w1.alloc (.cells (mcs m) 23)) (w.heap.size + 1 + 1) 23 (mcs m)) := Lib.hid (by have := Bk.new w1 23 (mcs m); rw [hs1] at this; exact this)
      have HBP := Lib.hid (HBM.out.put hk role)
      have HBF := Lib.hid (((Fr.refl (fun _ => False) w1).alloc (.cells (mcs m) 23)).setCell (p := ⟨w.heap.size + 1 + 1, k, none⟩) (fun h => by have : w.heap.size + 1 + 1 < w1.heap.size := h; omega) (.int .u8 role))
      have hcw := (HBM.out.cell k).trans (mcs_at m k hk)
      have hfw := HBM.out.frozen k
      unfold mcs at hcw hfw
      clear h9 hr HBM
      go_wp2_with fail
      refine CR.out.mono ?_; rintro e w' ⟨rfl, rfl⟩
      go_upto_region 5 with (fail)
      obtain ⟨w2, hw2⟩ : ∃ w2, w1.alloc (.cells (mcs (putM m k role)) 23) = w2 := ⟨_, rfl⟩
      have HF2 : Hid (Fr (fun _ => False) w1 w2) := Lib.hid (by rw [← hw2]; exact (Fr.refl _ _).alloc _)
      have HK2 : Hid (Bk w2 (w.heap.size + 1 + 1) 23 (mcs (putM m k role))) := Lib.hid (by rw [← hw2]; have := Bk.new w1 23 (mcs (putM m k role)); rw [hs1] at this; exact this)
      have HM2 := Lib.hid (HK0.out.fr HF2.out (fun h => h))
      have HZ2 := Lib.hid (HZ1.out.fr HF2.out (fun h => h))
      have HFW := Lib.hid (HF1.out.trans HF2.out (fun _ _ h => h))
      rw [set_put m role k hk, hw2]
      clear hw2 hcw hfw hcz hfz hb1 CR CN hs1
      have heq := run_eq23 (putM m k role) m w2
      have HQ : Hid (putM m k role = putM m k role) := Lib.hid rfl
      have HSY := Lib.hid (fun (h : m k = role) => same9_yes (m := putM m k role) (q := m) (fun j hj => by
        by_cases e : j = k
        · subst e; rw [putM_same]; exact h.symm
        · exact putM_far m role e))
      have HSN := Lib.hid (fun (h : ¬ m k = role) => same9_no (m := putM m k role) (q := m) hk (by rw [putM_same]; exact fun e => h e.symm))
      unfold mv at heq
      have hz2 : ∀ k, k < 9 → w2.cell? ⟨w.heap.size + 1, k, none⟩ = some (.int .u8 0) := fun k hk => (HZ2.out.cell k).trans (mcs_at zeroM k hk)
      have hfz2 : ∀ k, w2.frozen? ⟨w.heap.size + 1, k, none⟩ = false := fun k => HZ2.out.frozen k
      have hm2 : ∀ k, k < 9 → w2.cell? ⟨w.heap.size, k, none⟩ = some (.int .u8 (m k)) := fun k hk => (HM2.out.cell k).trans (mcs_at m k hk)
      have hq2 : ∀ j, j < 9 → w2.cell? ⟨w.heap.size + 1 + 1, j, none⟩ = some (.int .u8 (putM m k role j)) := fun j hj => (HK2.out.cell j).trans (mcs_at _ j hj)
      generalize putM m k role = q at *
      by_cases hu : m k = role
      · rw [HSY.out hu] at heq
        have HE : Hid (chg m (k : Int) role = (zeroM, 3)) := Lib.hid (by rw [HE1.out, if_pos hu])
        clear hu HE1 HSY HSN
        go_wp2
        refine bodyPost_ret (res23 rfl _ _ _ zeroM rfl (Bx.of ((HZ2.out).set9 zeroM))) rfl ⟨?_, (HFW.out).set9 (fun h => absurd h (by omega)) zeroM⟩
        rw [HE.out]; rfl
      · rw [HSN.out hu] at heq
        have hcv : wrap64 (m k) = m k := wrap64_of (hm k)
        have hmk : w2.cell? ⟨w.heap.size, k, none⟩ = some (.int .u8 (m k)) := hm2 k hk
        have C1 := Lib.hid (CF.out (m k) role w2)
        cases hmf : mayF (m k) role with
        | false =>
          rw [hmf] at C1
          have HE : Hid (chg m (k : Int) role = (zeroM, 6)) := Lib.hid (by rw [HE1.out, if_neg hu, if_pos (.inl hmf)])
          clear hu HE1 HSY HSN hmf
          go_wp2_with fail
          refine C1.out.mono ?_; rintro e w' ⟨rfl, rfl⟩
          go_wp2
          refine bodyPost_ret (res23 rfl _ _ _ zeroM rfl (Bx.of ((HZ2.out).set9 zeroM))) rfl ⟨?_, (HFW.out).set9 (fun h => absurd h (by omega)) zeroM⟩
          rw [HE.out]; rfl
        | true =>
          rw [hmf] at C1
          have C2 := Lib.hid (CC.out q HPO.out w2)
          have HU := Lib.hid hu
          have HMF := Lib.hid hmf
          clear hu HSY HSN hmf
          go_wp2_with fail
          refine C1.out.mono ?_; rintro e w' ⟨rfl, rfl⟩
          clear heq
          go_wp2_with fail
          refine C2.out.mono ?_; rintro e w4 ⟨rfl, hf4⟩
          have HF4 := Lib.hid (HFW.out.trans hf4 (fun _ _ h => h))
          have HZ4 := Lib.hid (HZ2.out.fr hf4 (fun h => h))
          have hz4 : ∀ k, k < 9 → w4.cell? ⟨w.heap.size + 1, k, none⟩ = some (.int .u8 0) := fun k hk => (HZ4.out.cell k).trans (mcs_at zeroM k hk)
          have hfz4 : ∀ k, w4.frozen? ⟨w.heap.size + 1, k, none⟩ = false := fun k => HZ4.out.frozen k
          have hq4 : ∀ j, j < 9 → w4.cell? ⟨w.heap.size + 1 + 1, j, none⟩ = some (.int .u8 (q j)) := fun j hj => ((HK2.out.fr hf4 (fun h => h)).cell j).trans (mcs_at _ j hj)
          clear hz2 hfz2 hm2 hq2 hmk
          by_cases hc0 : cnt q 1 = 0
          · have HE : Hid (chg m (k : Int) role = (zeroM, 6)) := Lib.hid (by rw [HE1.out, if_neg HU.out, if_pos (.inr hc0)])
            rw [hc0]
            clear hc0 HE1
            go_wp2
            refine bodyPost_ret (res23 rfl _ _ _ zeroM rfl (Bx.of ((HZ4.out).set9 zeroM))) rfl ⟨?_, (HF4.out).set9 (fun h => absurd h (by omega)) zeroM⟩
            rw [HE.out]; rfl
          · have HE : Hid (chg m (k : Int) role = (q, 0)) := Lib.hid (by rw [HE1.out, if_neg HU.out, if_neg (by rintro (h | h); rw [HMF.out] at h; cases h; exact hc0 h)])
            have hn0 : ((cnt q 1 : Int) == 0) = false := by simp; omega
            have hn0' : (cnt q 1 == 0) = false := by simp; omega
            clear hc0 HE1
            go_wp2
            refine bodyPost_ret (res23 rfl _ _ _ q rfl (Bx.of ((HZ4.out).set9 q))) rfl ⟨?_, (HF4.out).set9 (fun h => absurd h (by omega)) q⟩
            rw [HE.out]; rfl
    · rw [decide_eq_false hr] at CR
      have HE : Hid (chg m node role = (zeroM, 1)) := Lib.hid (by unfold chg; rw [if_pos (.inr hr)])
      clear h9 hr
      go_wp2_with fail
      refine CR.out.mono ?_; rintro e w' ⟨rfl, rfl⟩
      go_wp2
      refine bodyPost_ret (res23 rfl _ _ _ zeroM rfl (Bx.of ((HZ1.out).set9 zeroM))) rfl ⟨?_, (HF1.out).set9 (fun h => absurd h (by omega)) zeroM⟩
      rw [HE.out]; rfl
  · rw [decide_eq_false h9]
    have HE : Hid (chg m node role = (zeroM, 1)) := Lib.hid (by unfold chg; rw [if_pos (.inl h9)])
    clear h9
    go_wp2
    refine bodyPost_ret (res23 rfl _ _ _ zeroM rfl (Bx.of ((HZ1.out).set9 zeroM))) rfl ⟨?_, (HF1.out).set9 (fun h => absurd h (by omega)) zeroM⟩
    rw [HE.out]; rfl
end Go.Proofs.Ytiinkjplhihdaaa
