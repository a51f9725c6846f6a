/- ChunkCuts' walk. -/
import Derived.Test.YtacafjbbdklleaaDoorAq
namespace Go.Proofs.YtacafjbbdklleaaDoor
open Go.RowKit

theorem cut_counts {n z K k o : Nat} (hlo : K * z ≤ n) (hhi : n ≤ K * z + z) (hmid : K = 0 ∨ K * z < n) (he : o = k * z) (hm : k = 0 ∨ (k - 1) * z < n ∨ k = 1) (hk : 1 ≤ k) (ho : n ≤ o) : k = K + 1 := by
  rcases Nat.lt_trichotomy k (K + 1) with h | h | h
  · have h2 : k * z ≤ K * z := Nat.mul_le_mul_right z (by omega)
    rcases hmid with h3 | h3 <;> omega
  · exact h
  · have h2 : (K + 1) * z ≤ (k - 1) * z := Nat.mul_le_mul_right z (by omega)
    rw [Nat.succ_mul] at h2
    rcases hm with h3 | h3 | h3 <;> omega
theorem cutE_bad (id : Int) (n : Nat) (size : Int) (h : ¬ cutE id n size = 0) : Bad5 (cutE id n size) := by
  unfold cutE at h ⊢
  split
  · exact .inl rfl
  · split
    · exact .inr (.inr (.inr (.inr rfl)))
    · rename_i h1 h2
      rw [if_neg h1, if_neg h2] at h
      exact absurd rfl h
theorem cutE_ok {id : Int} {n : Nat} {size : Int} (h : cutE id n size = 0) : 0 ≤ id ∧ 1 ≤ size ∧ size ≤ 65536 ∧ n ≤ 1048576 := by
  unfold cutE at h
  split at h
  · omega
  · split at h
    · omega
    · omega

set_option maxRecDepth 100000 in
set_option maxHeartbeats 4000000 in
theorem cuts_any (id : Int) (A : Option Addr) (n c F : Nat) (xs : List UInt8) (size : Int) (w : World) (hG : Gl w) (hs : Sl8 w F A n c xs) (i0 : -9223372036854775808 ≤ id) (i1 : id ≤ 9223372036854775807) :
    Calls Tryd.prog 3 #[.int .i64 id, .slice A n c, .int .i64 size] w fun e w' => e = .returned (.bool true) ∧ Fr (fun _ => False) w w' := by
  have HG := Lib.hid hG
  have HS := Lib.hid hs
  have HN := Lib.hid hs.1
  have HI0 := Lib.hid i0
  have HI1 := Lib.hid i1
  have CK := Lib.hid (known_any w hG)
  clear hG hs i0 i1
  by_cases hbig : 4096 < n
  · have d1 : decide (4096 < n) = true := decide_eq_true hbig
    have d2 : decide ((4096 : Int) < (n : Int)) = true := decide_eq_true (by omega)
    clear hbig
    go_enter Tryd.func3, Tryd.ntmps3
    go_wp2_with fail
    refine CK.out.mono ?_; rintro e w1 ⟨rfl, hf1⟩
    have F1 := Lib.hid hf1
    clear hf1
    go_wp2
    go_ret
    exact ⟨rfl, F1.out⟩
  · have d1 : decide (4096 < n) = false := decide_eq_false hbig
    have d2 : decide ((4096 : Int) < (n : Int)) = false := decide_eq_false (by omega)
    have HNB : Hid (n ≤ 4096) := Lib.hid (by omega)
    clear hbig
    by_cases hE : cutE id n size = 0
    · obtain ⟨e1, e2, e3, e4⟩ := cutE_ok hE
      obtain ⟨z, rfl⟩ : ∃ z : Nat, size = (z : Int) := ⟨size.toNat, by omega⟩
      have HZ : Hid (1 ≤ z ∧ z ≤ 65536 ∧ 0 ≤ id) := Lib.hid ⟨by omega, by omega, e1⟩
      clear hE e1 e2 e3 e4
      go_enter Tryd.func3, Tryd.ntmps3
      go_wp2_with fail
      refine CK.out.mono ?_; rintro e w1 ⟨rfl, hf1⟩
      have F1 := Lib.hid hf1
      have G1 := Lib.hid (HG.out.fr0 hf1)
      have CC := Lib.hid (Cut_ok id A n c xs z w1 G1.out.err G1.out.tab (HS.out.2.2.2.1.fr hf1 (fun _ _ _ h => h)) HN.out HZ.out.2.2 (by have := HNB.out; omega) HZ.out.1 HZ.out.2.1)
      clear hf1
      go_wp2_with fail
      refine CC.out.mono ?_; rintro e w2 ⟨K, A0, c0, v, rfl, hc⟩
      have HC := Lib.hid hc
      have HP := Lib.hid (hc.pcs HN.out (by have := HNB.out; omega) HZ.out.1)
      have F2 := Lib.hid (F1.out.trans hc.fr (fun _ _ h => h))
      have CR := Lib.hid (refCut_ok id A n c xs z F w2 (HS.out.fr F2.out (fun _ _ h => h)) HZ.out.2.2 (by have := HNB.out; omega) HZ.out.1 HZ.out.2.1)
      clear hc CC
      obtain ⟨m, hm⟩ : ∃ m, K + 1 = m := ⟨_, rfl⟩
      have HM := Lib.hid hm
      rw [hm] at HP
      obtain ⟨L1, l1, hv, _⟩ : ∃ L1 l1, v = .slice L1 m l1 ∧ True := by obtain ⟨_, A', c', e, _⟩ := HP.out; exact ⟨A', c', e, trivial⟩
      subst hv
      clear hm
      go_wp2_with fail
      refine CR.out.mono ?_; rintro e w3 ⟨k, o, v2, rfl, hr, hk1, hk2, hk3⟩
      obtain rfl : k = m := by
        have h1 := HC.out; rw [← HM.out]
        exact cut_counts h1.lo h1.hi h1.mid hr.eo hr.mid hk1 hk2
      have HP2 := Lib.hid (hr.pcs HN.out (by omega))
      have HP1 : Hid (Pcs w3 w2.heap.size (.slice L1 k l1) k (cutPc id xs z)) := Lib.hid (HP.out.fr hr.fr (fun _ _ h => h))
      have F3 := Lib.hid (F2.out.trans hr.fr (fun _ _ h => h))
      obtain ⟨L2, l2, hv, _⟩ : ∃ L2 l2, v2 = .slice L2 k l2 ∧ True := by obtain ⟨_, A', c', e, _⟩ := HP2.out; exact ⟨A', c', e, trivial⟩
      subst hv
      have HV : Hid (BrkV id 0 w w3 .nilIface) := Lib.hid (by unfold BrkV; rw [if_pos rfl])
      have CL := Lib.hid (lawBroken_any id 0 w w3 .nilIface HV.out (.inl rfl) HI0.out HI1.out (HG.out.fr0 F3.out).pow (HG.out.fr0 F3.out).err)
      have b1 : ((k : Int) != (k : Int)) = false := by simp
      clear hr hk1 hk2 hk3 CR
      go_wp2_with fail
      refine CL.out.mono ?_; rintro e w4 ⟨rfl, hf4⟩
      replace HP1 := Lib.hid (HP1.out.fr hf4 (fun _ _ h => h))
      replace HP2 := Lib.hid (HP2.out.fr hf4 (fun _ _ h => h))
      replace F3 := Lib.hid (F3.out.trans hf4 (fun _ _ h => h))
      obtain ⟨m, rfl⟩ : ∃ m, m = k := ⟨k, rfl⟩
      clear hf4 CL HP HV CK HM
      go_wp2_with fail
      go_loopw [11] (fun u wr => ∃ j : Nat, u = .int .i64 (j : Int) ∧ j ≤ m ∧ Fr (fun _ => False) w4 wr) (fun u _ => m - (intOf u).toNat)
      case atStart => exact ⟨0, rfl, Nat.zero_le _, Fr.refl _ _⟩
      case round =>
        obtain ⟨j, rfl, hj, hf⟩ := hrel
        have HF := Lib.hid hf
        have hj0 : (0 : Int) ≤ (j : Int) := by omega
        by_cases hlt : j < m
        · have hlt' : (j : Int) < (m : Int) := by omega
          obtain ⟨_, A1, c1, e1, hp1⟩ := (HP1.out.fr HF.out (fun _ _ h => h))
          obtain ⟨_, A2, c2, e2, hp2⟩ := (HP2.out.fr HF.out (fun _ _ h => h))
          injection e1 with e1a e1b e1c
          injection e2 with e2a e2b e2c
          subst e1a e1c e2a e2c
          obtain ⟨b1, o1, e3, hq1⟩ := hp1 j hlt
          obtain ⟨b2, o2, e4, hq2⟩ := hp2 j hlt
          subst e3 e4
          have HQ1 := Lib.hid hq1
          have HQ2 := Lib.hid hq2
          obtain ⟨p, hpp⟩ : ∃ p, cutPc id xs z j = p := ⟨_, rfl⟩
          rw [hpp] at HQ1 HQ2
          obtain ⟨D, dm, dk, p0, p1, p2, p3, p4, hs1, hb1, _⟩ := HQ1.out
          obtain ⟨D2, dm2, dk2, q0, q1, q2, q3, q4, hs2, hb2, _⟩ := HQ2.out
          have HA1 : Hid (∀ w', Fr (fun _ => False) wr w' → w'.cell? ⟨b1, o1 + j * 5, none⟩ = some (.int .i64 p.id) ∧ w'.cell? ⟨b1, o1 + j * 5 + 1, none⟩ = some (.int .i64 p.at_) ∧ w'.cell? ⟨b1, o1 + j * 5 + 2, none⟩ = some (.int .i64 p.total) ∧ w'.cell? ⟨b1, o1 + j * 5 + 3, none⟩ = some (.int .u32 p.sum) ∧ w'.cell? ⟨b1, o1 + j * 5 + 4, none⟩ = some (.slice D dm dk)) := Lib.hid (fun w' hf => by
            have hc : ∀ i, (w'.cell? ⟨b1, i, none⟩) = wr.cell? ⟨b1, i, none⟩ ∨ wr.cell? ⟨b1, i, none⟩ = .none := fun i => by
              rcases hx : wr.cell? ⟨b1, i, none⟩ with _ | x
              · exact .inr rfl
              · left; rw [hf.cell (p := ⟨b1, i, none⟩) (World.block_lt_of_cell? wr _ hx) (fun h => h), hx]
            have hd : ∀ i u, wr.cell? ⟨b1, i, none⟩ = some u → w'.cell? ⟨b1, i, none⟩ = some u := fun i u hu => by
              rcases hc i with h | h
              · rw [h]; exact hu
              · rw [h] at hu; cases hu
            exact ⟨hd _ _ p0, hd _ _ p1, hd _ _ p2, hd _ _ p3, hd _ _ p4⟩)
          have HA2 : Hid (∀ w', Fr (fun _ => False) wr w' → w'.cell? ⟨b2, o2 + j * 5, none⟩ = some (.int .i64 p.id) ∧ w'.cell? ⟨b2, o2 + j * 5 + 1, none⟩ = some (.int .i64 p.at_) ∧ w'.cell? ⟨b2, o2 + j * 5 + 2, none⟩ = some (.int .i64 p.total) ∧ w'.cell? ⟨b2, o2 + j * 5 + 3, none⟩ = some (.int .u32 p.sum) ∧ w'.cell? ⟨b2, o2 + j * 5 + 4, none⟩ = some (.slice D2 dm2 dk2)) := Lib.hid (fun w' hf => by
            have hd : ∀ i u, wr.cell? ⟨b2, i, none⟩ = some u → w'.cell? ⟨b2, i, none⟩ = some u := fun i u hu => by
              rw [hf.cell (p := ⟨b2, i, none⟩) (World.block_lt_of_cell? wr _ hu) (fun h => h)]; exact hu
            exact ⟨hd _ _ q0, hd _ _ q1, hd _ _ q2, hd _ _ q3, hd _ _ q4⟩)
          have CS : Hid (∀ w', Fr (fun _ => False) wr w' → _) := Lib.hid (fun w' hf => same_any p D dm dk _ D2 dm2 dk2 _ w' (hs1.fr hf (fun _ _ h => h)) (hs2.fr hf (fun _ _ h => h)))
          unfold Pc.v at CS
          clear hp1 hp2 hq1 hq2 hpp p0 p1 p2 p3 p4 q0 q1 q2 q3 q4 hs1 hs2 hb1 hb2 HQ1 HQ2
          go_wp2_with fail
          refine wp_region_Z [8] (fun w' => Fr (fun _ => False) wr w') (by kernel_rfl) ((Fr.refl _ _).drew) (fun hHeld => ?_)
          refine anyZ_pure (i := 0) (v := ?_) (some 49) rfl rfl (by kernel_rfl) (by kernel_rfl) (by kernel_rfl) (by kernel_rfl) (fun _ _ _ h => h) (Or.inl ⟨by rfl, ?_⟩) (fun _ => hHeld) ?_
          rotate_left
          · intro w' _
            go_simp
            first | done | with_reducible rfl
          try simp only [Act.put, List.setIfInBounds_toArray, List.set_cons_zero, List.set_cons_succ]
          refine anyZ_pure (i := 1) (v := ?_) (some 50) rfl rfl (by kernel_rfl) (by kernel_rfl) (by kernel_rfl) (by kernel_rfl) (fun _ _ _ h => h) (Or.inl ⟨by rfl, ?_⟩) (fun _ => hHeld) ?_
          rotate_left
          · intro w' _
            go_simp
            first | done | with_reducible rfl
          try simp only [Act.put, List.setIfInBounds_toArray, List.set_cons_zero, List.set_cons_succ]
          refine anyZ_pure (i := 2) (v := ?_) (some 51) rfl rfl (by kernel_rfl) (by kernel_rfl) (by kernel_rfl) (by kernel_rfl) (fun _ _ _ h => h) (Or.inl ⟨by rfl, ?_⟩) (fun _ => hHeld) ?_
          rotate_left
          · intro w' _
            go_simp
            first | done | with_reducible rfl
          try simp only [Act.put, List.setIfInBounds_toArray, List.set_cons_zero, List.set_cons_succ]
          refine anyZ_read (i := 3) (v := ?_) (some 52) [8, 9] rfl rfl (by kernel_rfl) (by kernel_rfl) (by kernel_rfl) (by kernel_rfl) (by kernel_rfl) (by kernel_rfl) (fun _ _ _ h => h) (Or.inl ⟨by rfl, ?_⟩) hHeld ?_
          rotate_left
          · intro w' hSw
            obtain ⟨p0, p1, p2, p3, p4⟩ := HA1.out w' hSw
            go_simp
            first | done | with_reducible rfl
          try simp only [Act.put, List.setIfInBounds_toArray, List.set_cons_zero, List.set_cons_succ]
          refine anyZ_pure (i := 4) (v := ?_) (some 53) rfl rfl (by kernel_rfl) (by kernel_rfl) (by kernel_rfl) (by kernel_rfl) (fun _ _ _ h => h) (Or.inl ⟨by rfl, ?_⟩) (fun _ => hHeld) ?_
          rotate_left
          · intro w' _
            go_simp
            first | done | with_reducible rfl
          try simp only [Act.put, List.setIfInBounds_toArray, List.set_cons_zero, List.set_cons_succ]
          refine anyZ_pure (i := 5) (v := ?_) (some 54) rfl rfl (by kernel_rfl) (by kernel_rfl) (by kernel_rfl) (by kernel_rfl) (fun _ _ _ h => h) (Or.inl ⟨by rfl, ?_⟩) (fun _ => hHeld) ?_
          rotate_left
          · intro w' _
            go_simp
            first | done | with_reducible rfl
          try simp only [Act.put, List.setIfInBounds_toArray, List.set_cons_zero, List.set_cons_succ]
          refine anyZ_pure (i := 6) (v := ?_) (some 55) rfl rfl (by kernel_rfl) (by kernel_rfl) (by kernel_rfl) (by kernel_rfl) (fun _ _ _ h => h) (Or.inl ⟨by rfl, ?_⟩) (fun _ => hHeld) ?_
          rotate_left
          · intro w' _
            go_simp
            first | done | with_reducible rfl
          try simp only [Act.put, List.setIfInBounds_toArray, List.set_cons_zero, List.set_cons_succ]
          refine anyZ_read (i := 7) (v := ?_) (some 56) [8, 9] rfl rfl (by kernel_rfl) (by kernel_rfl) (by kernel_rfl) (by kernel_rfl) (by kernel_rfl) (by kernel_rfl) (fun _ _ _ h => h) (Or.inl ⟨by rfl, ?_⟩) hHeld ?_
          rotate_left
          · intro w' hSw
            obtain ⟨p0, p1, p2, p3, p4⟩ := HA2.out w' hSw
            go_simp
            first | done | with_reducible rfl
          try simp only [Act.put, List.setIfInBounds_toArray, List.set_cons_zero, List.set_cons_succ]
          refine anyZ_ready (rs := [8]) (by kernel_rfl) (by simp) ?_
          refine AllZ.last rfl (by kernel_rfl) (fun K hK => ?_) AllZ.nil
          go_simp
          refine (CS.out _ hHeld).mono ?_; rintro e9 v1 ⟨rfl, hf1⟩
          have HF1 := Lib.hid (hHeld.trans hf1 (fun _ _ h => h))
          clear hf1
          refine hK.out _ _ ?_
          clear hK K
          try change anyZ _ _ _ _ _ _ _ _ (Act.put _ (some 57) _) _
          try simp only [Act.put, List.setIfInBounds_toArray, List.set_cons_zero, List.set_cons_succ]
          refine anyZ_pure (i := 9) (v := ?_) (some 58) rfl rfl (by kernel_rfl) (by kernel_rfl) (by kernel_rfl) (by kernel_rfl) (fun _ _ _ h => h) (Or.inl ⟨by rfl, ?_⟩) (notYet (by kernel_rfl)) ?_
          rotate_left
          · intro w' _
            go_simp
            first | done | with_reducible rfl
          try simp only [Act.put, List.setIfInBounds_toArray, List.set_cons_zero, List.set_cons_succ]
          refine anyZ_done (by kernel_rfl) ?_ _
          clear hHeld
          go_wp2
          refine ⟨⟨j + 1, by simp, by omega, HF.out.trans HF1.out (fun _ _ h => h)⟩, ?_⟩
          first | omega | (show _ < _; simp [intOf]; omega)
        · obtain rfl : j = m := by omega
          go_wp2
          go_ret
          exact ⟨rfl, F3.out.trans HF.out (fun _ _ h => h)⟩
    · have HB5 := Lib.hid (cutE_bad id n size hE)
      have HRB := Lib.hid (fun w' => refCut_bad id A n c size w' hE)
      have HEE := Lib.hid hE
      go_enter Tryd.func3, Tryd.ntmps3
      go_wp2_with fail
      refine CK.out.mono ?_; rintro e w1 ⟨rfl, hf1⟩
      have F1 := Lib.hid hf1
      have G1 := Lib.hid (HG.out.fr0 hf1)
      have CC := Lib.hid (Cut_bad id A n c size w1 G1.out.err HEE.out)
      clear hf1 hE
      go_wp2_with fail
      refine CC.out.mono ?_; rintro e w2 ⟨x, rfl, hbv, hf2⟩
      have F2 := Lib.hid (F1.out.trans hf2 (fun _ _ h => h))
      have HV := Lib.hid hbv
      obtain ⟨E, hEE⟩ : ∃ E, cutE id n size = E := ⟨_, rfl⟩
      rw [hEE] at HB5 HRB HEE HV hbv
      unfold BrkV at hbv
      rw [if_neg HEE.out] at hbv
      obtain ⟨g, rfl, _, _⟩ := hbv
      clear hf2 CC hEE
      go_wp2_with fail
      refine (HRB.out _).mono ?_; rintro e w3 ⟨rfl, rfl⟩
      have CL := Lib.hid (lawBroken_any id E w1 w2 _ HV.out (.inr HB5.out) HI0.out HI1.out (HG.out.fr0 F2.out).pow (HG.out.fr0 F2.out).err)
      go_wp2_with fail
      refine CL.out.mono ?_; rintro e w4 ⟨rfl, hf4⟩
      have F4 := Lib.hid (F2.out.trans hf4 (fun _ _ h => h))
      clear hf4 CL
      go_wp2_with fail
      refine wp_loop_rounds 1 ?_
      rw [rounds_succ]
      go_wp2
      go_ret
      exact ⟨rfl, F4.out⟩
end Go.Proofs.YtacafjbbdklleaaDoor
