/- MatchPlays: the walk. -/
import Derived.Test.YtkinbcmnfpkncaaSh
import Derived.Test.YtkinbcmnfpkncaaRowN
namespace Go.Proofs.Ytkinbcmnfpkncaa
open Go.RowKit Go.Maps Go.Shelf

/-- Between two acts of a play. -/
def RL (w0 w : World) (gm gr : Nat) (most : Int) (i : Nat) : Prop := ∃ t L, PB w0 w gm gr t most L ∧ Same t most L ∧ t.ok ∧ t.pushed ≤ i ∧ L.length ≤ i
theorem cntL_pop {L : List (Int × Int)} {c : Int} (h : 0 < cntL L c) : cntL (popL L c) c + 1 = cntL L c := by
  rw [cntL_eq, cntL_eq, ofL_pop, if_pos rfl, List.length_tail]
  rw [cntL_eq] at h
  omega

set_option maxRecDepth 100000 in
set_option maxHeartbeats 8000000 in
theorem plays_any (A : Option Addr) (n c : Nat) (f : Nat → MA) (most : Int) (w : World) (hA : MAs w A n f) :
    Calls Try.prog 3 #[.int .i64 most, .slice A n c] w fun e w' => e = .returned (.bool true) ∧ Fr (fun _ => False) w w' := by
  have CK := Lib.hid (known_any w)
  have HA := Lib.hid hA
  clear hA
  go_enter Try.func3, Try.ntmps3
  go_wp2_with fail
  refine CK.out.mono ?_; rintro e w1 ⟨rfl, hf1⟩
  have HF1 := Lib.hid hf1
  clear hf1 CK
  by_cases h0 : (300 : Int) < (n : Int)
  · have d0 : decide ((300 : Int) < (n : Int)) = true := decide_eq_true h0
    have d0' : decide (300 < n) = true := decide_eq_true (by omega)
    clear h0
    go_wp2
    go_ret
    exact ⟨rfl, HF1.out⟩
  have d0 : decide ((300 : Int) < (n : Int)) = false := decide_eq_false h0
  have d0' : decide (300 < n) = false := decide_eq_false (by omega)
  have HN : Hid (n ≤ 300) := Lib.hid (by omega)
  clear h0
  by_cases hm : most < 1 ∨ 65536 < most
  · have CN := Lib.hid (newNo_I hm w1)
    have CR := Lib.hid (rnew_no hm w1)
    clear hm
    go_wp2_with fail
    refine CN.out.mono ?_; rintro e w2 ⟨rfl, rfl⟩
    go_wp2_with fail
    refine CR.out.mono ?_; rintro e w2 ⟨rfl, rfl⟩
    go_wp2
    go_ret
    exact ⟨rfl, HF1.out⟩
  have hm1 : 1 ≤ most := by omega
  have hm2 : most ≤ 65536 := by omega
  clear hm
  go_wp2_with fail
  clear d0 d0'
  refine (new_I hm1 hm2 w1).mono ?_; rintro e w2 ⟨gm, rfl, -, hf2, hmt⟩
  have HF2 := Lib.hid hf2
  have HMT := Lib.hid hmt
  clear hmt hf2
  go_wp2_with fail
  refine (rnew_yes hm1 hm2 w2).mono ?_; rintro e w3 ⟨gr, rfl, hf3, hrf⟩
  have HR3 : Hid (RL w w3 gm gr most 0) := Lib.hid ⟨_, _, ⟨_, _, HMT.out.fr0 hf3, hrf, fun k hk hk2 => by omega, fun k hk => Nat.le_trans HF1.out.size hk.1, fun k hk => Nat.le_trans (Nat.le_trans HF1.out.size HF2.out.size) hk.1, (HF1.out.trans HF2.out (fun _ _ h => h)).trans hf3 (fun _ _ h => h)⟩, ⟨rfl, fun _ _ => rfl, fun p hp => by cases hp⟩, newMT_ok hm1 hm2, Nat.le_refl _, Nat.le_refl _⟩
  clear hf3 hrf HMT HF1 HF2 hm1 hm2
  go_wp2_with fail
  go_loopw [9] (fun v wr => ∃ i : Nat, v = .int .i64 (i : Int) ∧ i ≤ n ∧ Hid (RL w wr gm gr most i)) (fun v _ => n - (intOf v).toNat)
  case atStart => exact ⟨0, rfl, Nat.zero_le _, HR3⟩
  case round =>
    clear HR3
    obtain ⟨i, rfl, hin, HR⟩ := hrel
    by_cases hi : i < n
    · have di : decide ((i : Int) < (n : Int)) = true := decide_eq_true (by omega)
      have di' : decide (i < n) = true := decide_eq_true hi
      have hi0 : (0 : Int) ≤ (i : Int) := by omega
      have hi1 : (i : Int) < (n : Int) := by omega
      have HLT := Lib.hid hi
      have hwi := wrap_succ (k := i) (by have := HN.out; omega)
      obtain ⟨b, o, rfl, hat⟩ := HA.out i hi
      obtain ⟨t, L, hpb, hsm, hok, hpu, hli⟩ := HR.out
      have hat2 := hat.fr hpb.old
      obtain ⟨a, ha⟩ : ∃ a, f i = a := ⟨_, rfl⟩
      rw [ha] at hat2
      obtain ⟨a0, a1, a2, a3, a4⟩ := a
      have HAI : Hid (I64 a1) := Lib.hid hat2.i1
      have q0 := hat2.c0
      have q1 := hat2.c1
      have q2 := hat2.c2
      have q3 := hat2.c3
      have q4 := hat2.c4
      simp only at q0 q1 q2 q3 q4
      have HPB := Lib.hid hpb
      have HSM := Lib.hid hsm
      have HOK := Lib.hid hok
      have HPU : Hid (t.pushed ≤ i) := Lib.hid hpu
      have HLI : Hid (L.length ≤ i) := Lib.hid hli
      obtain ⟨W1, hW1⟩ : ∃ W1, wr.alloc (.cells #[.int .i64 a0, .int .i64 a1, .int .i64 a2, .int .i64 a3, .int .i64 a4] 32) = W1 := ⟨_, rfl⟩
      obtain ⟨b10, hb10⟩ : ∃ b10, wr.heap.size = b10 := ⟨_, rfl⟩
      have s1 : W1.heap.size = b10 + 1 := by rw [← hW1, ← hb10]; simp
      have HW1 : Hid (Fr (fun _ => False) wr W1) := Lib.hid (by rw [← hW1]; exact (Fr.refl _ _).alloc _)
      have HB10 : Hid (Bk W1 b10 32 #[.int .i64 a0, .int .i64 a1, .int .i64 a2, .int .i64 a3, .int .i64 a4]) := Lib.hid (by rw [← hW1, ← hb10]; exact Bk.new _ _ _)
      have HSZ : Hid (wr.heap.size = b10 ∧ W1.heap.size = b10 + 1) := Lib.hid ⟨hb10, s1⟩
      have e0 : W1.cell? ⟨b10, 0, none⟩ = some (.int .i64 a0) := HB10.out.cell 0
      have e1 : W1.cell? ⟨b10, 1, none⟩ = some (.int .i64 a1) := HB10.out.cell 1
      have HPX : Hid (PX (fun k => k = b10) w W1 gm gr t most L) := Lib.hid (hpb.px HW1.out (fun k e => by subst e; omega))
      have HCR : Hid (∀ w', Fr (fun k => ¬ k = b10) W1 w' → w'.cell? ⟨b10, 1, none⟩ = some (.int .i64 a1) ∧ w'.cell? ⟨b10, 2, none⟩ = some (.int .i64 a2)) := Lib.hid (fun w' hf => ⟨(HB10.out.fr hf (fun h => h rfl)).cell 1, (HB10.out.fr hf (fun h => h rfl)).cell 2⟩)
      clear hin hi hat hpb hsm hok hpu hli hat2 ha HR
      by_cases o1 : a0 = 1
      · subst o1
        have HLL : Hid (L.length < 1000000) := Lib.hid (by have := HLI.out; have := HLT.out; have := HN.out; omega)
        by_cases hfu : t.full a1 = true
        · have HFU : Hid (most ≤ (cntL L a1 : Nat)) := Lib.hid (by
            have h9 : decide (t.most ≤ ((t.row a1).length : Int)) = true := hfu
            rw [HSM.out.len HAI.out, HSM.out.ms] at h9
            exact of_decide_eq_true h9)
          have CP := Lib.hid (fun w' (hf : Fr (fun _ => False) W1 w') => (HPX.out.fr hf).pushNo HAI.out (.int .i64 a2) hfu)
          clear hfu
          go_wp2_with fail
          clear hW1 hb10 s1 q0 q1 q2 q3 q4
          refine wp_region_held_drew (S := fun w' => Fr (fun k => ¬ k = b10) W1 w') (by kernel_rfl) ((Fr.refl _ _).drew) (fun hHeld => ?_)
          refine wpAnyH_takeD (i := 0) (v := ?_) (some 59) rfl rfl (by kernel_rfl) (by kernel_rfl) (by kernel_rfl) (fun _ _ _ h => h) (Or.inl ⟨by rfl, ?_⟩) (by assumption) ?_
          rotate_left
          · intro w' hSw
            go_simp
            first | done | with_reducible rfl
          try simp only [Act.put, List.setIfInBounds_toArray, List.set_cons_zero, List.set_cons_succ]
          refine wpAnyH_takeD (i := 1) (v := ?_) (some 60) rfl rfl (by kernel_rfl) (by kernel_rfl) (by kernel_rfl) (fun _ _ _ h => h) (Or.inl ⟨by rfl, ?_⟩) (by assumption) ?_
          rotate_left
          · intro w' hSw
            go_simp
            first | done | with_reducible rfl
          try simp only [Act.put, List.setIfInBounds_toArray, List.set_cons_zero, List.set_cons_succ]
          refine wpAnyH_takeD (i := 2) (v := ?_) (some 61) rfl rfl (by kernel_rfl) (by kernel_rfl) (by kernel_rfl) (fun _ _ _ h => h) (Or.inl ⟨by rfl, ?_⟩) (by assumption) ?_
          rotate_left
          · intro w' hSw
            obtain ⟨y1, y2⟩ := HCR.out w' hSw
            go_simp
            first | done | with_reducible rfl
          try simp only [Act.put, List.setIfInBounds_toArray, List.set_cons_zero, List.set_cons_succ]
          refine wpAnyH_takeD (i := 3) (v := ?_) (some 62) rfl rfl (by kernel_rfl) (by kernel_rfl) (by kernel_rfl) (fun _ _ _ h => h) (Or.inl ⟨by rfl, ?_⟩) (by assumption) ?_
          rotate_left
          · intro w' hSw
            go_simp
            first | done | with_reducible rfl
          try simp only [Act.put, List.setIfInBounds_toArray, List.set_cons_zero, List.set_cons_succ]
          refine wpAnyH_takeD (i := 4) (v := ?_) (some 63) rfl rfl (by kernel_rfl) (by kernel_rfl) (by kernel_rfl) (fun _ _ _ h => h) (Or.inl ⟨by rfl, ?_⟩) (by assumption) ?_
          rotate_left
          · intro w' hSw
            obtain ⟨y1, y2⟩ := HCR.out w' hSw
            go_simp
            first | done | with_reducible rfl
          try simp only [Act.put, List.setIfInBounds_toArray, List.set_cons_zero, List.set_cons_succ]
          refine wpAnyH_takeD (i := 6) (v := ?_) (some 65) rfl rfl (by kernel_rfl) (by kernel_rfl) (by kernel_rfl) (fun _ _ _ h => h) (Or.inl ⟨by rfl, ?_⟩) (by assumption) ?_
          rotate_left
          · intro w' hSw
            go_simp
            first | done | with_reducible rfl
          try simp only [Act.put, List.setIfInBounds_toArray, List.set_cons_zero, List.set_cons_succ]
          refine wpAnyH_takeD (i := 7) (v := ?_) (some 66) rfl rfl (by kernel_rfl) (by kernel_rfl) (by kernel_rfl) (fun _ _ _ h => h) (Or.inl ⟨by rfl, ?_⟩) (by assumption) ?_
          rotate_left
          · intro w' hSw
            go_simp
            first | done | with_reducible rfl
          try simp only [Act.put, List.setIfInBounds_toArray, List.set_cons_zero, List.set_cons_succ]
          refine wpAnyH_takeD (i := 8) (v := ?_) (some 67) rfl rfl (by kernel_rfl) (by kernel_rfl) (by kernel_rfl) (fun _ _ _ h => h) (Or.inl ⟨by rfl, ?_⟩) (by assumption) ?_
          rotate_left
          · intro w' hSw
            obtain ⟨y1, y2⟩ := HCR.out w' hSw
            go_simp
            first | done | with_reducible rfl
          try simp only [Act.put, List.setIfInBounds_toArray, List.set_cons_zero, List.set_cons_succ]
          refine wpAnyH_takeD (i := 9) (v := ?_) (some 68) rfl rfl (by kernel_rfl) (by kernel_rfl) (by kernel_rfl) (fun _ _ _ h => h) (Or.inl ⟨by rfl, ?_⟩) (by assumption) ?_
          rotate_left
          · intro w' hSw
            go_simp
            first | done | with_reducible rfl
          try simp only [Act.put, List.setIfInBounds_toArray, List.set_cons_zero, List.set_cons_succ]
          refine wpAnyH_takeD (i := 10) (v := ?_) (some 69) rfl rfl (by kernel_rfl) (by kernel_rfl) (by kernel_rfl) (fun _ _ _ h => h) (Or.inl ⟨by rfl, ?_⟩) (by assumption) ?_
          rotate_left
          · intro w' hSw
            obtain ⟨y1, y2⟩ := HCR.out w' hSw
            go_simp
            first | done | with_reducible rfl
          try simp only [Act.put, List.setIfInBounds_toArray, List.set_cons_zero, List.set_cons_succ]
          refine wpAnyH_ready (rs := [5]) (by kernel_rfl) (by simp) ?_
          refine AllReadyH.cons rfl (fun K hK => ?_) AllReadyH.nil
          go_simp
          refine (CP.out _ ((Fr.refl _ _).drew)).mono ?_; rintro e w3 ⟨rfl, hk3, hf3⟩
          have HK3 := Lib.hid hk3
          have HF3 := Lib.hid hf3
          clear hk3
          try go_simp
          refine hK.out _ _ (hHeld.trans HF3.out (fun _ _ h => h)) (fun hHeld => ?_)
          clear hK K
          try change wpAnyH _ _ _ _ _ _ _ (Act.put _ (some 64) _) _
          try simp only [Act.put, List.setIfInBounds_toArray, List.set_cons_zero, List.set_cons_succ]
          refine wpAnyH_ready (rs := [11]) (by kernel_rfl) (by simp) ?_
          refine AllReadyH.cons rfl (fun K hK => ?_) AllReadyH.nil
          go_simp
          refine (HK3.out.rpush HLL.out a1 a2).mono ?_; rintro e w5 ⟨h51, h52⟩
          obtain ⟨rfl, hk5, hf5⟩ := h51 (by have := HFU.out; omega)
          have HK5 := Lib.hid hk5
          have HF5 := Lib.hid hf5
          clear h51 h52 hk5 hf5
          try go_simp
          refine hK.out _ _ (hHeld.trans HF5.out (fun _ _ h => h)) (fun hHeld => ?_)
          clear hK K
          try change wpAnyH _ _ _ _ _ _ _ (Act.put _ (some 70) _) _
          try simp only [Act.put, List.setIfInBounds_toArray, List.set_cons_zero, List.set_cons_succ]
          refine wpAnyH_takeD (i := 12) (v := ?_) (some 71) rfl rfl (by kernel_rfl) (by kernel_rfl) (by kernel_rfl) (fun _ _ _ h => h) (Or.inl ⟨by rfl, ?_⟩) (by assumption) ?_
          rotate_left
          · intro w' hSw
            go_simp
            first | done | with_reducible rfl
          try simp only [Act.put, List.setIfInBounds_toArray, List.set_cons_zero, List.set_cons_succ]
          refine wpAnyH_done (by kernel_rfl) ?_ _
          obtain ⟨e1, -⟩ := HCR.out _ hHeld
          have HR5 : Hid (RL w w5 gm gr most (i + 1)) := Lib.hid ⟨_, _, HK5.out.pb, HSM.out, HOK.out, by have := HPU.out; omega, by have := HLI.out; omega⟩
          clear hHeld HK3 HF3 HK5 HF5 CP
          clear HCR
          obtain ⟨t5, L5, p5, s5, ok5, u5, l5⟩ := HR5.out
          have CLK := Lib.hid (looks_any p5 s5 ok5 (by have := HLT.out; have := HN.out; omega) HAI.out)
          have HP5 := Lib.hid p5
          have HS5 : Hid (Same t5 most L5 ∧ t5.ok ∧ t5.pushed ≤ i + 1 ∧ L5.length ≤ i + 1) := Lib.hid ⟨s5, ok5, u5, l5⟩
          clear p5 s5 ok5 u5 l5
          go_wp2_with fail
          refine CLK.out.mono ?_; rintro e w6 ⟨rfl, hf6⟩
          have HR6 : Hid (RL w w6 gm gr most (i + 1)) := Lib.hid ⟨t5, L5, HP5.out.fr hf6, HS5.out⟩
          clear hf6 CLK HP5 HS5
          go_wp2
          go_roundw
          case rel => exact ⟨i + 1, by first | rfl | (push_cast; rfl) | (go_num; done), HLT.out, HR6⟩
          case measure =>
            show n - ((i : Int) + 1).toNat < n - ((i : Int)).toNat
            exact meas_up HLT.out
        · have hnf : t.full a1 = false := by simpa using hfu
          have HNF := Lib.hid hnf
          have HFU : Hid (¬ most ≤ (cntL L a1 : Nat)) := Lib.hid (by
            have h9 : decide (t.most ≤ ((t.row a1).length : Int)) = false := hnf
            rw [HSM.out.len HAI.out, HSM.out.ms] at h9
            exact of_decide_eq_false h9)
          have CP := Lib.hid (fun w' (hf : Fr (fun _ => False) W1 w') => (HPX.out.fr hf).push HOK.out (by have := HPU.out; have := HLT.out; have := HN.out; omega) HAI.out a2 hnf)
          clear hfu hnf
          go_wp2_with fail
          clear hW1 hb10 s1 q0 q1 q2 q3 q4
          refine wp_region_held_drew (S := fun w' => Fr (fun k => ¬ k = b10) W1 w') (by kernel_rfl) ((Fr.refl _ _).drew) (fun hHeld => ?_)
          refine wpAnyH_takeD (i := 0) (v := ?_) (some 59) rfl rfl (by kernel_rfl) (by kernel_rfl) (by kernel_rfl) (fun _ _ _ h => h) (Or.inl ⟨by rfl, ?_⟩) (by assumption) ?_
          rotate_left
          · intro w' hSw
            go_simp
            first | done | with_reducible rfl
          try simp only [Act.put, List.setIfInBounds_toArray, List.set_cons_zero, List.set_cons_succ]
          refine wpAnyH_takeD (i := 1) (v := ?_) (some 60) rfl rfl (by kernel_rfl) (by kernel_rfl) (by kernel_rfl) (fun _ _ _ h => h) (Or.inl ⟨by rfl, ?_⟩) (by assumption) ?_
          rotate_left
          · intro w' hSw
            go_simp
            first | done | with_reducible rfl
          try simp only [Act.put, List.setIfInBounds_toArray, List.set_cons_zero, List.set_cons_succ]
          refine wpAnyH_takeD (i := 2) (v := ?_) (some 61) rfl rfl (by kernel_rfl) (by kernel_rfl) (by kernel_rfl) (fun _ _ _ h => h) (Or.inl ⟨by rfl, ?_⟩) (by assumption) ?_
          rotate_left
          · intro w' hSw
            obtain ⟨y1, y2⟩ := HCR.out w' hSw
            go_simp
            first | done | with_reducible rfl
          try simp only [Act.put, List.setIfInBounds_toArray, List.set_cons_zero, List.set_cons_succ]
          refine wpAnyH_takeD (i := 3) (v := ?_) (some 62) rfl rfl (by kernel_rfl) (by kernel_rfl) (by kernel_rfl) (fun _ _ _ h => h) (Or.inl ⟨by rfl, ?_⟩) (by assumption) ?_
          rotate_left
          · intro w' hSw
            go_simp
            first | done | with_reducible rfl
          try simp only [Act.put, List.setIfInBounds_toArray, List.set_cons_zero, List.set_cons_succ]
          refine wpAnyH_takeD (i := 4) (v := ?_) (some 63) rfl rfl (by kernel_rfl) (by kernel_rfl) (by kernel_rfl) (fun _ _ _ h => h) (Or.inl ⟨by rfl, ?_⟩) (by assumption) ?_
          rotate_left
          · intro w' hSw
            obtain ⟨y1, y2⟩ := HCR.out w' hSw
            go_simp
            first | done | with_reducible rfl
          try simp only [Act.put, List.setIfInBounds_toArray, List.set_cons_zero, List.set_cons_succ]
          refine wpAnyH_takeD (i := 6) (v := ?_) (some 65) rfl rfl (by kernel_rfl) (by kernel_rfl) (by kernel_rfl) (fun _ _ _ h => h) (Or.inl ⟨by rfl, ?_⟩) (by assumption) ?_
          rotate_left
          · intro w' hSw
            go_simp
            first | done | with_reducible rfl
          try simp only [Act.put, List.setIfInBounds_toArray, List.set_cons_zero, List.set_cons_succ]
          refine wpAnyH_takeD (i := 7) (v := ?_) (some 66) rfl rfl (by kernel_rfl) (by kernel_rfl) (by kernel_rfl) (fun _ _ _ h => h) (Or.inl ⟨by rfl, ?_⟩) (by assumption) ?_
          rotate_left
          · intro w' hSw
            go_simp
            first | done | with_reducible rfl
          try simp only [Act.put, List.setIfInBounds_toArray, List.set_cons_zero, List.set_cons_succ]
          refine wpAnyH_takeD (i := 8) (v := ?_) (some 67) rfl rfl (by kernel_rfl) (by kernel_rfl) (by kernel_rfl) (fun _ _ _ h => h) (Or.inl ⟨by rfl, ?_⟩) (by assumption) ?_
          rotate_left
          · intro w' hSw
            obtain ⟨y1, y2⟩ := HCR.out w' hSw
            go_simp
            first | done | with_reducible rfl
          try simp only [Act.put, List.setIfInBounds_toArray, List.set_cons_zero, List.set_cons_succ]
          refine wpAnyH_takeD (i := 9) (v := ?_) (some 68) rfl rfl (by kernel_rfl) (by kernel_rfl) (by kernel_rfl) (fun _ _ _ h => h) (Or.inl ⟨by rfl, ?_⟩) (by assumption) ?_
          rotate_left
          · intro w' hSw
            go_simp
            first | done | with_reducible rfl
          try simp only [Act.put, List.setIfInBounds_toArray, List.set_cons_zero, List.set_cons_succ]
          refine wpAnyH_takeD (i := 10) (v := ?_) (some 69) rfl rfl (by kernel_rfl) (by kernel_rfl) (by kernel_rfl) (fun _ _ _ h => h) (Or.inl ⟨by rfl, ?_⟩) (by assumption) ?_
          rotate_left
          · intro w' hSw
            obtain ⟨y1, y2⟩ := HCR.out w' hSw
            go_simp
            first | done | with_reducible rfl
          try simp only [Act.put, List.setIfInBounds_toArray, List.set_cons_zero, List.set_cons_succ]
          refine wpAnyH_ready (rs := [5]) (by kernel_rfl) (by simp) ?_
          refine AllReadyH.cons rfl (fun K hK => ?_) AllReadyH.nil
          go_simp
          refine (CP.out _ ((Fr.refl _ _).drew)).mono ?_; rintro e w3 ⟨rfl, hk3, hf3⟩
          have HK3 := Lib.hid hk3
          have HF3 := Lib.hid hf3
          clear hk3
          try go_simp
          refine hK.out _ _ (hHeld.trans HF3.out (fun _ _ h => h)) (fun hHeld => ?_)
          clear hK K
          try change wpAnyH _ _ _ _ _ _ _ (Act.put _ (some 64) _) _
          try simp only [Act.put, List.setIfInBounds_toArray, List.set_cons_zero, List.set_cons_succ]
          refine wpAnyH_ready (rs := [11]) (by kernel_rfl) (by simp) ?_
          refine AllReadyH.cons rfl (fun K hK => ?_) AllReadyH.nil
          go_simp
          refine (HK3.out.rpush HLL.out a1 a2).mono ?_; rintro e w5 ⟨h51, h52⟩
          obtain ⟨rfl, hk5, hf5⟩ := h52 (by have := HFU.out; omega)
          have HK5 := Lib.hid hk5
          have HF5 := Lib.hid hf5
          clear h51 h52 hk5 hf5
          try go_simp
          refine hK.out _ _ (hHeld.trans HF5.out (fun _ _ h => h)) (fun hHeld => ?_)
          clear hK K
          try change wpAnyH _ _ _ _ _ _ _ (Act.put _ (some 70) _) _
          try simp only [Act.put, List.setIfInBounds_toArray, List.set_cons_zero, List.set_cons_succ]
          refine wpAnyH_takeD (i := 12) (v := ?_) (some 71) rfl rfl (by kernel_rfl) (by kernel_rfl) (by kernel_rfl) (fun _ _ _ h => h) (Or.inl ⟨by rfl, ?_⟩) (by assumption) ?_
          rotate_left
          · intro w' hSw
            go_simp
            first | done | with_reducible rfl
          try simp only [Act.put, List.setIfInBounds_toArray, List.set_cons_zero, List.set_cons_succ]
          refine wpAnyH_done (by kernel_rfl) ?_ _
          obtain ⟨e1, -⟩ := HCR.out _ hHeld
          have HR5 : Hid (RL w w5 gm gr most (i + 1)) := Lib.hid ⟨_, _, HK5.out.pb, HSM.out.push HAI.out a2, HOK.out.push HNF.out a2, by have := HPU.out; show t.pushed + 1 ≤ i + 1; omega, by have := HLI.out; simp; omega⟩
          clear hHeld HK3 HF3 HK5 HF5 CP
          clear HCR
          obtain ⟨t5, L5, p5, s5, ok5, u5, l5⟩ := HR5.out
          have CLK := Lib.hid (looks_any p5 s5 ok5 (by have := HLT.out; have := HN.out; omega) HAI.out)
          have HP5 := Lib.hid p5
          have HS5 : Hid (Same t5 most L5 ∧ t5.ok ∧ t5.pushed ≤ i + 1 ∧ L5.length ≤ i + 1) := Lib.hid ⟨s5, ok5, u5, l5⟩
          clear p5 s5 ok5 u5 l5
          go_wp2_with fail
          refine CLK.out.mono ?_; rintro e w6 ⟨rfl, hf6⟩
          have HR6 : Hid (RL w w6 gm gr most (i + 1)) := Lib.hid ⟨t5, L5, HP5.out.fr hf6, HS5.out⟩
          clear hf6 CLK HP5 HS5
          go_wp2
          go_roundw
          case rel => exact ⟨i + 1, by first | rfl | (push_cast; rfl) | (go_num; done), HLT.out, HR6⟩
          case measure =>
            show n - ((i : Int) + 1).toNat < n - ((i : Int)).toNat
            exact meas_up HLT.out
      have d1 : (a0 == 1) = false := by rw [beq_eq_false_iff_ne]; exact o1
      by_cases o2 : a0 = 2
      · subst o2
        obtain ⟨pv, pb, hpv⟩ : ∃ pv pb, hd_I (t.row a1) = #[.int .i64 pv, .bool pb] := by
          cases t.row a1 with
          | nil => exact ⟨_, _, rfl⟩
          | cons a r => exact ⟨_, _, rfl⟩
        have HPV := Lib.hid hpv
        clear hpv o1 d1
        go_wp2_with fail
        clear hW1 hb10 s1 q0 q1 q2 q3 q4
        refine (HPX.out.pop (by have := HPU.out; have := HLT.out; have := HN.out; omega) HAI.out HPV.out).mono ?_; rintro e w3 ⟨rfl, hk3, hf3⟩
        have HF3 := Lib.hid hf3
        have HK3 := Lib.hid hk3
        have e1 := (HCR.out w3 hf3).1
        clear hk3 hf3
        go_wp2_with fail
        refine (HK3.out.rpop a1).mono ?_; rintro e w5 ⟨rfl, hk5, hf5⟩
        rw [← HSM.out.hd HAI.out, HPV.out]
        have HR5 : Hid (RL w w5 gm gr most (i + 1)) := Lib.hid ⟨_, _, hk5.pb, HSM.out.pop a1, HOK.out.pop a1, by have := HPU.out; show t.pushed ≤ i + 1; omega, by have h9 := HLI.out; have h8 : (popL L a1).length ≤ L.length := (List.eraseP_sublist).length_le; omega⟩
        have e1 := (HCR.out w5 (HF3.out.trans hf5 (fun _ _ h => h))).1
        clear hk5 hf5 HK3 HF3
        clear HCR
        obtain ⟨t5, L5, p5, s5, ok5, u5, l5⟩ := HR5.out
        have CLK := Lib.hid (looks_any p5 s5 ok5 (by have := HLT.out; have := HN.out; omega) HAI.out)
        have HP5 := Lib.hid p5
        have HS5 : Hid (Same t5 most L5 ∧ t5.ok ∧ t5.pushed ≤ i + 1 ∧ L5.length ≤ i + 1) := Lib.hid ⟨s5, ok5, u5, l5⟩
        clear p5 s5 ok5 u5 l5
        go_wp2_with fail
        refine CLK.out.mono ?_; rintro e w6 ⟨rfl, hf6⟩
        have HR6 : Hid (RL w w6 gm gr most (i + 1)) := Lib.hid ⟨t5, L5, HP5.out.fr hf6, HS5.out⟩
        clear hf6 CLK HP5 HS5
        go_wp2
        go_roundw
        case rel => exact ⟨i + 1, by first | rfl | (push_cast; rfl) | (go_num; done), HLT.out, HR6⟩
        case measure =>
          show n - ((i : Int) + 1).toNat < n - ((i : Int)).toNat
          exact meas_up HLT.out
      have d2 : (a0 == 2) = false := by rw [beq_eq_false_iff_ne]; exact o2
      by_cases o3 : a0 = 3
      · subst o3
        clear o1 d1 o2 d2
        have e3 : W1.cell? ⟨b10, 3, none⟩ = some (.int .i64 a3) := HB10.out.cell 3
        obtain ⟨W2, hW2⟩ : ∃ W2, W1.alloc (.cells #[.int .i64 a3] 3) = W2 := ⟨_, rfl⟩
        have s2 : W2.heap.size = b10 + 1 + 1 := by rw [← hW2]; simp [s1]
        have k2 : Bk W2 (b10 + 1) 3 #[.int .i64 a3] := by rw [← hW2, ← s1]; exact Bk.new _ _ _
        have f2 : Fr (fun _ => False) W1 W2 := by rw [← hW2]; exact (Fr.refl _ _).alloc _
        have HS2 := Lib.hid s2
        have HB2 := Lib.hid (HB10.out.fr f2 (fun h => h))
        have HPX2 : Hid (PX (fun k => k = b10 ∨ k = b10 + 1) w W2 gm gr t most L) := Lib.hid (HPB.out.px (HW1.out.trans f2 (fun _ _ h => h)) (fun k e => by omega))
        have c15 : W2.cell? ⟨b10 + 1, 0, none⟩ = some (.int .i64 a3) := k2.cell 0
        have z15 : W2.frozen? ⟨b10 + 1, 0, none⟩ = false := k2.frozen 0
        by_cases hby : a3 < 1
        · have dby : decide (a3 < 1) = true := decide_eq_true hby
          obtain ⟨W3, hW3⟩ : ∃ W3, W2.setCell ⟨b10 + 1, 0, none⟩ (.int .i64 1) = W3 := ⟨_, rfl⟩
          have f3 : Fr (fun k => k = b10 + 1) W2 W3 := by rw [← hW3]; exact Fr.setCell (S := fun k => k = b10 + 1) (p := ⟨b10 + 1, 0, none⟩) (Fr.refl _ _) (fun _ => rfl) _
          have HPX3 : Hid (PX (fun k => k = b10 ∨ k = b10 + 1) w W3 gm gr t most L) := Lib.hid (HPX2.out.turn (f3.mono (fun _ _ h => .inr h)) (fun k e => by have := HPB.out.old.size; have := HSZ.out.1; omega))
          have HB3 := Lib.hid (HB2.out.fr f3 (by omega))
          have HBY : Hid (Bk W3 (b10 + 1) 3 #[.int .i64 1]) := Lib.hid (by rw [← hW3]; have := k2.set 0 (.int .i64 1); simpa using this)
          have HD0 : Hid (¬ (1 : Int) = 0) := Lib.hid (by omega)
          clear hby f3 f2 k2 s2 HPX2 HB2
          have HPC := Lib.hid (HPX3.out.keep HOK.out (by have := HPU.out; have := HLT.out; have := HN.out; omega) HAI.out (ff := 14) (lb := #[.pointer (some ⟨b10 + 1, 0, none⟩), .pointer (some ⟨b10, 0, none⟩)]) (fun y => decide (y.tmod 1 = a4)) (enters_of Try.func14 (by kernel_rfl) rfl)
            (fun w' hf x _ => playsF ((HBY.out.fr hf (fun h => h)).cell 0) ((HB3.out.fr hf (fun h => h)).cell 4) HD0.out x.2))
          obtain ⟨nk, hnk⟩ : ∃ nk, (t.row a1).length - ((t.row a1).filter fun x => decide (x.2.tmod 1 = a4)).length = nk := ⟨_, rfl⟩
          have HNK : Hid (L.length - (L.filter (keepQ a1 1 a4)).length = nk) := Lib.hid (by rw [← HSM.out.keep_cnt HAI.out]; exact hnk)
          rw [hnk] at HPC
          have m1 : W3.cell? ⟨b10, 1, none⟩ = some (.int .i64 a1) := HB3.out.cell 1
          clear hnk
          go_wp2_with fail
          clear e0 e1 e3 hW1 hb10 s1 q0 q1 q2 q3 q4 c15 z15 hW2 dby m1 hW3
          refine HPC.out.mono ?_; rintro e w4 ⟨rfl, hk4, hf4⟩
          have HK4 := Lib.hid hk4
          have HF4 := Lib.hid hf4
          have n1 : w4.cell? ⟨b10, 1, none⟩ = some (.int .i64 a1) := (HB3.out.fr hf4 (fun h => h (.inl rfl))).cell 1
          have n4 : w4.cell? ⟨b10, 4, none⟩ = some (.int .i64 a4) := (HB3.out.fr hf4 (fun h => h (.inl rfl))).cell 4
          have n5 : w4.cell? ⟨b10 + 1, 0, none⟩ = some (.int .i64 1) := (HBY.out.fr hf4 (fun h => h (.inr rfl))).cell 0
          clear hk4 hf4 HPC
          go_wp2_with fail
          refine (HK4.out.rkeep a1 1 a4 HD0.out).mono ?_; rintro e w5 ⟨rfl, hk5, hf5⟩
          rw [HNK.out]
          have HR5 : Hid (RL w w5 gm gr most (i + 1)) := Lib.hid ⟨_, _, hk5.pb, HSM.out.keep a1 1 a4, HOK.out.drop List.filter_sublist, by have := HPU.out; show t.pushed ≤ i + 1; omega, by have h9 := HLI.out; have h8 := List.length_filter_le (keepQ a1 1 a4) L; omega⟩
          have e1 : w5.cell? ⟨b10, 1, none⟩ = some (.int .i64 a1) := (HB3.out.fr (HF4.out.trans hf5 (fun _ _ h => h)) (fun h => h (.inl rfl))).cell 1
          clear hk5 hf5 HK4 HF4 n1 n4 n5 HNK
          clear HCR
          obtain ⟨t5, L5, p5, s5, ok5, u5, l5⟩ := HR5.out
          have CLK := Lib.hid (looks_any p5 s5 ok5 (by have := HLT.out; have := HN.out; omega) HAI.out)
          have HP5 := Lib.hid p5
          have HS5 : Hid (Same t5 most L5 ∧ t5.ok ∧ t5.pushed ≤ i + 1 ∧ L5.length ≤ i + 1) := Lib.hid ⟨s5, ok5, u5, l5⟩
          clear p5 s5 ok5 u5 l5
          go_wp2_with fail
          refine CLK.out.mono ?_; rintro e w6 ⟨rfl, hf6⟩
          have HR6 : Hid (RL w w6 gm gr most (i + 1)) := Lib.hid ⟨t5, L5, HP5.out.fr hf6, HS5.out⟩
          clear hf6 CLK HP5 HS5
          go_wp2
          go_roundw
          case rel => exact ⟨i + 1, by first | rfl | (push_cast; rfl) | (go_num; done), HLT.out, HR6⟩
          case measure =>
            show n - ((i : Int) + 1).toNat < n - ((i : Int)).toNat
            exact meas_up HLT.out
        · have dby : decide (a3 < 1) = false := decide_eq_false hby
          have HPX3 := HPX2
          have HB3 := HB2
          have HBY := Lib.hid k2
          have HD0 : Hid (¬ a3 = 0) := Lib.hid (by omega)
          clear hby f2 k2 s2
          have HPC := Lib.hid (HPX3.out.keep HOK.out (by have := HPU.out; have := HLT.out; have := HN.out; omega) HAI.out (ff := 14) (lb := #[.pointer (some ⟨b10 + 1, 0, none⟩), .pointer (some ⟨b10, 0, none⟩)]) (fun y => decide (y.tmod a3 = a4)) (enters_of Try.func14 (by kernel_rfl) rfl)
            (fun w' hf x _ => playsF ((HBY.out.fr hf (fun h => h)).cell 0) ((HB3.out.fr hf (fun h => h)).cell 4) HD0.out x.2))
          obtain ⟨nk, hnk⟩ : ∃ nk, (t.row a1).length - ((t.row a1).filter fun x => decide (x.2.tmod a3 = a4)).length = nk := ⟨_, rfl⟩
          have HNK : Hid (L.length - (L.filter (keepQ a1 a3 a4)).length = nk) := Lib.hid (by rw [← HSM.out.keep_cnt HAI.out]; exact hnk)
          rw [hnk] at HPC
          have m1 : W2.cell? ⟨b10, 1, none⟩ = some (.int .i64 a1) := HB3.out.cell 1
          clear hnk
          go_wp2_with fail
          clear e0 e1 e3 hW1 hb10 s1 q0 q1 q2 q3 q4 c15 z15 hW2 dby m1 
          refine HPC.out.mono ?_; rintro e w4 ⟨rfl, hk4, hf4⟩
          have HK4 := Lib.hid hk4
          have HF4 := Lib.hid hf4
          have n1 : w4.cell? ⟨b10, 1, none⟩ = some (.int .i64 a1) := (HB3.out.fr hf4 (fun h => h (.inl rfl))).cell 1
          have n4 : w4.cell? ⟨b10, 4, none⟩ = some (.int .i64 a4) := (HB3.out.fr hf4 (fun h => h (.inl rfl))).cell 4
          have n5 : w4.cell? ⟨b10 + 1, 0, none⟩ = some (.int .i64 a3) := (HBY.out.fr hf4 (fun h => h (.inr rfl))).cell 0
          clear hk4 hf4 HPC
          go_wp2_with fail
          refine (HK4.out.rkeep a1 a3 a4 HD0.out).mono ?_; rintro e w5 ⟨rfl, hk5, hf5⟩
          rw [HNK.out]
          have HR5 : Hid (RL w w5 gm gr most (i + 1)) := Lib.hid ⟨_, _, hk5.pb, HSM.out.keep a1 a3 a4, HOK.out.drop List.filter_sublist, by have := HPU.out; show t.pushed ≤ i + 1; omega, by have h9 := HLI.out; have h8 := List.length_filter_le (keepQ a1 a3 a4) L; omega⟩
          have e1 : w5.cell? ⟨b10, 1, none⟩ = some (.int .i64 a1) := (HB3.out.fr (HF4.out.trans hf5 (fun _ _ h => h)) (fun h => h (.inl rfl))).cell 1
          clear hk5 hf5 HK4 HF4 n1 n4 n5 HNK
          clear HCR
          obtain ⟨t5, L5, p5, s5, ok5, u5, l5⟩ := HR5.out
          have CLK := Lib.hid (looks_any p5 s5 ok5 (by have := HLT.out; have := HN.out; omega) HAI.out)
          have HP5 := Lib.hid p5
          have HS5 : Hid (Same t5 most L5 ∧ t5.ok ∧ t5.pushed ≤ i + 1 ∧ L5.length ≤ i + 1) := Lib.hid ⟨s5, ok5, u5, l5⟩
          clear p5 s5 ok5 u5 l5
          go_wp2_with fail
          refine CLK.out.mono ?_; rintro e w6 ⟨rfl, hf6⟩
          have HR6 : Hid (RL w w6 gm gr most (i + 1)) := Lib.hid ⟨t5, L5, HP5.out.fr hf6, HS5.out⟩
          clear hf6 CLK HP5 HS5
          go_wp2
          go_roundw
          case rel => exact ⟨i + 1, by first | rfl | (push_cast; rfl) | (go_num; done), HLT.out, HR6⟩
          case measure =>
            show n - ((i : Int) + 1).toNat < n - ((i : Int)).toNat
            exact meas_up HLT.out
      have d3 : (a0 == 3) = false := by rw [beq_eq_false_iff_ne]; exact o3
      by_cases o4 : a0 = 4
      · subst o4
        clear o1 d1 o2 d2 o3 d3
        obtain ⟨n1, hn1⟩ : ∃ n1, cntL L a1 = n1 := ⟨_, rfl⟩
        have CL : Hid (∀ w', PX (fun k => k = b10) w w' gm gr t most L → Calls Try.prog 16 #[.pointer (some ⟨gr, 0, none⟩), .int .i64 a1] w' fun e w'' => e = .returned (.int .i64 (n1 : Nat)) ∧ w'' = w') := Lib.hid (fun w' h => by rw [← hn1]; exact h.rlen a1)
        have CC : Hid (Calls Try.prog 17 #[.pointer (some ⟨gm, 0, none⟩), .int .i64 a1] W1 fun e w' => e = .returned (.int .i64 (n1 : Nat)) ∧ PX (fun k => k = b10) w w' gm gr (t.drop a1 []) most L ∧ Fr (fun k => ¬ k = b10) W1 w') := Lib.hid (by rw [← hn1, ← HSM.out.len HAI.out]; exact HPX.out.clear HAI.out)
        have HN1 := Lib.hid hn1
        clear hn1
        go_wp2_with fail
        clear hW1 hb10 s1 q0 q1 q2 q3 q4
        refine (CL.out _ HPX.out).mono ?_; rintro e w3 ⟨rfl, rfl⟩
        go_wp2_with fail
        refine CC.out.mono ?_; rintro e w4 ⟨rfl, hk4, hf4⟩
        have HF4 := Lib.hid hf4
        have HK4 := Lib.hid hk4
        have HJ0 : Hid (∃ L', PX (fun k => k = b10) w w4 gm gr (t.drop a1 []) most L' ∧ Fr (fun k => ¬ k = b10) w3 w4 ∧ n1 = cntL L' a1 ∧ (∀ c', c' ≠ a1 → ofL L' c' = ofL L c') ∧ (∀ p ∈ L', p ∈ L) ∧ L'.length ≤ L.length) := Lib.hid ⟨L, hk4, hf4, HN1.out.symm, fun _ _ => rfl, fun _ h => h, Nat.le_refl _⟩
        clear hk4 hf4 CC CL HK4 HF4 e0 e1
        go_wp2_with fail
        go_loopg [] n1 (fun k wy => Hid (∃ L', PX (fun k => k = b10) w wy gm gr (t.drop a1 []) most L' ∧ Fr (fun k => ¬ k = b10) w3 wy ∧ k = cntL L' a1 ∧ (∀ c', c' ≠ a1 → ofL L' c' = ofL L c') ∧ (∀ p ∈ L', p ∈ L) ∧ L'.length ≤ L.length))
        case atStart => exact HJ0
        case round =>
          obtain ⟨L', hk, hf, hc, hrest, hsub, hlen⟩ := hrel.out
          have e1 := (HCR.out _ hf).1
          have HC := Lib.hid hc
          have HREST := Lib.hid hrest
          have HSUB := Lib.hid hsub
          have HLEN := Lib.hid hlen
          have HK := Lib.hid hk
          have HF := Lib.hid hf
          have CL := Lib.hid (hk.rlen a1)
          rw [← hc] at CL
          clear hrel HJ0 hk hf hc hrest hsub hlen
          rcases Nat.eq_zero_or_pos gk with hz | hz
          · subst hz
            go_wp2_with fail
            refine CL.out.mono ?_; rintro e wz ⟨rfl, rfl⟩
            have HR5 : Hid (RL w wz gm gr most (i + 1)) := Lib.hid ⟨_, _, HK.out.pb, HSM.out.clear HC.out.symm HREST.out HSUB.out, HOK.out.drop (List.nil_sublist _), by have := HPU.out; show t.pushed ≤ i + 1; omega, by have := HLI.out; have := HLEN.out; omega⟩
            clear CL HC HREST HSUB HLEN HK HF
            go_wp2_with fail
            clear HCR
            obtain ⟨t5, L5, p5, s5, ok5, u5, l5⟩ := HR5.out
            have CLK := Lib.hid (looks_any p5 s5 ok5 (by have := HLT.out; have := HN.out; omega) HAI.out)
            have HP5 := Lib.hid p5
            have HS5 : Hid (Same t5 most L5 ∧ t5.ok ∧ t5.pushed ≤ i + 1 ∧ L5.length ≤ i + 1) := Lib.hid ⟨s5, ok5, u5, l5⟩
            clear p5 s5 ok5 u5 l5
            go_wp2_with fail
            refine CLK.out.mono ?_; rintro e w6 ⟨rfl, hf6⟩
            have HR6 : Hid (RL w w6 gm gr most (i + 1)) := Lib.hid ⟨t5, L5, HP5.out.fr hf6, HS5.out⟩
            clear hf6 CLK HP5 HS5
            go_wp2
            go_roundw
            case rel => exact ⟨i + 1, by first | rfl | (push_cast; rfl) | (go_num; done), HLT.out, HR6⟩
            case measure =>
              show n - ((i : Int) + 1).toNat < n - ((i : Int)).toNat
              exact meas_up HLT.out
          · have dk : decide ((0 : Int) < (gk : Int)) = true := decide_eq_true (by omega)
            have dk' : decide (0 < gk) = true := decide_eq_true hz
            have HZ := Lib.hid hz
            clear hz
            go_wp2_with fail
            refine CL.out.mono ?_; rintro e wz ⟨rfl, rfl⟩
            clear CL
            go_wp2_with fail
            refine (HK.out.rpop a1).mono ?_; rintro e wz2 ⟨rfl, hk2, hf2⟩
            have HK2 := Lib.hid hk2
            have HF2 := Lib.hid (HF.out.trans hf2 (fun _ _ h => h))
            clear hk2 hf2
            go_wp2_with fail
            go_roundg (cntL (popL L' a1) a1)
            case measure =>
              have h1 := HC.out; have h2 := HZ.out; have h3 := cntL_pop (L := L') (c := a1) (by omega); omega
            case rel => exact Lib.hid ⟨popL L' a1, HK2.out, HF2.out, rfl, fun c' hc' => by rw [ofL_pop, if_neg hc']; exact HREST.out c' hc', fun p hp => HSUB.out p (List.mem_of_mem_eraseP hp), Nat.le_trans (List.eraseP_sublist).length_le HLEN.out⟩
      have d4 : (a0 == 4) = false := by rw [beq_eq_false_iff_ne]; exact o4
      have HR5 : Hid (RL w W1 gm gr most (i + 1)) := Lib.hid ⟨t, L, HPX.out.pb, HSM.out, HOK.out, by have := HPU.out; omega, by have := HLI.out; omega⟩
      clear o1 o2 o3 o4
      clear HCR
      obtain ⟨t5, L5, p5, s5, ok5, u5, l5⟩ := HR5.out
      have CLK := Lib.hid (looks_any p5 s5 ok5 (by have := HLT.out; have := HN.out; omega) HAI.out)
      have HP5 := Lib.hid p5
      have HS5 : Hid (Same t5 most L5 ∧ t5.ok ∧ t5.pushed ≤ i + 1 ∧ L5.length ≤ i + 1) := Lib.hid ⟨s5, ok5, u5, l5⟩
      clear p5 s5 ok5 u5 l5
      go_wp2_with fail
      refine CLK.out.mono ?_; rintro e w6 ⟨rfl, hf6⟩
      have HR6 : Hid (RL w w6 gm gr most (i + 1)) := Lib.hid ⟨t5, L5, HP5.out.fr hf6, HS5.out⟩
      clear hf6 CLK HP5 HS5
      go_wp2
      go_roundw
      case rel => exact ⟨i + 1, by first | rfl | (push_cast; rfl) | (go_num; done), HLT.out, HR6⟩
      case measure =>
        show n - ((i : Int) + 1).toNat < n - ((i : Int)).toNat
        exact meas_up HLT.out
    · have di : decide ((i : Int) < (n : Int)) = false := decide_eq_false (by omega)
      have di' : decide (i < n) = false := decide_eq_false hi
      clear hi hin
      obtain ⟨t, L, hpb, -⟩ := HR.out
      have HO := Lib.hid hpb.old
      clear hpb HR
      go_wp2
      go_ret
      exact ⟨rfl, HO.out⟩
end Go.Proofs.Ytkinbcmnfpkncaa
