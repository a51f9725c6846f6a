/- The law's step where it adds. -/
import Derived.Test.YtainkckcipdknaaQz
namespace Go.Proofs.Ytainkckcipdknaa
open Go.RowKit

set_option maxRecDepth 100000 in
set_option maxHeartbeats 4000000 in
theorem step_add {w0 w : World} {g gr : Nat} {s : LG} {F G : Nat → Prop} {M : Nat} (q : Ac) (hp : PP w0 w g gr s s F G) (hs : Sm s M) (hM : M ≤ 4194304) (hq : q.ok) (hes : Es w0 q.A q.n q.ps (fun k => k < w0.heap.size)) (hop : q.op = 1) :
    Calls Try.prog 13 #[.pointer (some ⟨g, 0, none⟩), .pointer (some ⟨gr, 0, none⟩), .agg #[.int .i64 q.op, .int .i64 q.ix, .bool q.own, .int .i64 q.tm, .bool q.know, .slice q.A q.n q.c]] w fun e w' => StepE w0 g gr (M + q.n) e w' := by
  obtain ⟨op, x, own, tm, know, A, n, c, ps⟩ := q
  simp only at hes hop ⊢
  have x0 := hq.x0
  have x1 := hq.x1
  have hn1 : n ≤ 1048576 := hq.n1
  have hnc : n ≤ c := hq.nc
  have hcm : (c : Int) ≤ 9223372036854775807 := hq.cm
  simp only at x0 x1
  obtain ⟨W, hW⟩ : ∃ W, w.alloc (.cells #[.int .i64 op, .int .i64 x, .bool own, .int .i64 tm, .bool know, .slice A n c] 37) = W := ⟨_, rfl⟩
  obtain ⟨gb, hgb⟩ : ∃ gb, w.heap.size = gb := ⟨_, rfl⟩
  have HFW : Hid (Fr (fun _ => False) w W) := Lib.hid (by rw [← hW]; exact (Fr.refl _ _).alloc _)
  have HBX : Hid (Bk W gb 37 #[.int .i64 op, .int .i64 x, .bool own, .int .i64 tm, .bool know, .slice A n c]) := Lib.hid (by rw [← hW, ← hgb]; exact Bk.new _ _ _)
  have HGB : Hid (¬ F gb ∧ ¬ G gb) := Lib.hid (by rw [← hgb]; exact ⟨fun e => absurd (hp.lg.lt e) (Nat.lt_irrefl _), fun e => absurd (hp.rf.lt e) (Nat.lt_irrefl _)⟩)
  have HPW := Lib.hid (hp.fr0 HFW.out)
  have HCL : Hid (∀ w', Fr (fun k => F k ∨ G k) W w' → w'.cell? ⟨gb, 0, none⟩ = some (.int .i64 op) ∧ w'.cell? ⟨gb, 1, none⟩ = some (.int .i64 x) ∧ w'.cell? ⟨gb, 2, none⟩ = some (.bool own) ∧ w'.cell? ⟨gb, 3, none⟩ = some (.int .i64 tm) ∧ w'.cell? ⟨gb, 4, none⟩ = some (.bool know) ∧ w'.cell? ⟨gb, 5, none⟩ = some (.slice A n c)) := Lib.hid (fun w' hf => by
    have h9 := HBX.out.fr hf (fun e => by rcases e with e | e; exact HGB.out.1 e; exact HGB.out.2 e)
    exact ⟨h9.cell 0, h9.cell 1, h9.cell 2, h9.cell 3, h9.cell 4, h9.cell 5⟩)
  have HFO : ∀ {w'}, Fr (fun _ => False) W w' → Fr (fun k => F k ∨ G k) W w' := fun h => h.mono (fun _ _ e => e.elim)
  have HFO := Lib.hid (fun w' => @HFO w')
  have HES0 := Lib.hid hes
  have HES := Lib.hid (hes.fr0 (hp.fr.trans HFW.out (fun _ _ h => h)))
  have HSM := Lib.hid hs
  have HMM := Lib.hid hM
  have D1 := Lib.hid (refLast HPW.out.rf)
  have D2 := Lib.hid (fun (y : Int) (y0 : -9223372036854775808 ≤ y) (y1 : y ≤ 9223372036854775807) w' (hf : Fr (fun _ => False) W w') => refTerm (HPW.out.rf.fr0 hf) y y0 y1)
  obtain ⟨li, hli⟩ : ∃ li, s.lastI = li := ⟨_, rfl⟩
  obtain ⟨lt, hlt⟩ : ∃ lt, s.lastT = lt := ⟨_, rfl⟩
  rw [hli, hlt] at D1
  obtain ⟨idx, hidx, y0, y1⟩ : ∃ idx, ((own = true ∧ IntKind.i64.wrap (li - x) = idx) ∨ (own = false ∧ x = idx)) ∧ -9223372036854775808 ≤ idx ∧ idx ≤ 9223372036854775807 := by
    cases own
    · exact ⟨x, .inr ⟨rfl, rfl⟩, x0, x1⟩
    · exact ⟨_, .inl ⟨rfl, rfl⟩, (wrap_range _).1, (wrap_range _).2⟩
  obtain ⟨ti, hti⟩ : ∃ ti, s.term idx = ti := ⟨_, rfl⟩
  obtain ⟨qi, hqi⟩ : ∃ qi, s.is idx = qi := ⟨_, rfl⟩
  obtain ⟨t2, ht2⟩ : ∃ t2, ((know && qi) = true ∧ ti = t2) ∨ ((know && qi) = false ∧ tm = t2) := by
    cases h : (know && qi)
    · exact ⟨tm, .inr ⟨rfl, rfl⟩⟩
    · exact ⟨ti, .inl ⟨rfl, rfl⟩⟩
  have D2' := Lib.hid (fun w' (hf : Fr (fun _ => False) W w') => D2.out idx y0 y1 w' hf)
  rw [hti, hqi] at D2'
  have HOP := Lib.hid hop
  clear hp hs hM hq hes D2 hli hlt hti hqi hop
  go_enter Try.func13, Try.ntmps13
  go_wp2_with fail
  clear hW hgb
  refine D1.out.mono ?_; rintro e w1 ⟨rfl, hf1⟩
  have HF1 := Lib.hid hf1
  have m1 := (HCL.out w1 (HFO.out _ HF1.out)).2.1
  have m2 := (HCL.out w1 (HFO.out _ HF1.out)).2.2.1
  clear hf1 D1
  go_upto_if 28 with fail
  go_cut [9] (fun s9 wc => s9 = .int .i64 idx ∧ w1 = wc)
  case first =>
    rcases hidx with ⟨e1, e2⟩ | ⟨e1, e2⟩
    · subst e1
      go_wp2_with fail
      go_meet
      exact ⟨by rw [← e2], rfl⟩
    · subst e1
      subst e2
      go_wp2_with fail
      go_meet
      exact ⟨rfl, rfl⟩
  case rest =>
  obtain ⟨rfl, rfl⟩ := hcut
  have m3 := (HCL.out w1 (HFO.out _ HF1.out)).2.2.2.1
  clear hidx m1 m2
  go_wp2_with fail
  refine (D2'.out _ HF1.out).mono ?_; rintro e w2 ⟨rfl, hf2⟩
  have HF2 := Lib.hid (HF1.out.trans hf2 (fun _ _ h => h))
  have m4 := (HCL.out w2 (HFO.out _ HF2.out)).2.2.2.2.1
  clear hf2 D2' m3
  go_upto_region 7 with fail
  go_cut [45] (fun s45 wc2 => s45 = .bool (know && qi) ∧ w2 = wc2)
  case first =>
    cases know
    · go_wp2_with fail
      go_meet
      exact ⟨rfl, rfl⟩
    · go_wp2_with fail
      go_meet
      exact ⟨rfl, rfl⟩
  case rest =>
  obtain ⟨rfl, rfl⟩ := hcut
  clear m4
  obtain ⟨kq, hkq⟩ : ∃ kq, (know && qi) = kq := ⟨_, rfl⟩
  rw [hkq] at ht2 ⊢
  clear hkq
  go_upto_if 45 with fail
  go_cut [10] (fun s10 wc3 => s10 = .int .i64 t2 ∧ w2 = wc3)
  case first =>
    rcases ht2 with ⟨e1, e2⟩ | ⟨e1, e2⟩
    · subst e1
      subst e2
      go_wp2_with fail
      go_meet
      exact ⟨rfl, rfl⟩
    · subst e1
      subst e2
      go_wp2_with fail
      go_meet
      exact ⟨rfl, rfl⟩
  case rest =>
  obtain ⟨rfl, rfl⟩ := hcut
  have m0 := (HCL.out w2 (HFO.out _ HF2.out)).1
  have HP2 := Lib.hid (HPW.out.fr0 HF2.out)
  clear ht2
  have g1 : (op == 1) = true := by rw [HOP.out]; rfl
  have HNN : Hid (n ≤ 1048576 ∧ n ≤ c ∧ (c : Int) ≤ 9223372036854775807) := Lib.hid ⟨hn1, hnc, hcm⟩
  have HPL : Hid ((ps.map EL.e).length = n) := Lib.hid (by rw [List.length_map, HES.out.len])
  have HESB : Hid (∀ w', Fr (fun _ => False) w0 w' → Es w' A n ps (fun k => k < w0.heap.size)) := Lib.hid (fun w' hf => HES0.out.fr0 hf)
  have HOK : Hid (s.add (ps.map EL.e)).ok := Lib.hid (by
    have h9 := HSM.out.add (ps.map EL.e)
    rw [HPL.out] at h9
    unfold Sm at h9
    have := HMM.out
    have := HNN.out.1
    exact ⟨by omega, by omega⟩)
  have hnI : (n : Int) ≤ 1048576 := by omega
  go_wp2_with fail
  go_loopw [13] (fun u wr => ∃ k : Nat, u = .int .i64 (k : Int) ∧ k ≤ n ∧ Fr (fun _ => False) w2 wr) (fun u _ => n - (intOf u).toNat)
  case atStart => exact ⟨0, rfl, Nat.zero_le _, Fr.refl _ _⟩
  case round =>
    obtain ⟨k, rfl, hk, hf⟩ := hrel
    have HFR := Lib.hid hf
    have HPR := Lib.hid (HP2.out.fr0 HFR.out)
    have m5 := (HCL.out wr (HFO.out _ (HF2.out.trans HFR.out (fun _ _ h => h)))).2.2.2.2.2
    have hk0 : (0 : Int) ≤ (k : Int) := by omega
    clear hf
    by_cases hlt : k < n
    · have hlt' : (k : Int) < n := by omega
      obtain ⟨b, off, hAe, e0, _, _⟩ := (HESB.out wr HPR.out.fr).at hlt
      subst hAe
      have HE1 := Lib.hid (fun (j : Nat) (hj : j < n) => ((HESB.out wr HPR.out.fr).at' hj).1)
      generalize (ps.getD k default).e.t = x9 at *
      by_cases t1 : x9 < lt
      · go_wp2_with fail
        go_quiet (fail)
        go_wp2
        go_ret
        exact ⟨rfl, _, _, _, HPR.out.fr0 ((Fr.refl _ _).drewN _), HSM.out.up (Nat.le_add_right _ _)⟩
      · have dt1 : decide (x9 < lt) = false := decide_eq_false t1
        by_cases t2' : x9 < 1
        · go_wp2_with fail
          go_quiet (fail)
          go_wp2
          go_ret
          exact ⟨rfl, _, _, _, HPR.out.fr0 ((Fr.refl _ _).drewN _), HSM.out.up (Nat.le_add_right _ _)⟩
        · have dt2 : decide (x9 < 1) = false := decide_eq_false t2'
          by_cases hk9 : k = 0
          · have dk : decide ((0 : Int) < (k : Int)) = false := decide_eq_false (by omega)
            have dk2 : ¬ ((0 : Int) < (k : Int)) := by omega
            have dk3 : decide (0 < k) = false := decide_eq_false (by omega)
            clear hk9
            go_wp2_with fail
            go_quiet (fail)
            go_wp2
            refine ⟨⟨k + 1, by simp, by omega, HFR.out.drewN _⟩, ?_⟩
            first | omega | (show _ < _; simp [intOf]; omega)
          · have dk : decide ((0 : Int) < (k : Int)) = true := decide_eq_true (by omega)
            have dk2 : (0 : Int) < (k : Int) := by omega
            have dk3 : decide (0 < k) = true := decide_eq_true (by omega)
            have e1 := HE1.out (k - 1) (by omega)
            obtain ⟨k1, hk1⟩ : ∃ k1, k - 1 = k1 := ⟨_, rfl⟩
            rw [hk1] at e1
            have ek : (k : Int) - 1 = (k1 : Int) := by omega
            have hk1n : (k1 : Int) < (n : Int) := by omega
            have hk10 : (0 : Int) ≤ (k1 : Int) := by omega
            generalize (ps.getD k1 default).e.t = x8 at *
            clear hk9 hk1
            by_cases t3 : x9 < x8
            · go_wp2_with fail
              go_quiet (fail)
              go_wp2
              go_ret
              exact ⟨rfl, _, _, _, HPR.out.fr0 ((Fr.refl _ _).drewN _), HSM.out.up (Nat.le_add_right _ _)⟩
            · have dt3 : decide (x9 < x8) = false := decide_eq_false t3
              go_wp2_with fail
              go_quiet (fail)
              go_wp2
              refine ⟨⟨k + 1, by simp, by omega, HFR.out.drewN _⟩, ?_⟩
              first | omega | (show _ < _; simp [intOf]; omega)
    · obtain rfl : k = n := by omega
      obtain ⟨w5, hw5⟩ : ∃ w5, wr = w5 := ⟨_, rfl⟩
      subst hw5
      have HP5 : Hid (PP w0 wr.drew g gr s s F G) := Lib.hid (HPR.out.fr0 ((Fr.refl _ _).drew))
      have HC5 : Hid (∀ w', Fr (fun k => F k ∨ G k) wr w' → w'.cell? ⟨gb, 5, none⟩ = some (.slice A k c)) := Lib.hid (fun w' hf => (HCL.out w' ((HFO.out _ (HF2.out.trans HFR.out (fun _ _ h => h))).trans hf (fun _ _ e => e))).2.2.2.2.2)
      have C1 := Lib.hid (lgAdd (c := c) HP5.out.lg (HESB.out _ HP5.out.fr) (fun k hk => Nat.lt_of_lt_of_le hk HP5.out.fr.size) (by have := HNN.out.1; omega) HOK.out)
      obtain ⟨z, hz⟩ : ∃ z, (s.add (ps.map EL.e)).lastI = z := ⟨_, rfl⟩
      have HZ := Lib.hid hz
      rw [hz] at C1
      clear hz
      have bl := beq_refl_i z
      have bl2 : (z != z) = false := by simp
      go_wp2_with fail
      refine wp_region_held_drew (S := fun w' => Fr (fun k => F k ∨ G k) wr w') (by kernel_rfl) (((Fr.refl _ _).drew)) (fun hHeld => ?_)
      refine wpAnyH_takeD (i := 0) (v := ?_) (some 95) rfl rfl (by kernel_rfl) (by kernel_rfl) (by kernel_rfl) (fun _ _ _ h => h) (Or.inl ⟨by rfl, ?_⟩) (by assumption) ?_
      rotate_left
      · intro w' hSw
        go_simp
        first | done | with_reducible rfl
      try simp only [Go.Act.put, List.setIfInBounds_toArray, List.set_cons_zero, List.set_cons_succ]
      refine wpAnyH_takeD (i := 1) (v := ?_) (some 96) rfl rfl (by kernel_rfl) (by kernel_rfl) (by kernel_rfl) (fun _ _ _ h => h) (Or.inl ⟨by rfl, ?_⟩) (by assumption) ?_
      rotate_left
      · intro w' hSw
        go_simp
        first | done | with_reducible rfl
      try simp only [Go.Act.put, List.setIfInBounds_toArray, List.set_cons_zero, List.set_cons_succ]
      refine wpAnyH_takeD (i := 2) (v := ?_) (some 97) rfl rfl (by kernel_rfl) (by kernel_rfl) (by kernel_rfl) (fun _ _ _ h => h) (Or.inl ⟨by rfl, ?_⟩) (by assumption) ?_
      rotate_left
      · intro w' hSw
        have q5 := HC5.out w' hSw
        go_simp
        first | done | with_reducible rfl
      try simp only [Go.Act.put, List.setIfInBounds_toArray, List.set_cons_zero, List.set_cons_succ]
      refine wpAnyH_takeD (i := 4) (v := ?_) (some 99) rfl rfl (by kernel_rfl) (by kernel_rfl) (by kernel_rfl) (fun _ _ _ h => h) (Or.inl ⟨by rfl, ?_⟩) (by assumption) ?_
      rotate_left
      · intro w' hSw
        go_simp
        first | done | with_reducible rfl
      try simp only [Go.Act.put, List.setIfInBounds_toArray, List.set_cons_zero, List.set_cons_succ]
      refine wpAnyH_takeD (i := 5) (v := ?_) (some 100) rfl rfl (by kernel_rfl) (by kernel_rfl) (by kernel_rfl) (fun _ _ _ h => h) (Or.inl ⟨by rfl, ?_⟩) (by assumption) ?_
      rotate_left
      · intro w' hSw
        go_simp
        first | done | with_reducible rfl
      try simp only [Go.Act.put, List.setIfInBounds_toArray, List.set_cons_zero, List.set_cons_succ]
      refine wpAnyH_takeD (i := 6) (v := ?_) (some 101) rfl rfl (by kernel_rfl) (by kernel_rfl) (by kernel_rfl) (fun _ _ _ h => h) (Or.inl ⟨by rfl, ?_⟩) (by assumption) ?_
      rotate_left
      · intro w' hSw
        have q5 := HC5.out w' hSw
        go_simp
        first | done | with_reducible rfl
      try simp only [Go.Act.put, List.setIfInBounds_toArray, List.set_cons_zero, List.set_cons_succ]
      refine wpAnyH_ready (rs := [3]) (by kernel_rfl) (by simp) ?_
      refine AllReadyH.cons rfl (fun K hK => ?_) AllReadyH.nil
      go_simp
      refine C1.out.mono ?_; rintro e v1 ⟨rfl, hto1⟩
      obtain ⟨F1, hp1, hfr1⟩ := HP5.out.stepP hto1
      have HP1 := Lib.hid hp1
      clear hto1 hp1
      refine hK.out _ _ (hHeld.trans hfr1 (fun _ _ e => .inl e)) (fun hHeld => ?_)
      clear hK K
      try change wpAnyH _ _ _ _ _ _ _ (Go.Act.put _ (some 98) _) _
      try simp only [Go.Act.put, List.setIfInBounds_toArray, List.set_cons_zero, List.set_cons_succ]
      clear hfr1
      refine wpAnyH_ready (rs := [7]) (by kernel_rfl) (by simp) ?_
      refine AllReadyH.cons rfl (fun K hK => ?_) AllReadyH.nil
      go_simp
      refine (of_any A k c ps _ v1 (HESB.out v1 HP1.out.fr) (by have := HNN.out.1; omega)).mono ?_; rintro e v2 ⟨A4, c4, rfl, hrw⟩
      have HRW := Lib.hid hrw
      have hfr2 := hrw.fr
      clear hrw
      refine hK.out _ _ (hHeld.trans hfr2 (fun _ _ h => h.elim)) (fun hHeld => ?_)
      clear hK K
      try change wpAnyH _ _ _ _ _ _ _ (Go.Act.put _ (some 102) _) _
      try simp only [Go.Act.put, List.setIfInBounds_toArray, List.set_cons_zero, List.set_cons_succ]
      clear hfr2
      refine wpAnyH_ready (rs := [8]) (by kernel_rfl) (by simp) ?_
      refine AllReadyH.cons rfl (fun K hK => ?_) AllReadyH.nil
      go_simp
      have C8 := refAdd (c := c4) (HP1.out.fr0 HRW.out.fr).rf (HRW.out.es2 (HESB.out v1 HP1.out.fr)) (by have := HNN.out.1; omega) HOK.out
      rw [HZ.out] at C8
      refine C8.mono ?_; rintro e v3 ⟨rfl, hto3⟩
      clear C8
      obtain ⟨G3, hp3, hfr3⟩ := (HP1.out.fr0 HRW.out.fr).stepR hto3
      have HP3 := Lib.hid hp3
      clear hto3 hp3
      refine hK.out _ _ (hHeld.trans hfr3 (fun _ _ e => .inr e)) (fun hHeld => ?_)
      clear hK K
      try change wpAnyH _ _ _ _ _ _ _ (Go.Act.put _ (some 103) _) _
      try simp only [Go.Act.put, List.setIfInBounds_toArray, List.set_cons_zero, List.set_cons_succ]
      clear hfr3
      refine wpAnyH_takeD (i := 9) (v := ?_) (some 104) rfl rfl (by kernel_rfl) (by kernel_rfl) (by kernel_rfl) (fun _ _ _ h => h) (Or.inl ⟨by rfl, ?_⟩) (by assumption) ?_
      rotate_left
      · intro w' hSw
        go_simp
        first | done | with_reducible rfl
      try simp only [Go.Act.put, List.setIfInBounds_toArray, List.set_cons_zero, List.set_cons_succ]
      refine wpAnyH_done (by kernel_rfl) ?_ _
      clear hHeld
      have HS9 : Hid (Sm _ (M + k)) := Lib.hid (by have h9 := HSM.out.add (ps.map EL.e); rw [HPL.out] at h9; exact h9)
      by_cases hbig : (1099511627776 : Int) < idx
      · go_wp2
        go_ret
        exact ⟨rfl, _, _, _, HP3.out, HS9.out⟩
      · have dbig : decide ((1099511627776 : Int) < idx) = false := decide_eq_false hbig
        have CLK := Lib.hid (looks_any HP3.out.lg HP3.out.rf idx t2 y0 (by omega) (by have h9 := HS9.out; unfold Sm at h9; have := HMM.out; omega))
        go_wp2_with fail
        refine CLK.out.mono ?_; rintro e w9 ⟨rfl, hf9⟩
        have HF9 := Lib.hid hf9
        clear hf9 CLK
        go_wp2
        go_ret
        exact ⟨rfl, _, _, _, HP3.out.fr0 HF9.out, HS9.out⟩


end Go.Proofs.Ytainkckcipdknaa
