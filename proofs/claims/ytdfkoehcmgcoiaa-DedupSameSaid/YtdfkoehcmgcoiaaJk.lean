/- dedup: forget. -/
import Derived.Test.YtdfkoehcmgcoiaaJj
namespace Go.Proofs.Ytdfkoehcmgcoiaa
open Go.RowKit Go.Maps

theorem intOf_nat (n : Nat) : (intOf (.int .i64 (n : Int))).toNat = n := by simp [intOf]
set_option maxRecDepth 100000 in
set_option maxHeartbeats 8000000 in
theorem forget_any {g ba br : Nat} {F : Nat → Prop} {t : DT} {Da Dr : DV} {w : World} (h : TabM w g ba br F t Da Dr) (ok : t.ok0) {c : Int} (hc : I64 c) (hlen : (t.row c).length ≤ 4097) (h0 : t.row c ≠ []) :
    Calls Try.prog 21 #[.pointer (some ⟨g, 0, none⟩), .int .i64 c] w fun e w' => e = .returned (.tuple #[]) ∧ ∃ Da' Dr', TabM w' g ba br F (t.forget c) Da' Dr' ∧ Fr F w w' := by
  obtain ⟨k, hk⟩ : ∃ k, posR (t.row c) (t.least c) = k := ⟨_, rfl⟩
  have hkl : k < (t.row c).length := by
    have h1 := posR_le (t.row c) (t.least c)
    rcases Nat.lt_or_ge k (t.row c).length with h2 | h2
    · exact h2
    · exfalso
      have h3 : (t.row c).drop k = [] := List.drop_eq_nil_of_le h2
      have h4 := (mem_cut (ok.rise c) (t.least c) (topR (t.row c))).2 ⟨topR_mem h0, by have := ok.w1; unfold DT.least DT.top; omega⟩
      unfold cutR at h4
      rw [hk, h3] at h4
      simp at h4
  have hsr : Maps.size Dr < 9223372036854775807 := by rw [h.sr]; have := ok.cs_len; omega
  obtain ⟨v, hv, hrv, hvF⟩ := h.row c hc h0
  have HB := Lib.hid h.blk
  have HI : Hid (∀ y ∈ t.row c, I64 y) := Lib.hid (fun y hy => by have := ok.rng c y hy; exact I64.of (by omega) (by omega))
  have HLK := Lib.hid (fun (w' : World) (hf : Fr (fun _ => False) w w') => ((h.mr.fr hf (fun h => h)).at1 kInt tRow (zeroRow w') hc.key hv).2)
  have CL := Lib.hid (least_any h ok hc (by omega))
  have CS := Lib.hid (fun (w' : World) (hf : Fr (fun _ => False) w w') => search_any (t.least c) (Row.fr0 hrv hf) (ok.rise c) (by omega))
  have HMA : Hid (MV w 48 ba Da) := Lib.hid h.ma
  have HMR : Hid (∀ w' v', Fr (fun k => k = ba ∨ v.ownBlock = some k) w w' → ∃ w1, (Instr.mapUpdate 54 (.map (some br)) (.int .i64 c) v').run Try.prog w' = .ok () w1 ∧ MV w1 3 br (Dr.put (.int .i64 c) (.held v')) ∧ Fr (fun x => x = br) w' w1) := Lib.hid (fun w' v' hf =>
    (h.mr.fr hf (by
      rintro (e | e)
      · exact h.ab e.symm
      · exact hrv.block_ne h.mr e)).update kInt tRow hsr hc.key)
  have HX : Hid (g ≠ ba ∧ v.ownBlock ≠ some ba ∧ v.ownBlock ≠ some g) := Lib.hid ⟨h.ma.ne h.blk, hrv.block_ne h.ma, Row.ne hrv h.blk (by decide)⟩
  have HEND := Lib.hid (fun w1 w2 w3 v' hma f1 hri f2 hmv hmr f3 => TabM.fronted (w1 := w1) (w2 := w2) (w3 := w3) (v' := v') h ok hc hkl hv hvF hrv hma f1 hri f2 hmv hmr f3)
  rw [DT.forget_eq, hk]
  have HC := Lib.hid hc
  have HRV := Lib.hid hrv
  have HRN : Hid (t.row c ≠ []) := Lib.hid h0
  rw [hk] at CS
  generalize t.row c = r at *
  generalize t.least c = lst at *
  clear h ok hlen h0 hsr hv hvF hc hk
  rcases hrv.cases with ⟨rfl, e0⟩ | ⟨b, off, cap, cur, rfl, hb, hc1, hc2, hc3, hc4⟩
  · rw [e0] at hkl; simp at hkl
  obtain ⟨n, hn⟩ : ∃ n, r.length = n := ⟨_, rfl⟩
  have HCUR : Hid (∀ j (h : j < r.length), cur[off + j]? = some (IV r[j])) := Lib.hid hc4
  have HBB := Lib.hid hb
  clear hrv hc3 hc4 hb
  have HN := Lib.hid hn
  have HKL := Lib.hid hkl
  have HBA : Hid (b ≠ ba) := Lib.hid (fun e => HX.out.2.1 (by rw [← e]; rfl))
  rw [hn] at hkl hc1 HLK CS HRV HX HMR HEND
  have hkc : (k : Int) ≤ (cap : Int) := by omega
  have hk0 : (0 : Int) ≤ (k : Int) := by omega
  have q2 : w.cell? ⟨g, 2, none⟩ = some (.map (some br)) := HB.out.cell 2
  have hlk := HLK.out w (Fr.refl _ _)
  clear hkl hn
  go_enter Try.func21, Try.ntmps21
  go_wp2_with fail
  clear hlk q2
  refine CL.out.mono ?_; rintro e w0 ⟨rfl, m, hw0⟩
  have HF0 : Hid (Fr (fun _ => False) w w0) := Lib.hid (by rw [hw0]; exact (Fr.refl _ _).drewN _)
  clear hw0 CL
  go_wp2_with fail
  refine (CS.out _ HF0.out).mono ?_; rintro e w1 ⟨rfl, hf1⟩
  have HF1 := Lib.hid (HF0.out.trans hf1 (fun _ _ h => h))
  clear hf1 CS HF0
  go_wp2_with fail
  go_loopw [27] (fun i wr => ∃ j : Nat, j ≤ k ∧ i = .int .i64 j ∧ Hid (MV wr 48 ba (delN Da c (r.take j)) ∧ Fr (fun x => x = ba) w wr)) (fun i _ => k - (intOf i).toNat)
  case atStart => exact ⟨0, by omega, rfl, ⟨by simpa [delN] using HMA.out.fr HF1.out (fun h => h), HF1.out.mono (fun _ _ h => h.elim)⟩⟩
  case round =>
    obtain ⟨j, hj, rfl, hq⟩ := hrel
    by_cases hlt : j < k
    · have hjr : j < r.length := by have := HKL.out; omega
      obtain ⟨x, hx⟩ : ∃ x, r[j] = x := ⟨_, rfl⟩
      have HS : Hid (I64 x) := Lib.hid (HI.out x (by rw [← hx]; exact List.getElem_mem _))
      have HD : Hid (delN Da c (r.take (j + 1)) = (delN Da c (r.take j)).del (ky c x)) := Lib.hid (by rw [← delN_snoc, List.take_add_one, List.getElem?_eq_getElem hjr, hx]; rfl)
      have hcell : wr.cell? ⟨b, off + j, none⟩ = some (.int .i64 x) := by
        have := (HBB.out.fr hq.out.2 HBA.out).cell (off + j)
        rw [HCUR.out j hjr, hx] at this
        exact this
      have q1 : wr.cell? ⟨g, 1, none⟩ = some (.map (some ba)) := (HB.out.fr hq.out.2 HX.out.1).cell 1
      have hj0 : (0 : Int) ≤ (j : Int) := by omega
      have hj1 : (j : Int) < (k : Int) := by omega
      clear hjr hx
      go_wp2_with (at_delete; refine wpList_delete_own _ rfl _ _ 53 48 rfl 30 kKey tKey HV ba _ _ rfl hq.out.1 _ _ rfl (ky_of HC.out HS.out) ?_; intro w2 hown2 hturn2)
      have hf2 := Fr.of_turned hturn2
      have HQ2 : Hid (MV w2 48 ba (delN Da c (r.take (j + 1))) ∧ Fr (fun x => x = ba) w w2) := Lib.hid ⟨by rw [HD.out]; exact MV.of hown2, hq.out.2.trans hf2 (fun _ _ h => h)⟩
      clear hown2 hturn2 hf2 hcell q1
      go_wp2
      go_roundw
      case rel => exact ⟨j + 1, by omega, by go_num, HQ2⟩
      case measure => simp [intOf]; omega
    · obtain rfl : j = k := by omega
      have HQ := hq
      clear hq hlt hj
      go_wp2_with fail
      refine wp_region_Z [8] (fun w' => Fr (fun k => (Value.slice (some ⟨b, off, none⟩) n cap).ownBlock = some k) wr w') (by kernel_rfl) ((Fr.refl _ _).drew) (fun hHeld => ?_)
      refine anyZ_pure (i := 0) (v := ?_) (some 39) rfl rfl (by kernel_rfl) (by kernel_rfl) (by kernel_rfl) (by kernel_rfl) (fun _ _ _ h => h) (Or.inl ⟨by rfl, ?_⟩) (fun _ => hHeld) ?_
      rotate_left
      · intro w' _
        go_simp
        first | done | with_reducible rfl
      try simp only [Act.put, List.setIfInBounds_toArray, List.set_cons_zero, List.set_cons_succ]
      refine anyZ_pure (i := 1) (v := ?_) (some 40) rfl rfl (by kernel_rfl) (by kernel_rfl) (by kernel_rfl) (by kernel_rfl) (fun _ _ _ h => h) (Or.inl ⟨by rfl, ?_⟩) (fun _ => hHeld) ?_
      rotate_left
      · intro w' _
        go_simp
        first | done | with_reducible rfl
      try simp only [Act.put, List.setIfInBounds_toArray, List.set_cons_zero, List.set_cons_succ]
      refine anyZ_pure (i := 2) (v := ?_) (some 41) rfl rfl (by kernel_rfl) (by kernel_rfl) (by kernel_rfl) (by kernel_rfl) (fun _ _ _ h => h) (Or.inl ⟨by rfl, ?_⟩) (fun _ => hHeld) ?_
      rotate_left
      · intro w' _
        go_simp
        first | done | with_reducible rfl
      try simp only [Act.put, List.setIfInBounds_toArray, List.set_cons_zero, List.set_cons_succ]
      refine anyZ_read (i := 3) (v := ?_) (some 42) [8] rfl rfl (by kernel_rfl) (by kernel_rfl) (by kernel_rfl) (by kernel_rfl) (by kernel_rfl) (by kernel_rfl) (fun _ _ _ h => h) (Or.inl ⟨by rfl, ?_⟩) hHeld ?_
      rotate_left
      · intro w' hSw
        have q0 := (HB.out.fr HQ.out.2 HX.out.1 |>.fr hSw HX.out.2.2).cell 2
        go_simp
        first | done | with_reducible rfl
      try simp only [Act.put, List.setIfInBounds_toArray, List.set_cons_zero, List.set_cons_succ]
      refine anyZ_pure (i := 4) (v := ?_) (some 43) rfl rfl (by kernel_rfl) (by kernel_rfl) (by kernel_rfl) (by kernel_rfl) (fun _ _ _ h => h) (Or.inl ⟨by rfl, ?_⟩) (fun _ => hHeld) ?_
      rotate_left
      · intro w' _
        go_simp
        first | done | with_reducible rfl
      try simp only [Act.put, List.setIfInBounds_toArray, List.set_cons_zero, List.set_cons_succ]
      refine anyZ_pure (i := 5) (v := ?_) (some 44) rfl rfl (by kernel_rfl) (by kernel_rfl) (by kernel_rfl) (by kernel_rfl) (fun _ _ _ h => h) (Or.inl ⟨by rfl, ?_⟩) (fun _ => hHeld) ?_
      rotate_left
      · intro w' _
        go_simp
        first | done | with_reducible rfl
      try simp only [Act.put, List.setIfInBounds_toArray, List.set_cons_zero, List.set_cons_succ]
      refine anyZ_pure (i := 6) (v := ?_) (some 45) rfl rfl (by kernel_rfl) (by kernel_rfl) (by kernel_rfl) (by kernel_rfl) (fun _ _ _ h => h) (Or.inl ⟨by rfl, ?_⟩) (fun _ => hHeld) ?_
      rotate_left
      · intro w' _
        go_simp
        first | done | with_reducible rfl
      try simp only [Act.put, List.setIfInBounds_toArray, List.set_cons_zero, List.set_cons_succ]
      refine anyZ_ready (rs := [7]) (by kernel_rfl) (by simp) ?_
      refine AllZ.step rfl (fun K hK => ?_) AllZ.nil
      go_simp
      have CD := delete_any (w := wr.drew) (Row.fr (S := fun x => x = ba) HRV.out (HQ.out.2.drew) (fun k hk e => HX.out.2.1 (e ▸ hk))) (Nat.le_of_lt HKL.out) HRN.out
      refine CD.mono ?_; rintro e w3 ⟨v', rfl, hri3, hf3, hmv3⟩
      clear CD
      have HRI3 := Lib.hid hri3
      have HF3 := Lib.hid (((Fr.refl (fun _ => False) wr).drew.mono (T := fun k => (Value.slice (some ⟨b, off, none⟩) n cap).ownBlock = some k) (fun _ _ h => h.elim)).trans hf3 (fun _ _ h => h))
      have HMV3 := Lib.hid hmv3
      clear hri3 hf3 hmv3
      try go_simp
      refine hK.out _ _ (HF3.out) (fun hHeld => ?_)
      clear hK K
      try change anyZ _ _ _ _ _ _ _ _ (Act.put _ (some 46) _) _
      try simp only [Act.put, List.setIfInBounds_toArray, List.set_cons_zero, List.set_cons_succ]
      refine anyZ_ready (rs := [8]) (by kernel_rfl) (by simp) ?_
      refine AllZ.last rfl (by kernel_rfl) (fun K hK => ?_) AllZ.nil
      obtain ⟨w4, hrun, hm4, hf4⟩ := HMR.out w3 v' ((HQ.out.2.mono (T := fun k => k = ba ∨ (Value.slice (some ⟨b, off, none⟩) n cap).ownBlock = some k) (fun _ _ e => .inl e)).trans HF3.out (fun _ _ e => .inr e))
      go_simp
      have HM4 := Lib.hid hm4
      have HF4 := Lib.hid hf4
      clear hm4 hf4 hrun
      refine hK.out _ _ ?_
      clear hK K
      try change anyZ _ _ _ _ _ _ _ _ (Act.put _ none _) _
      try simp only [Act.put, List.setIfInBounds_toArray, List.set_cons_zero, List.set_cons_succ]
      refine anyZ_done (by kernel_rfl) ?_ _
      go_wp2
      obtain ⟨e1, e2⟩ := HEND.out wr w3 w4 v' HQ.out.1 HQ.out.2 HRI3.out HF3.out HMV3.out HM4.out HF4.out
      refine bodyPost_end (results_none rfl _ _ _) rfl ⟨rfl, _, _, e1, e2⟩
end Go.Proofs.Ytdfkoehcmgcoiaa
