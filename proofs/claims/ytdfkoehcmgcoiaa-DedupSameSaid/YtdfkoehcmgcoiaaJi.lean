/- dedup: keep. -/
import Derived.Test.YtdfkoehcmgcoiaaJh
namespace Go.Proofs.Ytdfkoehcmgcoiaa
open Go.RowKit Go.Maps

set_option maxRecDepth 100000 in
set_option maxHeartbeats 8000000 in
theorem keep_any {g ba br : Nat} {F FN : Nat → Prop} {t : DT} {Da Dr : DV} {w : World} (h : TabM w g ba br F t Da Dr) (ok : t.ok) {c s : Int} (hm : mayR c s = true) (hns : s ∉ t.row c) {A : Option Addr} {n cap : Nat} {a : List UInt8} (hn : a.length = n)
    (hA : Rd8 w A a) (hAb : ∀ ad, A = some ad → 0 < a.length → FN ad.block ∧ ∃ cs, Bk w ad.block 5 cs) (hFN : ∀ k, FN k → k < w.heap.size) :
    Calls Try.prog 19 #[.pointer (some ⟨g, 0, none⟩), kyV c s, .slice A n cap] w fun e w' => e = .returned (.tuple #[]) ∧ ∃ Da' Dr', TabM w' g ba br (fun k => F k ∨ FN k ∨ (w.heap.size ≤ k ∧ k < w'.heap.size)) (t.keep c s a) Da' Dr' ∧ Fr F w w' := by
  subst hn
  have hms := DT.mayR_iff.1 hm
  have hc : I64 c := I64.of (by omega) (by omega)
  have hs : I64 s := I64.of (by omega) (by omega)
  have hlen : (t.row c).length ≤ 4096 := by have := ok.len c; have := ok.w2; omega
  have hsa : Maps.size Da < 9223372036854775807 := by rw [h.sa]; have := ok.n_le; omega
  have hsr : Maps.size Dr < 9223372036854775807 := by rw [h.sr]; have := ok.cs_len; omega
  obtain ⟨v, hv1, hv2, hv3⟩ := h.lookR hc
  have hrv := (hv1 w (Fr.refl _ _)).2
  obtain ⟨g0, hg0⟩ : ∃ g0, w.heap.size = g0 := ⟨_, rfl⟩
  obtain ⟨W, hW⟩ : ∃ W, w.alloc (.cells #[.int .i64 c, .int .i64 s] 48) = W := ⟨_, rfl⟩
  have KW : Hid (Bk W g0 48 #[.int .i64 c, .int .i64 s]) := Lib.hid (by rw [← hW, ← hg0]; exact Bk.new _ _ _)
  have FW : Hid (Fr (fun _ => False) w W) := Lib.hid (by rw [← hW]; exact (Fr.refl _ _).alloc _)
  have HB := Lib.hid (h.blk.fr FW.out (fun h => h))
  -- behind the answers' map
  have HMA : Hid (∀ w', Fr (fun _ => False) W w' → ∃ w1, (Instr.mapUpdate 53 (.map (some ba)) (.agg #[.int .i64 c, .int .i64 s]) (.slice A a.length cap)).run Try.prog w' = .ok () w1 ∧ MV w1 48 ba (Da.put (ky c s) (.held (.slice A a.length cap))) ∧ Fr (fun x => x = ba) w' w1) := Lib.hid (fun w' hf =>
    (h.ma.fr (FW.out.trans hf (fun _ _ h => h)) (fun h => h)).update kKey tKey hsa (ky_of hc hs))
  have HRO : Hid (∀ w', Fr (fun k => k = ba) W w' → (Instr.lookup 54 (.map (some br)) (.int .i64 c) false).run Try.prog w' = .ok v w' ∧ RI w' v (t.row c)) := Lib.hid (fun w' hf => by
    have f : Fr (fun k => k = ba) w w' := (FW.out.mono (fun _ _ h => h.elim)).trans hf (fun _ _ h => h)
    have hmr := h.mr.fr f (fun e => h.ab e.symm)
    by_cases hr : t.row c = []
    · have := hv3 hr
      subst this
      refine ⟨(hmr.at0 kInt tRow (zeroRow w') hc.key (h.noRow c hc hr)).2, ?_⟩
      rw [hr]; exact Row.nil _ _ _
    · refine ⟨(hmr.at1 kInt tRow (zeroRow w') hc.key (hv2 hr).1).2, Row.fr hrv f (fun k hk e => hrv.block_ne h.ma (e ▸ hk))⟩)
  have HMR : Hid (∀ w' v', Fr (fun k => k = ba ∨ v.ownBlock = some k) W w' → ∃ w1, (Instr.mapUpdate 54 (.map (some br)) (.int .i64 c) v').run Try.prog w' = .ok () w1 ∧ MV w1 3 br (Dr.put (.int .i64 c) (.held v')) ∧ Fr (fun x => x = br) w' w1) := Lib.hid (fun w' v' hf =>
    (h.mr.fr ((FW.out.mono (T := fun k => k = ba ∨ v.ownBlock = some k) (fun _ _ h => h.elim)).trans hf (fun _ _ h => h)) (by
      rintro (e | e)
      · exact h.ab e.symm
      · exact hrv.block_ne h.mr e)).update kInt tRow hsr hc.key)
  have HX : Hid (g0 ≠ ba ∧ g ≠ ba ∧ v.ownBlock ≠ some g0 ∧ v.ownBlock ≠ some g) := Lib.hid ⟨by have := h.ma.lt; omega, h.ma.ne h.blk, fun e => by have := Row.lt hrv e; omega, Row.ne hrv h.blk (by decide)⟩
  have HEND := Lib.hid (fun w1 w2 w3 v' hma f1 hri f2 hmv hmr f3 => TabM.kept (w1 := w1) (w2 := w2) (w3 := w3) (v' := v') (cap := cap) h ok.took0 hc hs hns ⟨hv2, hv3⟩ hrv hma f1 hri f2 hmv hmr f3 hA hAb hFN)
  have HSZ := Lib.hid (fun e : v.ownBlock = some W.heap.size => (show False by have := Row.lt hrv e; have := FW.out.size; omega))
  have HRS := Lib.hid (ok.rise c)
  generalize t.row c = r at *
  have HLEN := Lib.hid hlen
  clear h ok hm hns hA hAb hFN hms hc hs hlen hsa hsr hv1 hv2 hv3 hrv
  unfold kyV
  go_enter Try.func19, Try.ntmps19
  go_wp2_with fail
  clear hW
  have HG0 := Lib.hid hg0
  clear hg0
  refine wp_region_Z [6] (fun w' => Fr (fun _ => False) W w') (by kernel_rfl) ((Fr.refl _ _).drew) (fun hHeld => ?_)
  refine anyZ_pure (i := 0) (v := ?_) (some 9) rfl rfl (by kernel_rfl) (by kernel_rfl) (by kernel_rfl) (by kernel_rfl) (fun _ _ _ h => h) (Or.inl ⟨by rfl, ?_⟩) (fun _ => hHeld) ?_
  rotate_left
  · intro w' _
    go_simp
    first | done | with_reducible rfl
  try simp only [Act.put, List.setIfInBounds_toArray, List.set_cons_zero, List.set_cons_succ]
  refine anyZ_pure (i := 1) (v := ?_) (some 10) rfl rfl (by kernel_rfl) (by kernel_rfl) (by kernel_rfl) (by kernel_rfl) (fun _ _ _ h => h) (Or.inl ⟨by rfl, ?_⟩) (fun _ => hHeld) ?_
  rotate_left
  · intro w' _
    go_simp
    first | done | with_reducible rfl
  try simp only [Act.put, List.setIfInBounds_toArray, List.set_cons_zero, List.set_cons_succ]
  refine anyZ_pure (i := 2) (v := ?_) (some 11) rfl rfl (by kernel_rfl) (by kernel_rfl) (by kernel_rfl) (by kernel_rfl) (fun _ _ _ h => h) (Or.inl ⟨by rfl, ?_⟩) (fun _ => hHeld) ?_
  rotate_left
  · intro w' _
    go_simp
    first | done | with_reducible rfl
  try simp only [Act.put, List.setIfInBounds_toArray, List.set_cons_zero, List.set_cons_succ]
  refine anyZ_read (i := 3) (v := ?_) (some 12) [6] rfl rfl (by kernel_rfl) (by kernel_rfl) (by kernel_rfl) (by kernel_rfl) (by kernel_rfl) (by kernel_rfl) (fun _ _ _ h => h) (Or.inl ⟨by rfl, ?_⟩) hHeld ?_
  rotate_left
  · intro w' hSw
    have q0 := (KW.out.fr hSw (fun h => h)).cell 0; have q1 := (KW.out.fr hSw (fun h => h)).cell 1; have q2 := (HB.out.fr hSw (fun h => h)).cell 1
    go_simp
    first | done | with_reducible rfl
  try simp only [Act.put, List.setIfInBounds_toArray, List.set_cons_zero, List.set_cons_succ]
  refine anyZ_read (i := 4) (v := ?_) (some 13) [6] rfl rfl (by kernel_rfl) (by kernel_rfl) (by kernel_rfl) (by kernel_rfl) (by kernel_rfl) (by kernel_rfl) (fun _ _ _ h => h) (Or.inl ⟨by rfl, ?_⟩) hHeld ?_
  rotate_left
  · intro w' hSw
    have q0 := (KW.out.fr hSw (fun h => h)).cell 0; have q1 := (KW.out.fr hSw (fun h => h)).cell 1; have q2 := (HB.out.fr hSw (fun h => h)).cell 1
    go_simp
    first | done | with_reducible rfl
  try simp only [Act.put, List.setIfInBounds_toArray, List.set_cons_zero, List.set_cons_succ]
  refine anyZ_pure (i := 5) (v := ?_) (some 14) rfl rfl (by kernel_rfl) (by kernel_rfl) (by kernel_rfl) (by kernel_rfl) (fun _ _ _ h => h) (Or.inl ⟨by rfl, ?_⟩) (fun _ => hHeld) ?_
  rotate_left
  · intro w' _
    go_simp
    first | done | with_reducible rfl
  try simp only [Act.put, List.setIfInBounds_toArray, List.set_cons_zero, List.set_cons_succ]
  refine anyZ_ready (rs := [6]) (by kernel_rfl) (by simp) ?_
  refine AllZ.last rfl (by kernel_rfl) (fun K hK => ?_) AllZ.nil
  obtain ⟨w1, hrun, hm1, hf1⟩ := HMA.out _ hHeld
  go_simp
  have HM1 := Lib.hid hm1
  have HF1 := Lib.hid (hHeld.mono (T := fun k => k = ba) (fun _ _ h => h.elim) |>.trans hf1 (fun _ _ h => h))
  clear hm1 hf1 hrun hHeld
  refine hK.out _ _ ?_
  clear hK K
  try change anyZ _ _ _ _ _ _ _ _ (Act.put _ none _) _
  try simp only [Act.put, List.setIfInBounds_toArray, List.set_cons_zero, List.set_cons_succ]
  refine anyZ_done (by kernel_rfl) ?_ _
  have q2 : w1.cell? ⟨g, 2, none⟩ = some (.map (some br)) := (HB.out.fr HF1.out HX.out.2.1).cell 2
  have q0 : w1.cell? ⟨g0, 0, none⟩ = some (.int .i64 c) := (KW.out.fr HF1.out HX.out.1).cell 0
  have hlk := fun n => (HRO.out (w1.drewN n) (HF1.out.drewN n)).1
  go_wp2_with fail
  go_quiet (fail)
  clear hlk q2 q0
  have f2 := HF1.out.drewN nq
  have hri := (HRO.out _ f2).2
  have q1 : (w1.drewN nq).cell? ⟨g0, 1, none⟩ = some (.int .i64 s) := (KW.out.fr f2 HX.out.1).cell 1
  have CS := Lib.hid (search_any s hri HRS.out (by have := HLEN.out; omega))
  clear f2 hri
  go_wp2_with fail
  clear q1
  refine CS.out.mono ?_; rintro e w2 ⟨rfl, hf2⟩
  clear CS
  have HF2 := Lib.hid ((HF1.out.drewN nq).trans (hf2.mono (T := fun k => k = ba) (fun _ _ h => h.elim)) (fun _ _ h => h))
  have HF12 := Lib.hid ((Fr.refl (fun _ => False) w1).drewN nq |>.trans hf2 (fun _ _ h => h))
  have HRI := Lib.hid (HRO.out _ HF2.out).2
  have k2 := KW.out.fr HF2.out HX.out.1
  have b2 := HB.out.fr HF2.out HX.out.2.1
  have KK := Lib.hid k2
  have BB := Lib.hid b2
  clear hf2 k2 b2
  obtain ⟨ps, hps⟩ : ∃ ps, posR r s = ps := ⟨_, rfl⟩
  have HPS := Lib.hid hps
  rw [hps]
  clear hps
  go_wp2_with fail
  refine wp_region_Z [12] (fun w' => Fr (fun k => v.ownBlock = some k) w2 w') (by kernel_rfl) ((Fr.refl _ _).drew) (fun hHeld => ?_)
  refine anyZ_pure (i := 0) (v := ?_) (some 29) rfl rfl (by kernel_rfl) (by kernel_rfl) (by kernel_rfl) (by kernel_rfl) (fun _ _ _ h => h) (Or.inl ⟨by rfl, ?_⟩) (fun _ => hHeld) ?_
  rotate_left
  · intro w' _
    go_simp
    first | done | with_reducible rfl
  try simp only [Act.put, List.setIfInBounds_toArray, List.set_cons_zero, List.set_cons_succ]
  refine anyZ_pure (i := 1) (v := ?_) (some 30) rfl rfl (by kernel_rfl) (by kernel_rfl) (by kernel_rfl) (by kernel_rfl) (fun _ _ _ h => h) (Or.inl ⟨by rfl, ?_⟩) (fun _ => hHeld) ?_
  rotate_left
  · intro w' _
    go_simp
    first | done | with_reducible rfl
  try simp only [Act.put, List.setIfInBounds_toArray, List.set_cons_zero, List.set_cons_succ]
  refine anyZ_pure (i := 2) (v := ?_) (some 31) rfl rfl (by kernel_rfl) (by kernel_rfl) (by kernel_rfl) (by kernel_rfl) (fun _ _ _ h => h) (Or.inl ⟨by rfl, ?_⟩) (fun _ => hHeld) ?_
  rotate_left
  · intro w' _
    go_simp
    first | done | with_reducible rfl
  try simp only [Act.put, List.setIfInBounds_toArray, List.set_cons_zero, List.set_cons_succ]
  refine anyZ_read (i := 3) (v := ?_) (some 32) [12] rfl rfl (by kernel_rfl) (by kernel_rfl) (by kernel_rfl) (by kernel_rfl) (by kernel_rfl) (by kernel_rfl) (fun _ _ _ h => h) (Or.inl ⟨by rfl, ?_⟩) hHeld ?_
  rotate_left
  · intro w' hSw
    have q0 := (KK.out.fr hSw HX.out.2.2.1).cell 0; have q1 := (KK.out.fr hSw HX.out.2.2.1).cell 1; have q2 := (BB.out.fr hSw HX.out.2.2.2).cell 2
    go_simp
    first | done | with_reducible rfl
  try simp only [Act.put, List.setIfInBounds_toArray, List.set_cons_zero, List.set_cons_succ]
  refine anyZ_pure (i := 4) (v := ?_) (some 33) rfl rfl (by kernel_rfl) (by kernel_rfl) (by kernel_rfl) (by kernel_rfl) (fun _ _ _ h => h) (Or.inl ⟨by rfl, ?_⟩) (fun _ => hHeld) ?_
  rotate_left
  · intro w' _
    go_simp
    first | done | with_reducible rfl
  try simp only [Act.put, List.setIfInBounds_toArray, List.set_cons_zero, List.set_cons_succ]
  refine anyZ_read (i := 5) (v := ?_) (some 34) [12] rfl rfl (by kernel_rfl) (by kernel_rfl) (by kernel_rfl) (by kernel_rfl) (by kernel_rfl) (by kernel_rfl) (fun _ _ _ h => h) (Or.inl ⟨by rfl, ?_⟩) hHeld ?_
  rotate_left
  · intro w' hSw
    have q0 := (KK.out.fr hSw HX.out.2.2.1).cell 0; have q1 := (KK.out.fr hSw HX.out.2.2.1).cell 1; have q2 := (BB.out.fr hSw HX.out.2.2.2).cell 2
    go_simp
    first | done | with_reducible rfl
  try simp only [Act.put, List.setIfInBounds_toArray, List.set_cons_zero, List.set_cons_succ]
  refine anyZ_pure (i := 6) (v := ?_) (some 35) rfl rfl (by kernel_rfl) (by kernel_rfl) (by kernel_rfl) (by kernel_rfl) (fun _ _ _ h => h) (Or.inl ⟨by rfl, ?_⟩) (fun _ => hHeld) ?_
  rotate_left
  · intro w' _
    go_simp
    first | done | with_reducible rfl
  try simp only [Act.put, List.setIfInBounds_toArray, List.set_cons_zero, List.set_cons_succ]
  refine anyZ_pure (i := 7) (v := ?_) (some 36) rfl rfl (by kernel_rfl) (by kernel_rfl) (by kernel_rfl) (by kernel_rfl) (fun _ _ _ h => h) (Or.inl ⟨by rfl, ?_⟩) (fun _ => hHeld) ?_
  rotate_left
  · intro w' _
    go_simp
    first | done | with_reducible rfl
  try simp only [Act.put, List.setIfInBounds_toArray, List.set_cons_zero, List.set_cons_succ]
  refine anyZ_pure (i := 8) (v := ?_) (some 37) rfl rfl (by kernel_rfl) (by kernel_rfl) (by kernel_rfl) (by kernel_rfl) (fun _ _ _ h => h) (Or.inl ⟨by rfl, ?_⟩) (fun _ => hHeld) ?_
  rotate_left
  · intro w' _
    go_simp
    first | done | with_reducible rfl
  try simp only [Act.put, List.setIfInBounds_toArray, List.set_cons_zero, List.set_cons_succ]
  refine anyZ_read (i := 9) (v := ?_) (some 38) [10, 11, 12] rfl rfl (by kernel_rfl) (by kernel_rfl) (by kernel_rfl) (by kernel_rfl) (by kernel_rfl) (by kernel_rfl) (fun _ _ _ h => h) (Or.inl ⟨by rfl, ?_⟩) hHeld ?_
  rotate_left
  · intro w' hSw
    have q0 := (KK.out.fr hSw HX.out.2.2.1).cell 0; have q1 := (KK.out.fr hSw HX.out.2.2.1).cell 1; have q2 := (BB.out.fr hSw HX.out.2.2.2).cell 2
    go_simp
    first | done | with_reducible rfl
  try simp only [Act.put, List.setIfInBounds_toArray, List.set_cons_zero, List.set_cons_succ]
  refine anyZ_ready (rs := [10]) (by kernel_rfl) (by simp) ?_
  refine AllZ.step rfl (fun K hK => ?_) AllZ.nil
  go_simp
  refine hK.out _ _ (hHeld.alloc _) (fun hHeld => ?_)
  clear hK K
  try change anyZ _ _ _ _ _ _ _ _ (Act.put _ (some 39) _) _
  try simp only [Act.put, List.setIfInBounds_toArray, List.set_cons_zero, List.set_cons_succ]
  refine anyZ_ready (rs := [11]) (by kernel_rfl) (by simp) ?_
  refine AllZ.step rfl (fun K hK => ?_) AllZ.nil
  go_simp
  have CI := insert_any (w := (w2.alloc (.cells #[.int .i64 s] 3)).drew) (vb := w2.heap.size) (s := s) (r := r) (Row.fr0 HRI.out ((Fr.refl _ _).alloc _).drew) (Bk.new _ _ _).drew (fun e => by have := Row.lt HRI.out e; omega) (by have := HLEN.out; omega)
  rw [HPS.out] at CI
  refine CI.mono ?_; rintro e w3 ⟨v', rfl, hri3, hf3, hmv3⟩
  clear CI
  have HRI3 := Lib.hid hri3
  have HF3 := Lib.hid (((Fr.refl (fun _ => False) w2).alloc (.cells #[.int .i64 s] 3)).drew.mono (T := fun k => v.ownBlock = some k) (fun _ _ h => h.elim) |>.trans hf3 (fun _ _ h => h))
  have HMV3 := Lib.hid hmv3
  clear hri3 hf3 hmv3
  try go_simp
  refine hK.out _ _ (HF3.out) (fun hHeld => ?_)
  clear hK K
  try change anyZ _ _ _ _ _ _ _ _ (Act.put _ (some 40) _) _
  try simp only [Act.put, List.setIfInBounds_toArray, List.set_cons_zero, List.set_cons_succ]
  refine anyZ_ready (rs := [12]) (by kernel_rfl) (by simp) ?_
  refine AllZ.last rfl (by kernel_rfl) (fun K hK => ?_) AllZ.nil
  obtain ⟨w4, hrun, hm4, hf4⟩ := HMR.out w3 v' ((HF2.out.mono (T := fun k => k = ba ∨ v.ownBlock = some k) (fun _ _ e => .inl e)).trans HF3.out (fun _ _ e => .inr e))
  go_simp
  have HM4 := Lib.hid hm4
  have HF4 := Lib.hid hf4
  clear hm4 hf4 hrun
  refine hK.out _ _ ?_
  clear hK K
  try change anyZ _ _ _ _ _ _ _ _ (Act.put _ none _) _
  try simp only [Act.put, List.setIfInBounds_toArray, List.set_cons_zero, List.set_cons_succ]
  refine anyZ_done (by kernel_rfl) ?_ _
  go_wp2
  have f12 := (HF12.out.mono (T := fun k => v.ownBlock = some k) (fun _ _ h => h.elim)).trans HF3.out (fun _ _ h => h)
  have f1 : Fr (fun k => k = ba) w w1 := (FW.out.mono (fun _ _ h => h.elim)).trans HF1.out (fun _ _ h => h)
  have hmv : Moved w v v' := HMV3.out.imp id (fun ⟨x, e, hx⟩ => ⟨x, e, by have h1 := f1.size; have h2 := HF12.out.size; have hs2 : ((w2.alloc (.cells #[.int .i64 s] 3)).drew).heap.size = w2.heap.size + 1 := by { show (w2.alloc _).heap.size = _; simp }; omega⟩)
  obtain ⟨e1, e2⟩ := HEND.out w1 w3 w4 v' HM1.out f1 HRI3.out f12 hmv HM4.out HF4.out
  refine bodyPost_end (results_none rfl _ _ _) rfl ⟨rfl, _, _, e1, e2⟩
end Go.Proofs.Ytdfkoehcmgcoiaa
