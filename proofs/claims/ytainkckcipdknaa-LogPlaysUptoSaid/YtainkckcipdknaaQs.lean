/- The reference's Compact, Restore. -/
import Derived.Test.YtainkckcipdknaaQr
namespace Go.Proofs.Ytainkckcipdknaa
open Go.RowKit

/-- What a row of entries is from k on. -/
theorem run_fromR (b off n c k : Nat) (hk : k ≤ n) (hnc : n ≤ c) (hcm : (c : Int) ≤ 9223372036854775807) :
    ∃ A' c', (∀ w, (Instr.sliceAt 33 (.slice (some ⟨b, off, none⟩) n c) (some (.int .i64 (k : Int))) none none).run Try.prog w = .ok (.slice A' (n - k) c') w) ∧ n - k ≤ c' ∧ (c' : Int) ≤ 9223372036854775807 ∧
      (∀ w ps G, Es w (some ⟨b, off, none⟩) n ps G → Es w A' (n - k) (ps.drop k) G) := by
  have h1 : (k : Int) ≤ (n : Int) := by omega
  by_cases hck : c = k
  · subst hck
    obtain rfl : n = c := by omega
    refine ⟨some ⟨b, off, none⟩, 0, fun w => ?_, by omega, by omega, fun w ps G h => ?_⟩
    · simp [go_sem, Instr.sliceAt]
    · rw [List.drop_of_length_le (by rw [h.len]; exact Nat.le_refl _), Nat.sub_self]
      exact Es.nil _ _ _
  · refine ⟨some ⟨b, off + k * 2, none⟩, c - k, fun w => ?_, by omega, by omega, fun w ps G h => h.drop k hk⟩
    simp [go_sem, Instr.sliceAt, hck, h1]

/-- What is left where the row is another one, and index and term are laid anew. -/
theorem relaid {TL TE : TypeId} (hT2 : 5 ≠ TL) (hT3 : TE ≠ TL) {w v1 W : World} {g : Nat} {s s' : LG} {v v' : Value} {ps qs : List EL} {F : Nat → Prop} (h : LogM TL TE w g s v ps) (h2 : ∀ k, LB g v ps k → F k) (hx : NewE w v1 TE v' qs) (hok : s'.ok) (hl : s'.l = qs.map EL.e)
    (hf : Fr (fun k => k = g) v1 W) (hb : Bk W g TL #[.int .i64 (s'.ix : Int), .int .i64 s'.tm, v']) : LgTo TL TE w g F W s' := by
  obtain ⟨hxo, hxf, hxn⟩ := hx
  have hr : OwnE W TE v' qs := ⟨hxo.row.fr hf (fun k e e2 => by
      subst e2
      have := hxn k (.inl e)
      have := h.blk.lt
      omega), fun p hp => (hxo.each p hp).fr hf (fun k e e2 => by
      subst e2
      have := hxn k (.inr ⟨p, hp, e⟩)
      have := h.blk.lt
      omega)⟩
  have hm : LogM TL TE W g s' v' qs := ⟨hok, hb, hr, hl⟩
  refine hm.to (fun k hk => ?_) ((hxf.mono (T := F) (fun _ _ e => e.elim)).trans hf (fun k _ e => h2 k (.inl e)))
  rcases hk with rfl | e
  · exact .inl (h2 _ (.inl rfl))
  · exact .inr (hxn k e)

set_option maxRecDepth 100000 in
set_option maxHeartbeats 4000000 in
theorem refCompact {w : World} {g : Nat} {s : LG} {F : Nat → Prop} (h : Lg 41 68 w g s F) (i : Int) (i0 : -9223372036854775808 ≤ i) (i1 : i ≤ 9223372036854775807) (hlm : s.l.length ≤ 4999999999999) :
    Calls Try.prog 36 #[.pointer (some ⟨g, 0, none⟩), .int .i64 i] w fun e w' => e = .returned (.int .i64 (if s.has i then 0 else 1)) ∧ LgTo 41 68 w g F w' (s.comp i) := by
  have CT := Lib.hid (fun w' (hf : Fr (fun _ => False) w w') => refTerm (h.fr0 hf) i i0 i1)
  have H := Lib.hid h
  obtain ⟨v, ps, h1, h2, h3⟩ := h
  obtain ⟨A, c, rfl, hnc, hcm, hA⟩ := h1.form
  have c0 := h1.c0
  have c2 := h1.c2
  have b1 := h1.ok.i1
  have b2 := h1.ok.l1
  obtain ⟨n, hn⟩ : ∃ n, s.l.length = n := ⟨_, rfl⟩
  have hn2 : (n : Int) ≤ 5000000000000 := by omega
  have hx2 : (s.ix : Int) ≤ 20000000000000 := by omega
  by_cases hlo : i ≤ (s.ix : Int)
  · have hh : s.has i = false := by unfold LG.has; simp; omega
    have HC : Hid (s.comp i = s) := Lib.hid (by unfold LG.comp; rw [hh]; rfl)
    rw [hh]
    generalize hix : s.ix = ix at *
    clear h1 h2 h3 hA hh CT b1 b2 hnc hn c2
    go_enter Try.func36, Try.ntmps36
    go_wp2_with fail
    go_quiet (fail)
    go_wp2
    go_ret
    rw [HC.out]
    exact ⟨rfl, H.out.to0 ((Fr.refl _ _).drewN _)⟩
  have dlo : decide (i ≤ (s.ix : Int)) = false := decide_eq_false hlo
  by_cases hhi : (s.ix : Int) + (n : Int) < i
  · have hh : s.has i = false := by unfold LG.has; simp; omega
    have HC : Hid (s.comp i = s) := Lib.hid (by unfold LG.comp; rw [hh]; rfl)
    rw [hh]
    rw [hn] at c2
    generalize hix : s.ix = ix at *
    clear h1 h2 h3 hA hh CT b1 b2 hnc hn
    go_enter Try.func36, Try.ntmps36
    go_wp2_with fail
    go_quiet (fail)
    go_wp2
    go_ret
    rw [HC.out]
    exact ⟨rfl, H.out.to0 ((Fr.refl _ _).drewN _)⟩
  · have dhi : decide ((s.ix : Int) + (n : Int) < i) = false := decide_eq_false hhi
    have hh : s.has i = true := by unfold LG.has; simp; omega
    obtain ⟨b, off, rfl⟩ := hA (by omega)
    obtain ⟨k, hk⟩ : ∃ k : Nat, i - (s.ix : Int) = (k : Int) := ⟨(i - s.ix).toNat, by omega⟩
    have hcI : (c : Int) ≤ 9223372036854775807 := by unfold maxLen at hcm; omega
    obtain ⟨A9, c9, hsl, _, _, hes9⟩ := run_fromR b off n c k (by omega) (by omega) hcI
    obtain ⟨m, hm⟩ : ∃ m, n - k = m := ⟨_, rfl⟩
    rw [hm] at hsl hes9
    have HSL := Lib.hid hsl
    have hcomp : s.comp i = ⟨i.toNat, s.term i, s.l.drop k⟩ := by
      unfold LG.comp; rw [hh]
      simp only [if_true]
      rw [show (i - (s.ix : Int)).toNat = k by omega]
    rw [show (if s.has i = true then (0 : Int) else 1) = 0 by rw [hh]; rfl]
    have HOK : Hid (s.comp i).ok := Lib.hid (by rw [hcomp]; exact ⟨by simp only [List.length_drop]; omega, by simp only [List.length_drop]; omega⟩)
    have HIX : Hid (((s.comp i).ix : Int) = i) := Lib.hid (by rw [hcomp]; simp only; omega)
    have HLL : Hid ((s.comp i).l = (ps.drop k).map EL.e) := Lib.hid (by rw [hcomp, h1.l, List.map_drop])
    obtain ⟨tt, htt⟩ : ∃ tt, s.term i = tt := ⟨_, rfl⟩
    have HTM : Hid ((s.comp i).tm = tt) := Lib.hid (by rw [hcomp]; exact htt)
    rw [LG.is_of_has hh, htt] at CT
    have HM := Lib.hid h1
    have H2 := Lib.hid h2
    rw [hn] at c2
    have HCELL := Lib.hid (fun w' (hf : Fr (fun _ => False) w w') => And.intro (h1.fr0 hf).c0 (show w'.cell? ⟨g, 2, none⟩ = some (.slice (some ⟨b, off, none⟩) n c) by rw [(h1.fr0 hf).c2, hn]))
    have HES : Hid (∀ w', Fr (fun _ => False) w w' → Es w' A9 m (ps.drop k) (EB (.slice (some ⟨b, off, none⟩) n c) ps)) := Lib.hid (fun w' hf => hes9 w' ps _ (by have h9 := (h1.fr0 hf).own.es; rw [hn] at h9; exact h9))
    have HMB : Hid (m ≤ 4999999999999) := Lib.hid (by omega)
    generalize s.ix = ix at *
    have hk0 : (0 : Int) ≤ (k : Int) := by omega
    have hkn : (k : Int) ≤ (n : Int) := by omega
    have ew : IntKind.i64.wrap (k : Int) = (k : Int) := IntWalk.i64_in _ (by omega)
    clear h1 h2 h3 hA hh b1 b2 hnc hn hcomp htt hsl hes9 hm hcm H hlm
    go_enter Try.func36, Try.ntmps36
    go_wp2_with fail
    go_quiet (fail)
    go_wp2_with fail
    have C := Lib.hid (fun j => CT.out _ ((Fr.refl _ w).drewN j))
    clear CT
    refine (C.out _).mono ?_; rintro e w1 ⟨rfl, hf1⟩
    have HF1 : Hid (Fr (fun _ => False) w w1) := Lib.hid (((Fr.refl _ w).drewN _).trans hf1 (fun _ _ h => h))
    have HC : Hid (∀ w', Fr (fun _ => False) w1 w' → w'.cell? ⟨g, 0, none⟩ = some (.int .i64 (ix : Int)) ∧ w'.cell? ⟨g, 2, none⟩ = some (.slice (some ⟨b, off, none⟩) n c)) := Lib.hid (fun w' hf => HCELL.out w' (HF1.out.trans hf (fun _ _ h => h)))
    have CC := Lib.hid (fun w' (hf : Fr (fun _ => False) w1 w') => copied_any A9 m c9 (ps.drop k) _ w' (HES.out w' (HF1.out.trans hf (fun _ _ h => h))) HMB.out)
    clear hf1 C c0 c2
    go_wp2_with fail
    refine wp_region_Z [15] (fun w' => Fr (fun _ => False) w1 w') (by kernel_rfl) ((Fr.refl _ _).drew) (fun hHeld => ?_)
    refine anyZ_pure (i := 0) (v := ?_) (some 33) rfl rfl (by kernel_rfl) (by kernel_rfl) (by kernel_rfl) (by kernel_rfl) (fun _ _ _ h => h) (Or.inl ⟨by rfl, ?_⟩) (fun _ => hHeld) ?_
    rotate_left
    · intro w' _
      go_simp
      first | done | with_reducible rfl
    try simp only [Go.Act.put, List.setIfInBounds_toArray, List.set_cons_zero, List.set_cons_succ]
    refine anyZ_pure (i := 1) (v := ?_) (some 34) rfl rfl (by kernel_rfl) (by kernel_rfl) (by kernel_rfl) (by kernel_rfl) (fun _ _ _ h => h) (Or.inl ⟨by rfl, ?_⟩) (fun _ => hHeld) ?_
    rotate_left
    · intro w' _
      go_simp
      first | done | with_reducible rfl
    try simp only [Go.Act.put, List.setIfInBounds_toArray, List.set_cons_zero, List.set_cons_succ]
    refine anyZ_pure (i := 2) (v := ?_) (some 35) rfl rfl (by kernel_rfl) (by kernel_rfl) (by kernel_rfl) (by kernel_rfl) (fun _ _ _ h => h) (Or.inl ⟨by rfl, ?_⟩) (fun _ => hHeld) ?_
    rotate_left
    · intro w' _
      go_simp
      first | done | with_reducible rfl
    try simp only [Go.Act.put, List.setIfInBounds_toArray, List.set_cons_zero, List.set_cons_succ]
    refine anyZ_pure (i := 3) (v := ?_) (some 36) rfl rfl (by kernel_rfl) (by kernel_rfl) (by kernel_rfl) (by kernel_rfl) (fun _ _ _ h => h) (Or.inl ⟨by rfl, ?_⟩) (fun _ => hHeld) ?_
    rotate_left
    · intro w' _
      go_simp
      first | done | with_reducible rfl
    try simp only [Go.Act.put, List.setIfInBounds_toArray, List.set_cons_zero, List.set_cons_succ]
    refine anyZ_read (i := 4) (v := ?_) (some 37) [11, 12, 13, 14, 15] rfl rfl (by kernel_rfl) (by kernel_rfl) (by kernel_rfl) (by kernel_rfl) (by kernel_rfl) (by kernel_rfl) (fun _ _ _ h => h) (Or.inl ⟨by rfl, ?_⟩) hHeld ?_
    rotate_left
    · intro w' hSw
      obtain ⟨q0, q2⟩ := HC.out w' hSw
      go_simp
      first | done | with_reducible rfl
    try simp only [Go.Act.put, List.setIfInBounds_toArray, List.set_cons_zero, List.set_cons_succ]
    refine anyZ_pure (i := 5) (v := ?_) (some 38) rfl rfl (by kernel_rfl) (by kernel_rfl) (by kernel_rfl) (by kernel_rfl) (fun _ _ _ h => h) (Or.inl ⟨by rfl, ?_⟩) (fun _ => hHeld) ?_
    rotate_left
    · intro w' _
      go_simp
      first | done | with_reducible rfl
    try simp only [Go.Act.put, List.setIfInBounds_toArray, List.set_cons_zero, List.set_cons_succ]
    refine anyZ_pure (i := 6) (v := ?_) (some 39) rfl rfl (by kernel_rfl) (by kernel_rfl) (by kernel_rfl) (by kernel_rfl) (fun _ _ _ h => h) (Or.inl ⟨by rfl, ?_⟩) (fun _ => hHeld) ?_
    rotate_left
    · intro w' _
      go_simp
      first | done | with_reducible rfl
    try simp only [Go.Act.put, List.setIfInBounds_toArray, List.set_cons_zero, List.set_cons_succ]
    refine anyZ_pure (i := 7) (v := ?_) (some 40) rfl rfl (by kernel_rfl) (by kernel_rfl) (by kernel_rfl) (by kernel_rfl) (fun _ _ _ h => h) (Or.inl ⟨by rfl, ?_⟩) (fun _ => hHeld) ?_
    rotate_left
    · intro w' _
      go_simp
      first | done | with_reducible rfl
    try simp only [Go.Act.put, List.setIfInBounds_toArray, List.set_cons_zero, List.set_cons_succ]
    refine anyZ_pure (i := 8) (v := ?_) (some 41) rfl rfl (by kernel_rfl) (by kernel_rfl) (by kernel_rfl) (by kernel_rfl) (fun _ _ _ h => h) (Or.inl ⟨by rfl, ?_⟩) (fun _ => hHeld) ?_
    rotate_left
    · intro w' _
      go_simp
      first | done | with_reducible rfl
    try simp only [Go.Act.put, List.setIfInBounds_toArray, List.set_cons_zero, List.set_cons_succ]
    refine anyZ_read (i := 9) (v := ?_) (some 42) [10, 11, 12, 13, 14, 15] rfl rfl (by kernel_rfl) (by kernel_rfl) (by kernel_rfl) (by kernel_rfl) (by kernel_rfl) (by kernel_rfl) (fun _ _ _ h => h) (Or.inl ⟨by rfl, ?_⟩) hHeld ?_
    rotate_left
    · intro w' hSw
      obtain ⟨q0, q2⟩ := HC.out w' hSw
      go_simp
      first | done | with_reducible rfl
    try simp only [Go.Act.put, List.setIfInBounds_toArray, List.set_cons_zero, List.set_cons_succ]
    refine anyZ_pure (i := 10) (v := ?_) (some 43) rfl rfl (by kernel_rfl) (by kernel_rfl) (by kernel_rfl) (by kernel_rfl) (fun _ _ _ h => h) (Or.inl ⟨by rfl, ?_⟩) (fun _ => hHeld) ?_
    rotate_left
    · intro w' _
      go_simp
      first | done | with_reducible rfl
    try simp only [Go.Act.put, List.setIfInBounds_toArray, List.set_cons_zero, List.set_cons_succ]
    refine anyZ_pure (i := 11) (v := ?_) (some 44) rfl rfl (by kernel_rfl) (by kernel_rfl) (by kernel_rfl) (by kernel_rfl) (fun _ _ _ h => h) (Or.inl ⟨by rfl, ?_⟩) (fun _ => hHeld) ?_
    rotate_left
    · intro w' _
      have q9 := HSL.out w'
      go_simp
      first | done | with_reducible rfl
    try simp only [Go.Act.put, List.setIfInBounds_toArray, List.set_cons_zero, List.set_cons_succ]
    refine anyZ_ready (rs := [12]) (by kernel_rfl) (by simp) ?_
    refine AllZ.step rfl (fun K hK => ?_) AllZ.nil
    go_simp
    refine (CC.out _ hHeld).mono ?_; rintro e v1 ⟨Ax, cx, qs, rfl, hnew, hq⟩
    have HNEW := Lib.hid (show NewE w v1 _ (.slice Ax m cx) qs from ⟨hnew.1, (HF1.out.trans hHeld (fun _ _ h => h)).trans hnew.2.1 (fun _ _ h => h), fun k hk => Nat.le_trans (HF1.out.trans hHeld (fun _ _ h => h)).size (hnew.2.2 k hk)⟩)
    have HQ := Lib.hid hq
    have hf9 := hnew.2.1
    clear hnew hq
    try go_simp
    refine hK.out _ _ (hHeld.trans hf9 (fun _ _ h => h)) (fun hHeld => ?_)
    clear hK K
    try change anyZ _ _ _ _ _ _ _ _ (Go.Act.put _ (some 45) _) _
    try simp only [Go.Act.put, List.setIfInBounds_toArray, List.set_cons_zero, List.set_cons_succ]
    refine anyZ_pure (i := 13) (v := ?_) (some 46) rfl rfl (by kernel_rfl) (by kernel_rfl) (by kernel_rfl) (by kernel_rfl) (fun _ _ _ h => h) (Or.inl ⟨by rfl, ?_⟩) (fun _ => hHeld) ?_
    rotate_left
    · intro w' _
      go_simp
      first | done | with_reducible rfl
    try simp only [Go.Act.put, List.setIfInBounds_toArray, List.set_cons_zero, List.set_cons_succ]
    refine anyZ_pure (i := 14) (v := ?_) (some 47) rfl rfl (by kernel_rfl) (by kernel_rfl) (by kernel_rfl) (by kernel_rfl) (fun _ _ _ h => h) (Or.inl ⟨by rfl, ?_⟩) (fun _ => hHeld) ?_
    rotate_left
    · intro w' _
      go_simp
      first | done | with_reducible rfl
    try simp only [Go.Act.put, List.setIfInBounds_toArray, List.set_cons_zero, List.set_cons_succ]
    refine anyZ_ready (rs := [15]) (by kernel_rfl) (by simp) ?_
    refine AllZ.last rfl (by kernel_rfl) (fun K hK => ?_) AllZ.nil
    go_simp
    have hbk := HM.out.blk.fr HNEW.out.2.1 (fun h => h)
    have k2 := hbk.cell 2
    have f2 := hbk.frozen 2
    have HBK := Lib.hid hbk
    clear hbk
    simp only [List.getElem?_toArray, List.getElem?_cons_succ, List.getElem?_cons_zero] at k2
    try go_simp
    refine hK.out _ _ ?_
    clear hK K
    try change anyZ _ _ _ _ _ _ _ _ (Go.Act.put _ none _) _
    try simp only [Go.Act.put, List.setIfInBounds_toArray, List.set_cons_zero, List.set_cons_succ]
    refine anyZ_done (by kernel_rfl) ?_ _
    clear hHeld k2 f2
    have hbk2 := HBK.out.set 2 (.slice Ax m cx)
    have k0 := hbk2.cell 0
    have k1 := (hbk2.set 0 (.int .i64 i)).cell 1
    have f0 := hbk2.frozen 0
    have f1 := (hbk2.set 0 (.int .i64 i)).frozen 1
    simp at k0 k1
    have HBK2 := Lib.hid hbk2
    clear hbk2
    go_wp2
    go_ret
    refine ⟨rfl, relaid (by decide) (by decide) HM.out H2.out HNEW.out HOK.out (by rw [HQ.out, HLL.out]) (W := _) ?_ ?_⟩
    · exact Fr.setCell (S := fun x => x = g) (p := ⟨g, 1, none⟩) (Fr.setCell (S := fun x => x = g) (p := ⟨g, 0, none⟩) (Fr.setCell (S := fun x => x = g) (p := ⟨g, 2, none⟩) (Fr.refl _ _) (fun _ => rfl) _) (fun _ => rfl) _) (fun _ => rfl) _
    · have h9 := (HBK2.out.set 0 (.int .i64 i)).set 1 (.int .i64 tt)
      rw [HIX.out, HTM.out]
      simpa using h9

set_option maxRecDepth 100000 in
set_option maxHeartbeats 2000000 in
theorem refRestore {w : World} {g : Nat} {s : LG} {F : Nat → Prop} (h : Lg 41 68 w g s F) (i t : Int) (hi : (s.ix : Int) < i) (ht : 1 ≤ t) (i1 : i ≤ 1099511627776) (hlm : s.l.length ≤ 4999999999999) :
    Calls Try.prog 38 #[.pointer (some ⟨g, 0, none⟩), .int .i64 i, .int .i64 t] w fun e w' => e = .returned (.tuple #[]) ∧ LgTo 41 68 w g F w' (s.rest i t) := by
  have hbg : begins i t = true := by
    unfold begins
    simp
    omega
  have CM := Lib.hid (refMatch h i t (by omega) (by omega))
  have CC := Lib.hid (fun w' (hf : Fr (fun _ => False) w w') => refCompact (h.fr0 hf) i (by omega) (by omega) hlm)
  have H := Lib.hid h
  obtain ⟨z, hz⟩ : ∃ z : Int, (if s.has i = true then (0 : Int) else 1) = z := ⟨_, rfl⟩
  rw [hz] at CC
  clear hz
  cases hm : s.mat i t with
  | true =>
    have HC : Hid (s.rest i t = s.comp i) := Lib.hid (by unfold LG.rest; rw [hbg, hm]; rfl)
    rw [hm] at CM
    clear h hbg hm hi ht
    go_enter Try.func38, Try.ntmps38
    go_wp2_with fail
    refine CM.out.mono ?_; rintro e w2 ⟨rfl, hf2⟩
    have C := Lib.hid (CC.out w2 hf2)
    have HF2 := Lib.hid hf2
    clear hf2 CC CM
    go_wp2_with fail
    refine C.out.mono ?_; rintro e w3 ⟨rfl, F3, h3, hf3, hF3⟩
    have H3 := Lib.hid h3
    have HF3 := Lib.hid hf3
    have HFF := Lib.hid hF3
    clear h3 hf3 hF3 C
    go_wp2
    refine bodyPost_ret (results_none rfl _ _ _) rfl ⟨rfl, ?_⟩
    rw [HC.out]
    exact ⟨F3, H3.out, (HF2.out.mono (fun _ _ e => e.elim)).trans HF3.out (fun _ _ e => e), fun k hk => (HFF.out k hk).imp id (fun e => Nat.le_trans HF2.out.size e)⟩
  | false =>
    have HC : Hid (s.rest i t = ⟨i.toNat, t, []⟩) := Lib.hid (by unfold LG.rest; rw [hbg, hm]; rfl)
    have HI : Hid (((i.toNat : Nat) : Int) = i ∧ i ≤ 1099511627776) := Lib.hid (by omega)
    rw [hm] at CM
    clear h hbg hm CC hi ht
    go_enter Try.func38, Try.ntmps38
    go_wp2_with fail
    refine CM.out.mono ?_; rintro e w2 ⟨rfl, hf2⟩
    obtain ⟨v, ps, h1, h2, h3⟩ := H.out.fr0 hf2
    have k0 := h1.c0
    have f0 := h1.blk.frozen 0
    have k1 : (w2.setCell ⟨g, 0, none⟩ (.int .i64 i)).cell? ⟨g, 1, none⟩ = some (.int .i64 s.tm) := (h1.blk.set 0 (.int .i64 i)).cell 1
    have f1 := (h1.blk.set 0 (.int .i64 i)).frozen 1
    have k2 : ((w2.setCell ⟨g, 0, none⟩ (.int .i64 i)).setCell ⟨g, 1, none⟩ (.int .i64 t)).cell? ⟨g, 2, none⟩ = some v := ((h1.blk.set 0 (.int .i64 i)).set 1 (.int .i64 t)).cell 2
    have f2 := ((h1.blk.set 0 (.int .i64 i)).set 1 (.int .i64 t)).frozen 2
    have H1 := Lib.hid h1
    have H2 := Lib.hid h2
    have HF2 := Lib.hid hf2
    clear h1 h2 h3 hf2
    go_wp2
    refine bodyPost_end (results_none rfl _ _ _) rfl ⟨rfl, ?_⟩
    rw [HC.out]
    have hm2 : NewE w2 w2 68 (.slice none 0 0) [] := ⟨OwnE.nil _ _, Fr.refl _ _, fun k hk => by
      rcases hk with e | ⟨p, hp, _⟩
      · simp [Value.ownBlock] at e
      · cases hp⟩
    have hto : LgTo 41 68 w2 g F (((w2.setCell ⟨g, 0, none⟩ (.int .i64 i)).setCell ⟨g, 1, none⟩ (.int .i64 t)).setCell ⟨g, 2, none⟩ (.slice none 0 0)) ⟨i.toNat, t, []⟩ := by
      refine relaid (by decide) (by decide) H1.out H2.out hm2 ⟨by have := HI.out; simp only [List.length_nil]; omega, by simp⟩ rfl ?_ ?_
      · exact Fr.setCell (S := fun x => x = g) (p := ⟨g, 2, none⟩) (Fr.setCell (S := fun x => x = g) (p := ⟨g, 1, none⟩) (Fr.setCell (S := fun x => x = g) (p := ⟨g, 0, none⟩) (Fr.refl _ _) (fun _ => rfl) _) (fun _ => rfl) _) (fun _ => rfl) _
      · rw [HI.out.1]
        simpa using ((H1.out.blk.set 0 (.int .i64 i)).set 1 (.int .i64 t)).set 2 (.slice none 0 0)
    obtain ⟨F3, h4, hf4, hF4⟩ := hto
    exact ⟨F3, h4, (HF2.out.mono (fun _ _ e => e.elim)).trans hf4 (fun _ _ e => e), fun k hk => (hF4 k hk).imp id (fun e => Nat.le_trans HF2.out.size e)⟩
end Go.Proofs.Ytainkckcipdknaa
