/- The reference's Add, Compact, Restore. -/
import Derived.Test.YtainkckcipdknaaQn
namespace Go.Proofs.Ytainkckcipdknaa
open Go.RowKit

set_option maxRecDepth 100000 in
set_option maxHeartbeats 4000000 in
theorem refAdd {w : World} {g : Nat} {s : LG} {F G : Nat → Prop} {A : Option Addr} {n c : Nat} {ps2 : List EL} (h : Lg 41 68 w g s F) (hes : Es w A n ps2 G) (hn : n ≤ 4999999999999) (hok : (s.add (ps2.map EL.e)).ok) :
    Calls Try.prog 34 #[.pointer (some ⟨g, 0, none⟩), .slice A n c] w fun e w' => e = .returned (.int .i64 (s.add (ps2.map EL.e)).lastI) ∧ LgTo 41 68 w g F w' (s.add (ps2.map EL.e)) := by
  have CC := Lib.hid (fun w' (hf : Fr (fun _ => False) w w') => copied_any A n c ps2 G w' (hes.fr0 hf) hn)
  have HPL := Lib.hid hes.len
  have HOK := Lib.hid hok
  obtain ⟨v, ps, h1, h2, h3⟩ := h
  obtain ⟨A0, c0, rfl, hnc, hcm, hA⟩ := h1.form
  have HNB : Hid (s.l.length + n ≤ 5000000000000) := Lib.hid (by have := hok.l1; simp only [LG.add, List.length_append, List.length_map] at this; have := hes.len; omega)
  obtain ⟨ln, hln⟩ : ∃ ln, s.l.length = ln := ⟨_, rfl⟩
  have HLN := Lib.hid hln
  rw [hln] at HNB h1 h2
  have HC2 := Lib.hid (fun w' (hf : Fr (fun _ => False) w w') => (h1.fr0 hf).c2)
  have HROW : Hid (∀ w', Fr (fun _ => False) w w' → Row w' 68 2 (.slice A0 ln c0) ln (elc ps)) := Lib.hid (fun w' hf => by
    have h9 := (h1.fr0 hf).own.row
    rw [h1.ll, hln] at h9; exact h9)
  have HM := Lib.hid h1
  have H2 := Lib.hid h2
  clear h1 h2 h3 hA hnc hcm hes hok hln hn
  go_enter Try.func34, Try.ntmps34
  go_wp2_with fail
  refine wp_region_Z [7, 10] (fun w' => Fr (fun _ => False) w w') (by kernel_rfl) ((Fr.refl _ _).drew) (fun hHeld => ?_)
  refine anyZ_pure (i := 0) (v := ?_) (some 5) rfl rfl (by kernel_rfl) (by kernel_rfl) (by kernel_rfl) (by kernel_rfl) (fun _ _ _ h => h) (Or.inl ⟨by rfl, ?_⟩) (fun _ => hHeld) ?_
  rotate_left
  · intro w' _
    go_simp
    first | done | with_reducible rfl
  try simp only [Go.Act.put, List.setIfInBounds_toArray, List.set_cons_zero, List.set_cons_succ]
  refine anyZ_pure (i := 1) (v := ?_) (some 6) rfl rfl (by kernel_rfl) (by kernel_rfl) (by kernel_rfl) (by kernel_rfl) (fun _ _ _ h => h) (Or.inl ⟨by rfl, ?_⟩) (fun _ => hHeld) ?_
  rotate_left
  · intro w' _
    go_simp
    first | done | with_reducible rfl
  try simp only [Go.Act.put, List.setIfInBounds_toArray, List.set_cons_zero, List.set_cons_succ]
  refine anyZ_pure (i := 2) (v := ?_) (some 7) rfl rfl (by kernel_rfl) (by kernel_rfl) (by kernel_rfl) (by kernel_rfl) (fun _ _ _ h => h) (Or.inl ⟨by rfl, ?_⟩) (fun _ => hHeld) ?_
  rotate_left
  · intro w' _
    go_simp
    first | done | with_reducible rfl
  try simp only [Go.Act.put, List.setIfInBounds_toArray, List.set_cons_zero, List.set_cons_succ]
  refine anyZ_pure (i := 3) (v := ?_) (some 8) rfl rfl (by kernel_rfl) (by kernel_rfl) (by kernel_rfl) (by kernel_rfl) (fun _ _ _ h => h) (Or.inl ⟨by rfl, ?_⟩) (fun _ => hHeld) ?_
  rotate_left
  · intro w' _
    go_simp
    first | done | with_reducible rfl
  try simp only [Go.Act.put, List.setIfInBounds_toArray, List.set_cons_zero, List.set_cons_succ]
  refine anyZ_read (i := 4) (v := ?_) (some 9) [7, 8, 9, 10] rfl rfl (by kernel_rfl) (by kernel_rfl) (by kernel_rfl) (by kernel_rfl) (by kernel_rfl) (by kernel_rfl) (fun _ _ _ h => h) (Or.inl ⟨by rfl, ?_⟩) hHeld ?_
  rotate_left
  · intro w' hSw
    have q2 := HC2.out w' hSw
    go_simp
    first | done | with_reducible rfl
  try simp only [Go.Act.put, List.setIfInBounds_toArray, List.set_cons_zero, List.set_cons_succ]
  refine anyZ_pure (i := 5) (v := ?_) (some 10) rfl rfl (by kernel_rfl) (by kernel_rfl) (by kernel_rfl) (by kernel_rfl) (fun _ _ _ h => h) (Or.inl ⟨by rfl, ?_⟩) (fun _ => hHeld) ?_
  rotate_left
  · intro w' _
    go_simp
    first | done | with_reducible rfl
  try simp only [Go.Act.put, List.setIfInBounds_toArray, List.set_cons_zero, List.set_cons_succ]
  refine anyZ_ready (rs := [6]) (by kernel_rfl) (by simp) ?_
  refine AllZ.step rfl (fun K hK => ?_) AllZ.nil
  go_simp
  refine (CC.out _ hHeld).mono ?_; rintro e v1 ⟨Ax, cx, qs, rfl, hnew, hq⟩
  have hqn : qs.length = n := by have e8 := congrArg List.length hq; rw [List.length_map, List.length_map, HPL.out] at e8; exact e8
  have HNEW := Lib.hid (show NewE w v1 _ (.slice Ax n cx) qs from ⟨hnew.1, hHeld.trans hnew.2.1 (fun _ _ h => h), fun k hk => Nat.le_trans hHeld.size (hnew.2.2 k hk)⟩)
  have HSL : Hid (Sl v1 2 (.slice Ax n cx) n (elc qs)) := Lib.hid (by have h9 := hnew.1.row.sl; rw [hqn] at h9; exact h9)
  have HQ := Lib.hid hq
  have HQN := Lib.hid hqn
  have hf9 := hnew.2.1
  clear hnew hq hqn
  try go_simp
  refine hK.out _ _ (hHeld.trans hf9 (fun _ _ h => h)) (fun hHeld => ?_)
  clear hK K
  try change anyZ _ _ _ _ _ _ _ _ (Go.Act.put _ (some 11) _) _
  try simp only [Go.Act.put, List.setIfInBounds_toArray, List.set_cons_zero, List.set_cons_succ]
  refine anyZ_ready (rs := [7]) (by kernel_rfl) (by simp) ?_
  refine AllZ.last rfl (by kernel_rfl) (fun K hK => ?_) AllZ.nil
  refine stepOf_appendW Try.teR rfl (.tmp 9) (.tmp 11) rfl (.slice A0 ln c0) ln (elc ps) rfl (HROW.out _ hHeld) (.slice Ax n cx) n (elc qs) rfl HSL.out (elc_one _) (by unfold maxLen; have := HNB.out; omega) (by have := HNB.out; omega) ?_
  intro A3 c3 w3 hr3 hf3 hm3
  obtain ⟨hlog, hfa, hlb, k2, f2⟩ := add_fin (by decide) (by decide) (by decide) HM.out HNEW.out hr3 (by rw [HQN.out, HLN.out]) hf3 hm3 (by rw [HQ.out]; exact HOK.out)
  have HLOG := Lib.hid hlog
  have HFA := Lib.hid hfa
  have HLB := Lib.hid hlb
  clear hlog hfa hlb hr3 hf3 hm3
  refine hK.out _ _ ?_
  clear hK K
  try change anyZ _ _ _ _ _ _ _ _ (Go.Act.put _ (some 12) _) _
  try simp only [Go.Act.put, List.setIfInBounds_toArray, List.set_cons_zero, List.set_cons_succ]
  refine anyZ_pure (i := 8) (v := ?_) (some 13) rfl rfl (by kernel_rfl) (by kernel_rfl) (by kernel_rfl) (by kernel_rfl) (fun _ _ _ h => h) (Or.inl ⟨by rfl, ?_⟩) (notYet (by kernel_rfl)) ?_
  rotate_left
  · intro w' _
    go_simp
    first | done | with_reducible rfl
  try simp only [Go.Act.put, List.setIfInBounds_toArray, List.set_cons_zero, List.set_cons_succ]
  refine anyZ_pure (i := 9) (v := ?_) (some 14) rfl rfl (by kernel_rfl) (by kernel_rfl) (by kernel_rfl) (by kernel_rfl) (fun _ _ _ h => h) (Or.inl ⟨by rfl, ?_⟩) (notYet (by kernel_rfl)) ?_
  rotate_left
  · intro w' _
    go_simp
    first | done | with_reducible rfl
  try simp only [Go.Act.put, List.setIfInBounds_toArray, List.set_cons_zero, List.set_cons_succ]
  refine anyZ_ready (rs := [10]) (by kernel_rfl) (by simp) ?_
  refine AllZ.last rfl (by kernel_rfl) (fun K hK => ?_) AllZ.nil
  go_simp
  refine hK.out _ _ ?_
  clear hK K
  try change anyZ _ _ _ _ _ _ _ _ (Go.Act.put _ none _) _
  try simp only [Go.Act.put, List.setIfInBounds_toArray, List.set_cons_zero, List.set_cons_succ]
  refine anyZ_done (by kernel_rfl) ?_ _
  clear k2 f2
  obtain ⟨w4, hw4⟩ : ∃ w4, w3.setCell ⟨g, 2, none⟩ (.slice A3 (ln + n) c3) = w4 := ⟨_, rfl⟩
  rw [hw4] at HLOG HFA
  rw [hw4]
  have hlg : Lg 41 68 w4 g (s.add (ps2.map EL.e)) (LB g (.slice A3 (ln + n) c3) (ps ++ qs)) := ⟨_, _, by rw [← HQ.out]; exact HLOG.out, fun _ h => h, fun _ hk => HLOG.out.lt hk⟩
  have HLG := Lib.hid hlg
  have k0 : w4.cell? ⟨g, 0, none⟩ = some (.int .i64 (s.ix : Int)) := HLOG.out.c0
  have k2 : w4.cell? ⟨g, 2, none⟩ = some (.slice A3 (ln + n) c3) := HLOG.out.c2
  have hli : (s.add (ps2.map EL.e)).lastI = (s.ix : Int) + ((ln + n : Nat) : Int) := by unfold LG.lastI LG.add; simp only [List.length_append, List.length_map, HLN.out, HPL.out]
  have HLI := Lib.hid hli
  have hb9 := HOK.out.i1
  have hb8 : s.ix + (ln + n) ≤ 20000000000000 := by
    have : (s.add (ps2.map EL.e)).l.length = ln + n := by unfold LG.add; simp only [List.length_append, List.length_map, HLN.out, HPL.out]
    rw [this] at hb9; exact hb9
  generalize hlnn : ln + n = lnn at *
  have hb7 : (s.ix : Int) + (lnn : Int) ≤ 20000000000000 := by omega
  generalize s.ix = ix at *
  clear hlg hw4 hli hb9 hb8
  go_wp2_with fail
  go_quiet (fail)
  go_wp2
  go_ret
  refine ⟨by rw [HLI.out]; rfl, LB g (.slice A3 lnn c3) (ps ++ qs), HLG.out.fr0 ((Fr.refl _ _).drewN _), (HFA.out.mono (fun k _ e => H2.out k e)).drewN _, fun k hk => ?_⟩
  rcases HLB.out k hk with e | e
  · exact .inl (H2.out k e)
  · exact .inr e

end Go.Proofs.Ytainkckcipdknaa
