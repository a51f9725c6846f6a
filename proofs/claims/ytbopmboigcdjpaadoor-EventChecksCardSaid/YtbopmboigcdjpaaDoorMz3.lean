/- The reference's Check, the walk. -/
import Derived.Test.YtbopmboigcdjpaaDoorMz1
import Derived.Test.YtbopmboigcdjpaaDoorMw2
namespace Go.Proofs.YtbopmboigcdjpaaDoor
open Go.RowKit Go.Maps

theorem refCheck_at {l : List Ev} {k : Nat} (h : k < l.length) : refCheck l k (l.drop k) = if whyR (l.take k) (l.getD k default) ≠ 0 then some (k + 1, whyR (l.take k) (l.getD k default)) else refCheck l (k + 1) (l.drop (k + 1)) := by
  rw [List.drop_eq_getElem_cons h, refCheck]
  simp [List.getD, h]
def atO : Option (Nat × Nat) → Nat
  | none => 0
  | some x => x.1
def cdO : Option (Nat × Nat) → Nat
  | none => 0
  | some x => x.2

set_option maxRecDepth 100000 in
set_option maxHeartbeats 16000000 in
theorem rcheck_any (A : Option Addr) (n c : Nat) (ps : List VL) (F : Nat → Prop) (w : World) (h : Vs w A n ps F) (hnc : n ≤ c) (hc : c ≤ maxLen) (hn : n ≤ 1048576) :
    Calls Tryd.prog 10 #[.slice A n c] w fun e w' => e = .returned (.tuple #[.int .i64 (atO (refCheck (evs ps) 0 (evs ps)) : Int), .string (wordW (cdO (refCheck (evs ps) 0 (evs ps))))]) ∧ Fr (fun _ => False) w w' := by
  obtain ⟨R, hR⟩ : ∃ R, refCheck (evs ps) 0 (evs ps) = R := ⟨_, rfl⟩
  have H0 : Hid (refCheck (evs ps) 0 ((evs ps).drop 0) = R) := Lib.hid (by simpa using hR)
  rw [hR]
  have HVS := Lib.hid h
  have HL := Lib.hid (evs_len h)
  have HNC := Lib.hid (And.intro hnc hc)
  have hnI : (n : Int) ≤ 1048576 := by omega
  clear h hR hnc hc
  go_enter Tryd.func10, Tryd.ntmps10
  go_wp2_with fail
  go_loopw [4] (fun i wr => ∃ (k : Nat), i = .int .i64 (k : Int) ∧ k ≤ n ∧ Hid (refCheck (evs ps) k ((evs ps).drop k) = R ∧ Fr (fun _ => False) w wr)) (fun i _ => n - (intOf i).toNat)
  case atStart => exact ⟨0, rfl, Nat.zero_le _, ⟨H0.out, Fr.refl _ _⟩⟩
  case round =>
    obtain ⟨k, rfl, hk, HK⟩ := hrel
    clear H0
    have hk0 : (0 : Int) ≤ (k : Int) := by omega
    by_cases hlt : k < n
    · have hlt' : (k : Int) < n := by omega
      have hkI : (k : Int) ≤ 1048576 := by omega
      have HV := Lib.hid (HVS.out.fr0 HK.out.2)
      obtain ⟨b, off, rfl, -, hcs, hrd⟩ := HV.out.at hlt
      have hnx := refCheck_at (l := evs ps) (k := k) (by rw [HL.out]; exact hlt)
      rw [getD_evs (by rw [HV.out.len]; exact hlt)] at hnx
      have hevt : (evs ps).take k = evs (ps.take k) := by unfold evs; rw [List.map_take]
      rw [hevt] at hnx
      have CY := Lib.hid (fun w' (hf : Fr (fun _ => False) wr w') => rwhy_any (some ⟨b, off, none⟩) k c (ps.take k) F w' ((HV.out.fr0 hf).take k hk) (by omega) (ps.getD k default) hrd.ok)
      have hkc : (k : Int) ≤ (c : Int) := by have := HNC.out.1; omega
      have hc0 : ¬ (c = 0) := by have := HNC.out.1; omega
      have HSL : Hid (∀ w, (Instr.sliceAt 22 (.slice (some ⟨b, off, none⟩) n c) none (some (.int .i64 (k : Int))) none).run Tryd.prog w = .ok (.slice (some ⟨b, off, none⟩) k c) w) := Lib.hid (fun w => by simp [go_sem, Instr.sliceAt, hc0, hkc])
      generalize ps.getD k default = p at *
      have hv : p.val = .agg #[.int .i64 p.e.k, .int .i64 p.e.a, .int .i64 p.e.r, .int .i64 p.e.i, .int .i64 p.e.l, .int .i64 p.e.n, .slice p.A p.e.d.length p.c] := rfl
      rw [hv] at CY
      have hbsz := World.block_lt_of_cell? wr _ (hcs 0 _ rfl)
      have HQ : Hid (∀ w', Fr (fun _ => False) wr w' → w'.cell? ⟨b, off + k * 7, none⟩ = some (.int .i64 p.e.k) ∧ w'.cell? ⟨b, off + k * 7 + 1, none⟩ = some (.int .i64 p.e.a) ∧ w'.cell? ⟨b, off + k * 7 + 2, none⟩ = some (.int .i64 p.e.r) ∧ w'.cell? ⟨b, off + k * 7 + 3, none⟩ = some (.int .i64 p.e.i) ∧ w'.cell? ⟨b, off + k * 7 + 4, none⟩ = some (.int .i64 p.e.l) ∧ w'.cell? ⟨b, off + k * 7 + 5, none⟩ = some (.int .i64 p.e.n) ∧ w'.cell? ⟨b, off + k * 7 + 6, none⟩ = some (.slice p.A p.e.d.length p.c)) := Lib.hid (fun w' hf => by
        have e : ∀ j u, p.cells[j]? = some u → w'.cell? ⟨b, off + k * 7 + j, none⟩ = some u := fun j u hu => by
          rw [hf.cell (p := ⟨b, off + k * 7 + j, none⟩) hbsz (fun h => h)]; exact hcs j u hu
        exact ⟨e 0 _ rfl, e 1 _ rfl, e 2 _ rfl, e 3 _ rfl, e 4 _ rfl, e 5 _ rfl, e 6 _ rfl⟩)
      have w1 : IntKind.i64.wrap ((k : Int) + 1) = (k : Int) + 1 := IntWalk.i64_in _ (by omega)
      have HREL := Lib.hid (HK.out.1.symm.trans hnx)
      have HFK := Lib.hid HK.out.2
      obtain ⟨mf, hmf⟩ : ∃ mf, whyR (evs (ps.take k)) p.e = mf := ⟨_, rfl⟩
      rw [hmf] at CY HREL
      generalize p.e.k = ek at *
      generalize p.e.a = ea at *
      generalize p.e.r = er at *
      generalize p.e.i = ei at *
      generalize p.e.l = el at *
      generalize p.e.n = en at *
      generalize p.e.d.length = ed at *
      generalize p.A = pA at *
      generalize p.c = pc at *
      clear hcs hrd hv hnx hevt HK hmf HV hbsz hkc hc0
      go_wp2_with fail
      refine wp_region_held_drew (S := (fun w' => Fr (fun _ => False) wr w')) (by kernel_rfl) ((Fr.refl _ _).drew) (fun hHeld => ?_)
      refine wpAnyH_takeD (i := 0) (v := ?_) (some 12) rfl rfl (by kernel_rfl) (by kernel_rfl) (by kernel_rfl) (fun _ _ _ h => h) (Or.inl ⟨by rfl, ?_⟩) (by assumption) ?_
      rotate_left
      · intro w' hSw
        go_simp
        first | done | with_reducible rfl
      try simp only [Go.Act.put, List.setIfInBounds_toArray, List.set_cons_zero, List.set_cons_succ]
      refine wpAnyH_takeD (i := 1) (v := ?_) (some 13) rfl rfl (by kernel_rfl) (by kernel_rfl) (by kernel_rfl) (fun _ _ _ h => h) (Or.inl ⟨by rfl, ?_⟩) (by assumption) ?_
      rotate_left
      · intro w' hSw
        go_simp
        first | done | with_reducible rfl
      try simp only [Go.Act.put, List.setIfInBounds_toArray, List.set_cons_zero, List.set_cons_succ]
      refine wpAnyH_takeD (i := 2) (v := ?_) (some 14) rfl rfl (by kernel_rfl) (by kernel_rfl) (by kernel_rfl) (fun _ _ _ h => h) (Or.inl ⟨by rfl, ?_⟩) (by assumption) ?_
      rotate_left
      · intro w' hSw
        have q9 := HSL.out w'
        go_simp
        first | done | with_reducible rfl
      try simp only [Go.Act.put, List.setIfInBounds_toArray, List.set_cons_zero, List.set_cons_succ]
      refine wpAnyH_takeD (i := 3) (v := ?_) (some 15) rfl rfl (by kernel_rfl) (by kernel_rfl) (by kernel_rfl) (fun _ _ _ h => h) (Or.inl ⟨by rfl, ?_⟩) (by assumption) ?_
      rotate_left
      · intro w' hSw
        go_simp
        first | done | with_reducible rfl
      try simp only [Go.Act.put, List.setIfInBounds_toArray, List.set_cons_zero, List.set_cons_succ]
      refine wpAnyH_takeD (i := 4) (v := ?_) (some 16) rfl rfl (by kernel_rfl) (by kernel_rfl) (by kernel_rfl) (fun _ _ _ h => h) (Or.inl ⟨by rfl, ?_⟩) (by assumption) ?_
      rotate_left
      · intro w' hSw
        go_simp
        first | done | with_reducible rfl
      try simp only [Go.Act.put, List.setIfInBounds_toArray, List.set_cons_zero, List.set_cons_succ]
      refine wpAnyH_takeD (i := 5) (v := ?_) (some 17) rfl rfl (by kernel_rfl) (by kernel_rfl) (by kernel_rfl) (fun _ _ _ h => h) (Or.inl ⟨by rfl, ?_⟩) (by assumption) ?_
      rotate_left
      · intro w' hSw
        go_simp
        first | done | with_reducible rfl
      try simp only [Go.Act.put, List.setIfInBounds_toArray, List.set_cons_zero, List.set_cons_succ]
      refine wpAnyH_takeD (i := 6) (v := ?_) (some 18) rfl rfl (by kernel_rfl) (by kernel_rfl) (by kernel_rfl) (fun _ _ _ h => h) (Or.inl ⟨by rfl, ?_⟩) (by assumption) ?_
      rotate_left
      · intro w' hSw
        obtain ⟨q0, q1, q2, q3, q4, q5, q6⟩ := HQ.out w' hSw
        go_simp
        first | done | with_reducible rfl
      try simp only [Go.Act.put, List.setIfInBounds_toArray, List.set_cons_zero, List.set_cons_succ]
      refine wpAnyH_ready (rs := [7]) (by kernel_rfl) (by simp) ?_
      refine AllReadyH.cons rfl (fun K hK => ?_) AllReadyH.nil
      go_simp
      refine (CY.out _ hHeld).mono ?_; rintro e w7 ⟨rfl, hf7⟩
      have HF7 := Lib.hid (hHeld.trans hf7 (fun _ _ h => h))
      clear hf7 CY
      try go_simp
      refine hK.out _ _ (HF7.out) (fun hHeld => ?_)
      clear hK K
      try change wpAnyH _ _ _ _ _ _ _ (Go.Act.put _ (some 19) _) _
      try simp only [Go.Act.put, List.setIfInBounds_toArray, List.set_cons_zero, List.set_cons_succ]
      refine wpAnyH_takeD (i := 8) (v := ?_) (some 5) rfl rfl (by kernel_rfl) (by kernel_rfl) (by kernel_rfl) (fun _ _ _ h => h) (Or.inl ⟨by rfl, ?_⟩) (by assumption) ?_
      rotate_left
      · intro w' hSw
        go_simp
        first | done | with_reducible rfl
      try simp only [Go.Act.put, List.setIfInBounds_toArray, List.set_cons_zero, List.set_cons_succ]
      refine wpAnyH_done (by kernel_rfl) ?_ _
      by_cases hm : mf = 0
      · subst hm
        have hs0 : wordW 0 = ⟨#[]⟩ := rfl
        rw [hs0]
        go_wp2
        go_roundw
        case rel => exact ⟨k + 1, by first | rfl | (go_num; done) | (congr 1; omega), by omega, ⟨by rw [HREL.out]; simp, HFK.out.trans HF7.out (fun _ _ h => h)⟩⟩
        case measure => (simp [intOf]) <;> omega
      · obtain ⟨s, hs⟩ : ∃ s, wordW mf = s := ⟨_, rfl⟩
        have hs1 : (!s.toList.isEmpty) = true := by rw [← hs]; exact wordW_ne hm
        rw [hs]
        have HR : Hid (R = some (k + 1, mf)) := Lib.hid (by rw [HREL.out, if_pos hm])
        have HSS := Lib.hid hs
        clear hs hm
        go_wp2
        refine bodyPost_ret (v := .tuple #[.int .i64 ((k : Int) + 1), .string s]) (by simp [results, Tryd.results10, go_sem]) rfl ⟨?_, HFK.out.trans HF7.out (fun _ _ h => h)⟩
        rw [HR.out, ← HSS.out]
        rfl
    · obtain rfl : k = n := by omega
      have hlt' : ¬ (k : Int) < (k : Int) := by omega
      have hd : (evs ps).drop k = [] := by rw [← HL.out]; simp
      have hr := HK.out.1
      rw [hd] at hr
      have HR : Hid (R = none) := Lib.hid (by rw [← hr]; rfl)
      have HF := Lib.hid HK.out.2
      clear hd hr HK hlt
      go_wp2
      refine bodyPost_ret (v := .tuple #[.int .i64 0, .string ⟨#[]⟩]) (by simp [results, Tryd.results10, go_sem]) rfl ⟨by rw [HR.out]; rfl, HF.out⟩
end Go.Proofs.YtbopmboigcdjpaaDoor
