/- The reference's open, task, refs. -/
import Derived.Test.YtbopmboigcdjpaaDoorMv
namespace Go.Proofs.YtbopmboigcdjpaaDoor
open Go.RowKit Go.Maps

theorem kr_new (w : World) (ks : List Int) : KR (w.alloc (.cells (ks.map IV).toArray 3)) (.slice (some ⟨w.heap.size, 0, none⟩) ks.length ks.length) ks :=
  ⟨_, _, rfl, fun j hj => by rw [(Bk.new w 3 (ks.map IV).toArray).cell]; simp [IV, hj]⟩
theorem n64_works {ps : List VL} {p : Int} {n : Nat} (h : (evs ps).length = n) (hn : n ≤ 5000000000000) : 0 ≤ worksR (evs ps) p ∧ worksR (evs ps) p ≤ 5000000000000 := by
  have := worksR_le (evs ps) p
  omega

set_option maxRecDepth 100000 in
set_option maxHeartbeats 8000000 in
theorem ropen_any (A : Option Addr) (n c : Nat) (ps : List VL) (F : Nat → Prop) (w : World) (h : Vs w A n ps F) (hn : n ≤ 5000000000000) (p : Int) (hp : N64 p) :
    Calls Tryd.prog 35 #[.slice A n c, .int .i64 p] w fun e w' => e = .returned (.bool (openR (evs ps) p)) ∧ Fr (fun _ => False) w w' := by
  have CK := Lib.hid (rkind_any A n c ps F w h hn p hp)
  have CW := Lib.hid (rworks_any A n c ps F w h hn p)
  have CN := Lib.hid (fun (q : Int) (ks : List Int) (hl : ks.length ≤ 10) => rnamed_any A n c ps F (w.alloc (.cells (ks.map IV).toArray 3)) (h.fr0 ((Fr.refl _ _).alloc _)) hn q _ ks (kr_new w ks) hl)
  have HO : Hid (openR (evs ps) p = if kindR (evs ps) p = 7 then (worksR (evs ps) p == 0 || !namedR (evs ps) (worksR (evs ps) p) [9, 10, 11]) else if kindR (evs ps) p = 12 then !namedR (evs ps) p [13, 14] else if kindR (evs ps) p = 17 then !namedR (evs ps) p [18] else false) := Lib.hid rfl
  generalize openR (evs ps) p = R at *
  generalize kindR (evs ps) p = K at *
  generalize worksR (evs ps) p = wk at *
  have HFN : Hid (∀ o, Fr (fun _ => False) w (w.alloc o)) := Lib.hid (fun o => (Fr.refl _ _).alloc _)
  clear h hp
  by_cases h7 : K = 7
  · have d7 : (K == 7) = true := by simpa using h7
    have HO2 := Lib.hid (HO.out.trans (if_pos h7))
    clear h7 HO
    by_cases h0 : wk = 0
    · subst h0
      go_enter Tryd.func35, Tryd.ntmps35
      go_wp2_with fail
      refine CK.out.mono ?_; rintro e w1 ⟨rfl, rfl⟩
      go_wp2_with fail
      refine CW.out.mono ?_; rintro e w1 ⟨rfl, rfl⟩
      go_wp2
      go_ret
      exact ⟨by rw [HO2.out]; rfl, Fr.refl _ _⟩
    · have d0 : (wk == 0) = false := by simpa using h0
      have C := Lib.hid (CN.out wk [9, 10, 11] (by simp))
      obtain ⟨x, hx⟩ : ∃ x, namedR (evs ps) wk [9, 10, 11] = x := ⟨_, rfl⟩
      rw [hx] at C HO2
      simp only [List.map_cons, List.map_nil, IV] at C
      clear h0 hx CN
      go_enter Tryd.func35, Tryd.ntmps35
      go_wp2_with fail
      refine CK.out.mono ?_; rintro e w1 ⟨rfl, rfl⟩
      go_wp2_with fail
      refine CW.out.mono ?_; rintro e w1 ⟨rfl, rfl⟩
      go_wp2_with fail
      refine C.out.mono ?_; rintro e w2 ⟨rfl, hf2⟩
      have HF2 := Lib.hid ((HFN.out _).trans hf2 (fun _ _ h => h))
      clear hf2 C
      cases x <;>
      · go_wp2
        go_ret
        exact ⟨by rw [HO2.out]; simp [d0], HF2.out⟩
  have d7 : (K == 7) = false := by simpa using h7
  by_cases h12 : K = 12
  · have d12 : (K == 12) = true := by simpa using h12
    have HO2 := Lib.hid ((HO.out.trans (if_neg h7)).trans (if_pos h12))
    have C := Lib.hid (CN.out p [13, 14] (by simp))
    obtain ⟨x, hx⟩ : ∃ x, namedR (evs ps) p [13, 14] = x := ⟨_, rfl⟩
    rw [hx] at C HO2
    simp only [List.map_cons, List.map_nil, IV] at C
    clear h7 h12 hx CN HO CW
    go_enter Tryd.func35, Tryd.ntmps35
    go_wp2_with fail
    refine CK.out.mono ?_; rintro e w1 ⟨rfl, rfl⟩
    go_wp2_with fail
    refine C.out.mono ?_; rintro e w2 ⟨rfl, hf2⟩
    have HF2 := Lib.hid ((HFN.out _).trans hf2 (fun _ _ h => h))
    clear hf2 C
    cases x <;>
    · go_wp2
      go_ret
      exact ⟨by rw [HO2.out]; rfl, HF2.out⟩
  have d12 : (K == 12) = false := by simpa using h12
  by_cases h17 : K = 17
  · have d17 : (K == 17) = true := by simpa using h17
    have HO2 := Lib.hid (((HO.out.trans (if_neg h7)).trans (if_neg h12)).trans (if_pos h17))
    have C := Lib.hid (CN.out p [18] (by simp))
    obtain ⟨x, hx⟩ : ∃ x, namedR (evs ps) p [18] = x := ⟨_, rfl⟩
    rw [hx] at C HO2
    simp only [List.map_cons, List.map_nil, IV] at C
    clear h7 h12 h17 hx CN HO CW
    go_enter Tryd.func35, Tryd.ntmps35
    go_wp2_with fail
    refine CK.out.mono ?_; rintro e w1 ⟨rfl, rfl⟩
    go_wp2_with fail
    refine C.out.mono ?_; rintro e w2 ⟨rfl, hf2⟩
    have HF2 := Lib.hid ((HFN.out _).trans hf2 (fun _ _ h => h))
    clear hf2 C
    cases x <;>
    · go_wp2
      go_ret
      exact ⟨by rw [HO2.out]; rfl, HF2.out⟩
  have d17 : (K == 17) = false := by simpa using h17
  have HO2 := Lib.hid (((HO.out.trans (if_neg h7)).trans (if_neg h12)).trans (if_neg h17))
  clear h7 h12 h17 CN HO CW
  go_enter Tryd.func35, Tryd.ntmps35
  go_wp2_with fail
  refine CK.out.mono ?_; rintro e w1 ⟨rfl, rfl⟩
  go_wp2
  go_ret
  exact ⟨by rw [HO2.out]; rfl, Fr.refl _ _⟩

set_option maxRecDepth 100000 in
set_option maxHeartbeats 8000000 in
theorem rtask_any (A : Option Addr) (n c : Nat) (ps : List VL) (F : Nat → Prop) (w : World) (h : Vs w A n ps F) (hn : n ≤ 5000000000000) :
    Calls Tryd.prog 47 #[.slice A n c] w fun e w' => e = .returned (.tuple #[.int .i64 (taskR (evs ps)).1, .int .i64 (taskR (evs ps)).2]) ∧ Fr (fun _ => False) w w' := by
  have C2 := Lib.hid (rlast_any A n c ps F w h hn 2)
  have C3 := Lib.hid (rlast_any A n c ps F w h hn 3)
  have CN := Lib.hid (rnamed_any A n c ps F (w.alloc (.cells ([4, 5, 6].map IV).toArray 3)) (h.fr0 ((Fr.refl _ _).alloc _)) hn (lastR (evs ps) 3) _ [4, 5, 6] (kr_new w [4, 5, 6]) (by simp))
  simp only [List.map_cons, List.map_nil, IV] at CN
  have HO : Hid (taskR (evs ps) = if lastR (evs ps) 2 = 0 then (0, 0) else if lastR (evs ps) 3 < lastR (evs ps) 2 then (1, lastR (evs ps) 2) else if namedR (evs ps) (lastR (evs ps) 3) [4, 5, 6] = true then (0, 0) else (2, lastR (evs ps) 3)) := Lib.hid rfl
  generalize taskR (evs ps) = R at *
  obtain ⟨x, hx⟩ : ∃ x, namedR (evs ps) (lastR (evs ps) 3) [4, 5, 6] = x := ⟨_, rfl⟩
  rw [hx] at CN HO
  clear hx h
  generalize lastR (evs ps) 2 = s at *
  generalize lastR (evs ps) 3 = d at *
  by_cases h0 : s = 0
  · subst h0
    have HO2 := Lib.hid (HO.out.trans (if_pos rfl))
    clear HO CN C3
    go_enter Tryd.func47, Tryd.ntmps47
    go_wp2_with fail
    refine C2.out.mono ?_; rintro e w1 ⟨rfl, rfl⟩
    go_wp2
    refine bodyPost_ret (v := .tuple #[.int .i64 0, .int .i64 0]) (by simp [results, Tryd.results47, go_sem]) rfl ⟨by rw [HO2.out], Fr.refl _ _⟩
  have e0 : (s == 0) = false := by simpa using h0
  by_cases h1 : d < s
  · have e1 : decide (d < s) = true := decide_eq_true h1
    have HO2 := Lib.hid ((HO.out.trans (if_neg h0)).trans (if_pos h1))
    clear HO CN h0 h1
    go_enter Tryd.func47, Tryd.ntmps47
    go_wp2_with fail
    refine C2.out.mono ?_; rintro e w1 ⟨rfl, rfl⟩
    go_wp2_with fail
    refine C3.out.mono ?_; rintro e w1 ⟨rfl, rfl⟩
    go_wp2
    refine bodyPost_ret (v := .tuple #[.int .i64 1, .int .i64 s]) (by simp [results, Tryd.results47, go_sem]) rfl ⟨by rw [HO2.out], Fr.refl _ _⟩
  have e1 : decide (d < s) = false := decide_eq_false h1
  have HO2 := Lib.hid ((HO.out.trans (if_neg h0)).trans (if_neg h1))
  have HFN : Hid (∀ o, Fr (fun _ => False) w (w.alloc o)) := Lib.hid (fun o => (Fr.refl _ _).alloc _)
  clear HO h0 h1
  go_enter Tryd.func47, Tryd.ntmps47
  go_wp2_with fail
  refine C2.out.mono ?_; rintro e w1 ⟨rfl, rfl⟩
  go_wp2_with fail
  refine C3.out.mono ?_; rintro e w1 ⟨rfl, rfl⟩
  go_wp2_with fail
  refine CN.out.mono ?_; rintro e w2 ⟨rfl, hf2⟩
  have HF2 := Lib.hid ((HFN.out _).trans hf2 (fun _ _ h => h))
  clear hf2 CN
  cases x with
  | false =>
    go_wp2
    refine bodyPost_ret (v := .tuple #[.int .i64 2, .int .i64 d]) (by simp [results, Tryd.results47, go_sem]) rfl ⟨by rw [HO2.out]; simp, HF2.out⟩
  | true =>
    go_wp2
    refine bodyPost_ret (v := .tuple #[.int .i64 0, .int .i64 0]) (by simp [results, Tryd.results47, go_sem]) rfl ⟨by rw [HO2.out]; simp, HF2.out⟩

set_option maxRecDepth 100000 in
set_option maxHeartbeats 16000000 in
theorem rrefs_any (A : Option Addr) (n c : Nat) (ps : List VL) (F : Nat → Prop) (w : World) (h : Vs w A n ps F) (hn : n ≤ 5000000000000) (p : VL) (ok : p.ok) :
    Calls Tryd.prog 46 #[.slice A n c, p.val] w fun e w' => e = .returned (.bool (refsR (evs ps) p.e)) ∧ Fr (fun _ => False) w w' := by
  obtain ⟨g0, hg0⟩ : ∃ g0, w.heap.size = g0 := ⟨_, rfl⟩
  obtain ⟨W, hW⟩ : ∃ W, w.alloc (.cells p.cells.toArray 47) = W := ⟨_, rfl⟩
  have HFW : Hid (Fr (fun _ => False) w W) := Lib.hid (by rw [← hW]; exact (Fr.refl _ _).alloc _)
  have KW : Hid (Bk W g0 47 p.cells.toArray) := Lib.hid (by rw [← hW, ← hg0]; exact Bk.new _ _ _)
  have HV := Lib.hid (h.fr0 HFW.out)
  have CT := Lib.hid (rtask_any A n c ps F W HV.out hn)
  have CK := Lib.hid (fun w' (hf : Fr (fun _ => False) W w') => rkind_any A n c ps F w' (HV.out.fr0 hf) hn p.e.r ok.r)
  have CW := Lib.hid (fun w' (hf : Fr (fun _ => False) W w') => rworks_any A n c ps F w' (HV.out.fr0 hf) hn p.e.r)
  have CO := Lib.hid (fun w' (hf : Fr (fun _ => False) W w') (q : Int) (hq : N64 q) => ropen_any A n c ps F w' (HV.out.fr0 hf) hn q hq)
  have HREF : Hid (kindR (evs ps) p.e.r = 8 → ∃ (b off j : Nat) (q : Int), A = some ⟨b, off, none⟩ ∧ j < n ∧ p.e.r - 1 = (j : Int) ∧ refAt (evs ps) p.e.r = q ∧ N64 q ∧ ∀ w', Fr (fun _ => False) W w' → w'.cell? ⟨b, off + j * 7 + 2, none⟩ = some (.int .i64 q)) := Lib.hid (fun h8 => by
    have hr := kindR_rng (l := evs ps) (p := p.e.r) (by rw [h8]; decide)
    rw [evs_len HV.out] at hr
    have hj : (p.e.r - 1).toNat < n := by omega
    obtain ⟨b, off, e, -, hcs, hrd⟩ := HV.out.at hj
    have c2 := hcs 2 _ rfl
    refine ⟨b, off, (p.e.r - 1).toNat, _, e, hj, by omega, rfl, ?_, fun w' hf => ?_⟩
    · unfold refAt; rw [getD_evs (by rw [HV.out.len]; exact hj)]; exact hrd.ok.r
    · rw [hf.cell (World.block_lt_of_cell? W _ c2) (fun h => h), c2]
      unfold refAt; rw [getD_evs (by rw [HV.out.len]; exact hj)])
  have HRF : Hid (refsR (evs ps) p.e = if p.e.k = 3 then (taskR (evs ps)).1 == 1 && p.e.r == (taskR (evs ps)).2
    else if p.e.k = 4 ∨ p.e.k = 5 ∨ p.e.k = 6 then (taskR (evs ps)).1 == 2 && p.e.r == (taskR (evs ps)).2
    else if p.e.k = 8 then kindR (evs ps) p.e.r == 7 && worksR (evs ps) p.e.r == 0
    else if p.e.k = 9 ∨ p.e.k = 10 ∨ p.e.k = 11 then kindR (evs ps) p.e.r == 8 && openR (evs ps) (refAt (evs ps) p.e.r)
    else if p.e.k = 13 ∨ p.e.k = 14 then kindR (evs ps) p.e.r == 12 && openR (evs ps) p.e.r
    else if p.e.k = 18 then kindR (evs ps) p.e.r == 17 && openR (evs ps) p.e.r
    else p.e.r == 0) := Lib.hid rfl
  have HN1 := Lib.hid ok.r
  generalize refsR (evs ps) p.e = R at *
  generalize taskR (evs ps) = tk at *
  obtain ⟨how, at_⟩ := tk
  obtain ⟨⟨k, a, r, i, l, m, d⟩, eA, ec⟩ := p
  unfold VL.val VL.cells VL.bv at *
  simp only at *
  have HRR : Hid (-9223372036854775808 ≤ r ∧ r ≤ 9223372036854775807) := Lib.hid ⟨HN1.out.1, HN1.out.2⟩
  generalize kindR (evs ps) r = K at *
  generalize worksR (evs ps) r = wk at *
  clear h ok
  go_enter Tryd.func46, Tryd.ntmps46
  go_wp2_with fail
  clear hW hg0
  refine CT.out.mono ?_; rintro e w1 ⟨rfl, hf1⟩
  have HF1 := Lib.hid hf1
  have K1 := Lib.hid (KW.out.fr hf1 (fun h => h))
  clear hf1 CT KW
  have HR1 := Lib.hid (HFW.out.trans HF1.out (fun _ _ h => h))
  have CK1 := Lib.hid (CK.out w1 HF1.out)
  have CW1 := Lib.hid (CW.out w1 HF1.out)
  have CO1 := Lib.hid (fun q hq => CO.out w1 HF1.out q hq)
  have k0 : w1.cell? ⟨g0, 0, none⟩ = some (.int .i64 k) := K1.out.cell 0
  have k2 : w1.cell? ⟨g0, 2, none⟩ = some (.int .i64 r) := K1.out.cell 2
  clear CK CW CO K1
  by_cases hc : k = 3
  · have HR2 := Lib.hid (HRF.out.trans (if_pos hc))
    clear HRF
    have hk := hc
    clear hc
    first | (have d3 : (k == 3) = true := by (rw [hk]; rfl)) | (have d3 : (k == 3) = false := by (rw [hk]; rfl))
    first | (have d4 : (k == 4) = true := by (rw [hk]; rfl)) | (have d4 : (k == 4) = false := by (rw [hk]; rfl))
    first | (have d5 : (k == 5) = true := by (rw [hk]; rfl)) | (have d5 : (k == 5) = false := by (rw [hk]; rfl))
    first | (have d6 : (k == 6) = true := by (rw [hk]; rfl)) | (have d6 : (k == 6) = false := by (rw [hk]; rfl))
    first | (have d8 : (k == 8) = true := by (rw [hk]; rfl)) | (have d8 : (k == 8) = false := by (rw [hk]; rfl))
    first | (have d9 : (k == 9) = true := by (rw [hk]; rfl)) | (have d9 : (k == 9) = false := by (rw [hk]; rfl))
    first | (have d10 : (k == 10) = true := by (rw [hk]; rfl)) | (have d10 : (k == 10) = false := by (rw [hk]; rfl))
    first | (have d11 : (k == 11) = true := by (rw [hk]; rfl)) | (have d11 : (k == 11) = false := by (rw [hk]; rfl))
    first | (have d13 : (k == 13) = true := by (rw [hk]; rfl)) | (have d13 : (k == 13) = false := by (rw [hk]; rfl))
    first | (have d14 : (k == 14) = true := by (rw [hk]; rfl)) | (have d14 : (k == 14) = false := by (rw [hk]; rfl))
    first | (have d18 : (k == 18) = true := by (rw [hk]; rfl)) | (have d18 : (k == 18) = false := by (rw [hk]; rfl))
    clear hk
    by_cases hh : how = 1
    · have e0 : (how == 1) = true := by simpa using hh
      obtain ⟨y, hy⟩ : ∃ y, (r == at_) = y := ⟨_, rfl⟩
      rw [e0, hy] at HR2
      clear hh
      cases y <;>
      · go_wp2
        go_ret
        exact ⟨by rw [HR2.out]; rfl, HR1.out⟩
    · have e0 : (how == 1) = false := by simpa using hh
      rw [e0] at HR2
      clear hh
      go_wp2
      go_ret
      exact ⟨by rw [HR2.out]; rfl, HR1.out⟩
  have n0 := hc
  clear hc
  by_cases hc : k = 4 ∨ k = 5 ∨ k = 6
  · have HR2 := Lib.hid ((HRF.out.trans (if_neg n0)).trans (if_pos hc))
    clear HRF
    rcases hc with hk | hk | hk
    all_goals
      first | (have d3 : (k == 3) = true := by (rw [hk]; rfl)) | (have d3 : (k == 3) = false := by (rw [hk]; rfl))
      first | (have d4 : (k == 4) = true := by (rw [hk]; rfl)) | (have d4 : (k == 4) = false := by (rw [hk]; rfl))
      first | (have d5 : (k == 5) = true := by (rw [hk]; rfl)) | (have d5 : (k == 5) = false := by (rw [hk]; rfl))
      first | (have d6 : (k == 6) = true := by (rw [hk]; rfl)) | (have d6 : (k == 6) = false := by (rw [hk]; rfl))
      first | (have d8 : (k == 8) = true := by (rw [hk]; rfl)) | (have d8 : (k == 8) = false := by (rw [hk]; rfl))
      first | (have d9 : (k == 9) = true := by (rw [hk]; rfl)) | (have d9 : (k == 9) = false := by (rw [hk]; rfl))
      first | (have d10 : (k == 10) = true := by (rw [hk]; rfl)) | (have d10 : (k == 10) = false := by (rw [hk]; rfl))
      first | (have d11 : (k == 11) = true := by (rw [hk]; rfl)) | (have d11 : (k == 11) = false := by (rw [hk]; rfl))
      first | (have d13 : (k == 13) = true := by (rw [hk]; rfl)) | (have d13 : (k == 13) = false := by (rw [hk]; rfl))
      first | (have d14 : (k == 14) = true := by (rw [hk]; rfl)) | (have d14 : (k == 14) = false := by (rw [hk]; rfl))
      first | (have d18 : (k == 18) = true := by (rw [hk]; rfl)) | (have d18 : (k == 18) = false := by (rw [hk]; rfl))
      clear hk
      by_cases hh : how = 2
      · have e0 : (how == 2) = true := by simpa using hh
        obtain ⟨y, hy⟩ : ∃ y, (r == at_) = y := ⟨_, rfl⟩
        rw [e0, hy] at HR2
        clear hh
        cases y <;>
        · go_wp2
          go_ret
          exact ⟨by rw [HR2.out]; rfl, HR1.out⟩
      · have e0 : (how == 2) = false := by simpa using hh
        rw [e0] at HR2
        clear hh
        go_wp2
        go_ret
        exact ⟨by rw [HR2.out]; rfl, HR1.out⟩
  have n1 := hc
  clear hc
  by_cases hc : k = 8
  · have HR2 := Lib.hid (((HRF.out.trans (if_neg n0)).trans (if_neg n1)).trans (if_pos hc))
    clear HRF
    have hk := hc
    clear hc
    first | (have d3 : (k == 3) = true := by (rw [hk]; rfl)) | (have d3 : (k == 3) = false := by (rw [hk]; rfl))
    first | (have d4 : (k == 4) = true := by (rw [hk]; rfl)) | (have d4 : (k == 4) = false := by (rw [hk]; rfl))
    first | (have d5 : (k == 5) = true := by (rw [hk]; rfl)) | (have d5 : (k == 5) = false := by (rw [hk]; rfl))
    first | (have d6 : (k == 6) = true := by (rw [hk]; rfl)) | (have d6 : (k == 6) = false := by (rw [hk]; rfl))
    first | (have d8 : (k == 8) = true := by (rw [hk]; rfl)) | (have d8 : (k == 8) = false := by (rw [hk]; rfl))
    first | (have d9 : (k == 9) = true := by (rw [hk]; rfl)) | (have d9 : (k == 9) = false := by (rw [hk]; rfl))
    first | (have d10 : (k == 10) = true := by (rw [hk]; rfl)) | (have d10 : (k == 10) = false := by (rw [hk]; rfl))
    first | (have d11 : (k == 11) = true := by (rw [hk]; rfl)) | (have d11 : (k == 11) = false := by (rw [hk]; rfl))
    first | (have d13 : (k == 13) = true := by (rw [hk]; rfl)) | (have d13 : (k == 13) = false := by (rw [hk]; rfl))
    first | (have d14 : (k == 14) = true := by (rw [hk]; rfl)) | (have d14 : (k == 14) = false := by (rw [hk]; rfl))
    first | (have d18 : (k == 18) = true := by (rw [hk]; rfl)) | (have d18 : (k == 18) = false := by (rw [hk]; rfl))
    clear hk
    by_cases hh : K = 7
    · have e0 : (K == 7) = true := by simpa using hh
      rw [e0] at HR2
      clear hh
      obtain ⟨y, hy⟩ : ∃ y, (wk == 0) = y := ⟨_, rfl⟩
      rw [hy] at HR2
      go_wp2_with fail
      refine CK1.out.mono ?_; rintro e w2 ⟨rfl, rfl⟩
      go_wp2_with fail
      refine CW1.out.mono ?_; rintro e w2 ⟨rfl, rfl⟩
      cases y <;>
      · go_wp2
        go_ret
        exact ⟨by rw [HR2.out]; rfl, HR1.out⟩
    · have e0 : (K == 7) = false := by simpa using hh
      rw [e0] at HR2
      clear hh
      go_wp2_with fail
      refine CK1.out.mono ?_; rintro e w2 ⟨rfl, rfl⟩
      go_wp2
      go_ret
      exact ⟨by rw [HR2.out]; rfl, HR1.out⟩
  have n2 := hc
  clear hc
  by_cases hc : k = 9 ∨ k = 10 ∨ k = 11
  · have HR2 := Lib.hid ((((HRF.out.trans (if_neg n0)).trans (if_neg n1)).trans (if_neg n2)).trans (if_pos hc))
    clear HRF
    rcases hc with hk | hk | hk
    all_goals
      first | (have d3 : (k == 3) = true := by (rw [hk]; rfl)) | (have d3 : (k == 3) = false := by (rw [hk]; rfl))
      first | (have d4 : (k == 4) = true := by (rw [hk]; rfl)) | (have d4 : (k == 4) = false := by (rw [hk]; rfl))
      first | (have d5 : (k == 5) = true := by (rw [hk]; rfl)) | (have d5 : (k == 5) = false := by (rw [hk]; rfl))
      first | (have d6 : (k == 6) = true := by (rw [hk]; rfl)) | (have d6 : (k == 6) = false := by (rw [hk]; rfl))
      first | (have d8 : (k == 8) = true := by (rw [hk]; rfl)) | (have d8 : (k == 8) = false := by (rw [hk]; rfl))
      first | (have d9 : (k == 9) = true := by (rw [hk]; rfl)) | (have d9 : (k == 9) = false := by (rw [hk]; rfl))
      first | (have d10 : (k == 10) = true := by (rw [hk]; rfl)) | (have d10 : (k == 10) = false := by (rw [hk]; rfl))
      first | (have d11 : (k == 11) = true := by (rw [hk]; rfl)) | (have d11 : (k == 11) = false := by (rw [hk]; rfl))
      first | (have d13 : (k == 13) = true := by (rw [hk]; rfl)) | (have d13 : (k == 13) = false := by (rw [hk]; rfl))
      first | (have d14 : (k == 14) = true := by (rw [hk]; rfl)) | (have d14 : (k == 14) = false := by (rw [hk]; rfl))
      first | (have d18 : (k == 18) = true := by (rw [hk]; rfl)) | (have d18 : (k == 18) = false := by (rw [hk]; rfl))
      clear hk
      by_cases hh : K = 8
      · have e0 : (K == 8) = true := by simpa using hh
        rw [e0] at HR2
        obtain ⟨b, off, j, q, hA, hj, hrj, hq, hqn, hqc⟩ := HREF.out hh
        rw [hq] at HR2
        have CX := Lib.hid (CO1.out q hqn)
        obtain ⟨y, hy⟩ : ∃ y, openR (evs ps) q = y := ⟨_, rfl⟩
        rw [hy] at HR2 CX
        have HRR2 := HRR.out
        have w9 : IntKind.i64.wrap (r - 1) = (j : Int) := by rw [IntWalk.i64_in _ (by omega)]; exact hrj
        have hj0 : (0 : Int) ≤ (j : Int) := by omega
        have hjn : (j : Int) < (n : Int) := by omega
        have c2 := hqc w1 HF1.out
        subst hA
        clear hh hy hq hqn hqc hrj hj HRR2
        go_wp2_with fail
        refine CK1.out.mono ?_; rintro e w2 ⟨rfl, rfl⟩
        go_wp2_with fail
        refine CX.out.mono ?_; rintro e w2 ⟨rfl, hf2⟩
        have HF2 := Lib.hid (HR1.out.trans hf2 (fun _ _ h => h))
        clear hf2 CX
        cases y <;>
        · go_wp2
          go_ret
          exact ⟨by rw [HR2.out]; rfl, HF2.out⟩
      · have e0 : (K == 8) = false := by simpa using hh
        rw [e0] at HR2
        clear hh
        go_wp2_with fail
        refine CK1.out.mono ?_; rintro e w2 ⟨rfl, rfl⟩
        go_wp2
        go_ret
        exact ⟨by rw [HR2.out]; rfl, HR1.out⟩
  have n3 := hc
  clear hc
  by_cases hc : k = 13 ∨ k = 14
  · have HR2 := Lib.hid (((((HRF.out.trans (if_neg n0)).trans (if_neg n1)).trans (if_neg n2)).trans (if_neg n3)).trans (if_pos hc))
    clear HRF
    rcases hc with hk | hk
    all_goals
      first | (have d3 : (k == 3) = true := by (rw [hk]; rfl)) | (have d3 : (k == 3) = false := by (rw [hk]; rfl))
      first | (have d4 : (k == 4) = true := by (rw [hk]; rfl)) | (have d4 : (k == 4) = false := by (rw [hk]; rfl))
      first | (have d5 : (k == 5) = true := by (rw [hk]; rfl)) | (have d5 : (k == 5) = false := by (rw [hk]; rfl))
      first | (have d6 : (k == 6) = true := by (rw [hk]; rfl)) | (have d6 : (k == 6) = false := by (rw [hk]; rfl))
      first | (have d8 : (k == 8) = true := by (rw [hk]; rfl)) | (have d8 : (k == 8) = false := by (rw [hk]; rfl))
      first | (have d9 : (k == 9) = true := by (rw [hk]; rfl)) | (have d9 : (k == 9) = false := by (rw [hk]; rfl))
      first | (have d10 : (k == 10) = true := by (rw [hk]; rfl)) | (have d10 : (k == 10) = false := by (rw [hk]; rfl))
      first | (have d11 : (k == 11) = true := by (rw [hk]; rfl)) | (have d11 : (k == 11) = false := by (rw [hk]; rfl))
      first | (have d13 : (k == 13) = true := by (rw [hk]; rfl)) | (have d13 : (k == 13) = false := by (rw [hk]; rfl))
      first | (have d14 : (k == 14) = true := by (rw [hk]; rfl)) | (have d14 : (k == 14) = false := by (rw [hk]; rfl))
      first | (have d18 : (k == 18) = true := by (rw [hk]; rfl)) | (have d18 : (k == 18) = false := by (rw [hk]; rfl))
      clear hk
      by_cases hh : K = 12
      · have e0 : (K == 12) = true := by simpa using hh
        rw [e0] at HR2
        clear hh
        have CX := Lib.hid (CO1.out r HN1.out)
        obtain ⟨y, hy⟩ : ∃ y, openR (evs ps) r = y := ⟨_, rfl⟩
        rw [hy] at HR2 CX
        clear hy
        go_wp2_with fail
        refine CK1.out.mono ?_; rintro e w2 ⟨rfl, rfl⟩
        go_wp2_with fail
        refine CX.out.mono ?_; rintro e w2 ⟨rfl, hf2⟩
        have HF2 := Lib.hid (HR1.out.trans hf2 (fun _ _ h => h))
        clear hf2 CX
        cases y <;>
        · go_wp2
          go_ret
          exact ⟨by rw [HR2.out]; rfl, HF2.out⟩
      · have e0 : (K == 12) = false := by simpa using hh
        rw [e0] at HR2
        clear hh
        go_wp2_with fail
        refine CK1.out.mono ?_; rintro e w2 ⟨rfl, rfl⟩
        go_wp2
        go_ret
        exact ⟨by rw [HR2.out]; rfl, HR1.out⟩
  have n4 := hc
  clear hc
  by_cases hc : k = 18
  · have HR2 := Lib.hid ((((((HRF.out.trans (if_neg n0)).trans (if_neg n1)).trans (if_neg n2)).trans (if_neg n3)).trans (if_neg n4)).trans (if_pos hc))
    clear HRF
    have hk := hc
    clear hc
    first | (have d3 : (k == 3) = true := by (rw [hk]; rfl)) | (have d3 : (k == 3) = false := by (rw [hk]; rfl))
    first | (have d4 : (k == 4) = true := by (rw [hk]; rfl)) | (have d4 : (k == 4) = false := by (rw [hk]; rfl))
    first | (have d5 : (k == 5) = true := by (rw [hk]; rfl)) | (have d5 : (k == 5) = false := by (rw [hk]; rfl))
    first | (have d6 : (k == 6) = true := by (rw [hk]; rfl)) | (have d6 : (k == 6) = false := by (rw [hk]; rfl))
    first | (have d8 : (k == 8) = true := by (rw [hk]; rfl)) | (have d8 : (k == 8) = false := by (rw [hk]; rfl))
    first | (have d9 : (k == 9) = true := by (rw [hk]; rfl)) | (have d9 : (k == 9) = false := by (rw [hk]; rfl))
    first | (have d10 : (k == 10) = true := by (rw [hk]; rfl)) | (have d10 : (k == 10) = false := by (rw [hk]; rfl))
    first | (have d11 : (k == 11) = true := by (rw [hk]; rfl)) | (have d11 : (k == 11) = false := by (rw [hk]; rfl))
    first | (have d13 : (k == 13) = true := by (rw [hk]; rfl)) | (have d13 : (k == 13) = false := by (rw [hk]; rfl))
    first | (have d14 : (k == 14) = true := by (rw [hk]; rfl)) | (have d14 : (k == 14) = false := by (rw [hk]; rfl))
    first | (have d18 : (k == 18) = true := by (rw [hk]; rfl)) | (have d18 : (k == 18) = false := by (rw [hk]; rfl))
    clear hk
    by_cases hh : K = 17
    · have e0 : (K == 17) = true := by simpa using hh
      rw [e0] at HR2
      clear hh
      have CX := Lib.hid (CO1.out r HN1.out)
      obtain ⟨y, hy⟩ : ∃ y, openR (evs ps) r = y := ⟨_, rfl⟩
      rw [hy] at HR2 CX
      clear hy
      go_wp2_with fail
      refine CK1.out.mono ?_; rintro e w2 ⟨rfl, rfl⟩
      go_wp2_with fail
      refine CX.out.mono ?_; rintro e w2 ⟨rfl, hf2⟩
      have HF2 := Lib.hid (HR1.out.trans hf2 (fun _ _ h => h))
      clear hf2 CX
      cases y <;>
      · go_wp2
        go_ret
        exact ⟨by rw [HR2.out]; rfl, HF2.out⟩
    · have e0 : (K == 17) = false := by simpa using hh
      rw [e0] at HR2
      clear hh
      go_wp2_with fail
      refine CK1.out.mono ?_; rintro e w2 ⟨rfl, rfl⟩
      go_wp2
      go_ret
      exact ⟨by rw [HR2.out]; rfl, HR1.out⟩
  have n5 := hc
  clear hc
  have HR2 := Lib.hid (((((((HRF.out.trans (if_neg n0)).trans (if_neg n1)).trans (if_neg n2)).trans (if_neg n3)).trans (if_neg n4)).trans (if_neg n5)))
  have d3 : (k == 3) = false := by simp; omega
  have d4 : (k == 4) = false := by simp; omega
  have d5 : (k == 5) = false := by simp; omega
  have d6 : (k == 6) = false := by simp; omega
  have d8 : (k == 8) = false := by simp; omega
  have d9 : (k == 9) = false := by simp; omega
  have d10 : (k == 10) = false := by simp; omega
  have d11 : (k == 11) = false := by simp; omega
  have d13 : (k == 13) = false := by simp; omega
  have d14 : (k == 14) = false := by simp; omega
  have d18 : (k == 18) = false := by simp; omega
  clear n0 n1 n2 n3 n4 n5 HRF
  obtain ⟨y, hy⟩ : ∃ y, (r == 0) = y := ⟨_, rfl⟩
  rw [hy] at HR2
  cases y <;>
  · go_wp2
    go_ret
    exact ⟨by rw [HR2.out]; rfl, HR1.out⟩
end Go.Proofs.YtbopmboigcdjpaaDoor
