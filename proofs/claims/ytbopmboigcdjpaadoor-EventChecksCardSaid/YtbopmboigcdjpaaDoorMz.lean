/- EventChecks, the walk. -/
import Derived.Test.YtbopmboigcdjpaaDoorMz2
import Derived.Test.YtbopmboigcdjpaaDoorMz3
import Derived.Test.YtbopmboigcdjpaaDoorMm
namespace Go.Proofs.YtbopmboigcdjpaaDoor
open Go.RowKit Go.Maps

theorem check_pos : ∀ (m : List Ev) (b : Bo) (a c : Nat), b.check m = some (a, c) → b.count + 1 ≤ a ∧ a ≤ b.count + m.length
  | [], b, a, c, h => by unfold Bo.check at h; cases h
  | e :: m, b, a, c, h => by
    unfold Bo.check at h
    split at h
    · injection h with h
      injection h with h1 h2
      subst h1
      simp
    · have := check_pos m (b.add e) a c h
      have e : (b.add e).count = b.count + 1 := rfl
      simp only [List.length_cons]
      omega
set_option maxRecDepth 100000 in
set_option maxHeartbeats 4000000 in
theorem ints2_any (v : Value) (B : Option Addr) (n cap2 : Nat) (zs : List Int) (w : World) (h : IdR w v zs) (h2 : Row w 3 1 (.slice B n cap2) n (zs.map IV)) (hn : zs.length = n) (hl : n ≤ 1048576) : Calls Tryd.prog 15 #[v, .slice B n cap2] w fun e w' => e = .returned (.bool true) ∧ Fr (fun _ => False) w w' := by
  obtain ⟨A, cap, rfl, hc⟩ := h
  have HC : Hid (∀ k, k < n → ∃ d d2 o2 x, A = some ⟨d, 0, none⟩ ∧ B = some ⟨d2, o2, none⟩ ∧ w.cell? ⟨d, k, none⟩ = some (.int .i64 x) ∧ w.cell? ⟨d2, o2 + k, none⟩ = some (.int .i64 x)) := Lib.hid (fun k hk => by
    obtain ⟨d, e, hcc⟩ := hc (by omega)
    obtain ⟨A', c', e1, _, _, hA⟩ := h2.form
    injection e1 with e1 _ _
    subst e1
    obtain ⟨d2, o2, rfl⟩ := hA (by omega)
    exact ⟨d, d2, o2, zs[k], e, rfl, hcc k (by omega), h2.cell (by simp [IV, List.getElem?_eq_getElem (show k < zs.length by omega)])⟩)
  rw [hn]
  have hnI : (n : Int) ≤ 1048576 := by omega
  have d0 : ((n : Int) != (n : Int)) = false := by simp
  clear hc h2 hn
  go_enter Tryd.func15, Tryd.ntmps15
  go_wp2_with fail
  go_loopw [5] (fun i wr => ∃ (k : Nat), i = .int .i64 (k : Int) ∧ k ≤ n ∧ Hid (∃ m, wr = w.drewN m)) (fun i _ => n - (intOf i).toNat)
  case atStart => exact ⟨0, rfl, by omega, ⟨0, rfl⟩⟩
  case round =>
    obtain ⟨k, rfl, hkn, HW⟩ := hrel
    have hk0 : (0 : Int) ≤ (k : Int) := by omega
    by_cases hlt : k < n
    · have hlt' : (k : Int) < n := by omega
      obtain ⟨d, d2, o2, x, rfl, rfl, cx, cy⟩ := HC.out k hlt
      have w2 : IntKind.i64.wrap ((k : Int) + 1) = (k : Int) + 1 := IntWalk.i64_in _ (by omega)
      have cx' : ∀ q, (wr.drewN q).cell? ⟨d, k, none⟩ = some (.int .i64 x) := fun _ => by obtain ⟨m, e⟩ := HW.out; subst e; exact cx
      have cy' : ∀ q, (wr.drewN q).cell? ⟨d2, o2 + k, none⟩ = some (.int .i64 x) := fun _ => by obtain ⟨m, e⟩ := HW.out; subst e; exact cy
      clear cx cy
      go_wp2_with fail
      go_quiet (fail)
      go_wp2
      go_roundw
      case rel => exact ⟨k + 1, by first | rfl | (go_num; done) | (congr 1; omega), by omega, by obtain ⟨m, e⟩ := HW.out; exact ⟨m + nq, by rw [e]; simp [World.drewN, Nat.add_assoc]⟩⟩
      case measure => (simp [intOf]) <;> omega
    · have hlt' : ¬ (k : Int) < (n : Int) := by omega
      clear hlt
      go_wp2
      go_ret
      obtain ⟨m, e⟩ := HW.out
      exact ⟨rfl, by rw [e]; exact (Fr.refl _ _).drewN _⟩

set_option maxRecDepth 100000 in
set_option maxHeartbeats 8000000 in
theorem checks_any (A : Option Addr) (n c : Nat) (ps : List VL) (w : World) (hE : ErrT w) (hT : NamT w) (hv : Vs w A n ps (fun k => k < w.heap.size)) (hnc : n ≤ c) (hc : c ≤ maxLen) (hn : n ≤ 4398046511104) :
    Calls Tryd.prog 3 #[.slice A n c] w fun e w' => e = .returned (.bool true) ∧ Fr (fun _ => False) w w' := by
  have CK := Lib.hid (known_any w hE hT)
  have HEE := Lib.hid hE
  have HV0 := Lib.hid hv
  have CF := Lib.hid (fun w' (hf : Fr (fun _ => False) w w') => few_any A n c ps _ w' (HV0.out.fr0 hf) (by omega))
  have HNC := Lib.hid (And.intro hnc hc)
  have hnI : (n : Int) ≤ 4398046511104 := by omega
  have HSAME := Lib.hid (check_same (evs ps) (evs ps) [] Bo.new (by simp) Hist.nil)
  have HEL := Lib.hid (evs_len hv)
  clear hE hT hv hn hnc hc
  go_enter Tryd.func3, Tryd.ntmps3
  go_wp2_with fail
  refine CK.out.mono ?_; rintro e w1 ⟨rfl, hf1⟩
  have HF1 := Lib.hid hf1
  clear hf1 CK
  go_wp2_with fail
  refine (CF.out _ HF1.out).mono ?_; rintro e w2 ⟨q, rfl, hq, rfl⟩
  clear CF
  cases q with
  | false =>
    go_wp2
    go_ret
    exact ⟨rfl, HF1.out⟩
  | true =>
    have hn120 : n ≤ 120 := hq rfl
    clear hq
    have CR := Lib.hid (rcheck_any A n c ps _ w1 (HV0.out.fr0 HF1.out) HNC.out.1 HNC.out.2 (by omega))
    have hsame : Bo.new.check (evs ps) = refCheck (evs ps) 0 (evs ps) := HSAME.out
    rw [← hsame] at CR
    clear hsame HSAME
    go_wp2_with fail
    refine CR.out.mono ?_; rintro e w3 ⟨rfl, hf3⟩
    have HF3 := Lib.hid (HF1.out.trans hf3 (fun _ _ h => h))
    clear hf3 CR HF1
    have CC := Lib.hid (check_any A n c ps _ w3 (HV0.out.fr0 HF3.out) (by omega))
    go_wp2_with fail
    refine CC.out.mono ?_; rintro e wz ⟨v, rfl, hbk, hfz⟩
    have HFZ := Lib.hid (HF3.out.trans hfz (fun _ _ h => h))
    have HZ3 := Lib.hid hfz
    clear hfz CC
    unfold BrkE at hbk
    cases hck : Bo.new.check (evs ps) with
    | none =>
      rw [hck] at hbk
      simp only at hbk
      subst hbk
      have HCK := Lib.hid hck
      clear hck HZ3 HF3
      have HVW := Lib.hid (fun w' (hf : Fr (fun _ => False) wz w') => HV0.out.fr0 (HFZ.out.trans hf (fun _ _ h => h)))
      have CS := Lib.hid (fun w' (hf : Fr (fun _ => False) wz w') => status_any A n c ps _ w' (HVW.out w' hf) (by omega))
      have CT := Lib.hid (fun w' (hf : Fr (fun _ => False) wz w') => rstatus_any A n c ps _ w' (HVW.out w' hf) (by omega))
      have CO := Lib.hid (fun w' (hf : Fr (fun _ => False) wz w') => open_any A n c ps _ w' (HVW.out w' hf) (by omega))
      have CL := Lib.hid (fun (K : Int) w' (hf : Fr (fun _ => False) wz w') => ropenl_any A n c ps _ K w' (HVW.out w' hf) (by omega))
      obtain ⟨st, hst⟩ : ∃ st, statusL (evs ps) = st := ⟨_, rfl⟩
      rw [hst] at CS CT
      have dst : (st != st) = false := by simp
      have h0 : wordW (cdO none) = ⟨#[]⟩ := rfl
      have h1 : atO none = 0 := rfl
      rw [h0, h1]
      obtain ⟨W2, hW2⟩ : ∃ W2, wz.alloc (.cells #[.pointer none] 30) = W2 := ⟨_, rfl⟩
      have F2 : Hid (Fr (fun _ => False) wz W2) := Lib.hid (by rw [← hW2]; exact (Fr.refl _ _).alloc _)
      clear hst h0 h1
      go_wp2_with fail
      clear hW2
      refine (CS.out _ F2.out).mono ?_; rintro e w5 ⟨rfl, rfl⟩
      go_wp2_with fail
      refine (CT.out _ F2.out).mono ?_; rintro e w5 ⟨rfl, rfl⟩
      clear CS CT
      go_wp2_with fail
      refine (CO.out _ F2.out).mono ?_; rintro e w5 ⟨va, vt, vc, za, zt, zc, rfl, ia, it, ic, ra, rt, rc, hf5⟩
      have LA := Lib.hid (openL_ids HCK.out (by decide) ia)
      have LT := Lib.hid (openL_ids HCK.out (by decide) it)
      have LC := Lib.hid (openL_ids HCK.out (by decide) ic)
      rw [HEL.out] at LA LT LC
      have HZA : Hid (za.length ≤ 120) := Lib.hid (by rw [← LA.out]; have := openL_len (evs ps) 7 n; omega)
      have HZT : Hid (zt.length ≤ 120) := Lib.hid (by rw [← LT.out]; have := openL_len (evs ps) 12 n; omega)
      have HZC : Hid (zc.length ≤ 120) := Lib.hid (by rw [← LC.out]; have := openL_len (evs ps) 17 n; omega)
      have HRA := Lib.hid ra
      have HRT := Lib.hid rt
      have HRC := Lib.hid rc
      have HF5 := Lib.hid (F2.out.trans hf5 (fun _ _ h => h))
      have H55 := Lib.hid (Fr.refl (fun _ => False) w5)
      clear ia it ic ra rt rc hf5 CO F2
      go_wp2_with fail
      refine (CL.out 7 _ (HF5.out.trans H55.out (fun _ _ h => h))).mono ?_; rintro e xA ⟨A9A, c9A, mA, rfl, hmA, hnA⟩
      rw [LA.out] at hmA hnA
      have EA := Lib.hid (H55.out.trans hnA.fr (fun _ _ h => h))
      have CIA := Lib.hid (ints2_any va A9A mA c9A za xA (HRA.out.fr0 EA.out) hnA.row hmA (by have := HZA.out; omega))
      clear hmA hnA
      go_wp2_with fail
      refine CIA.out.mono ?_; rintro e yA ⟨rfl, hfA⟩
      have GA := Lib.hid (EA.out.trans hfA (fun _ _ h => h))
      clear hfA CIA EA
      go_wp2_with fail
      refine (CL.out 12 _ (HF5.out.trans GA.out (fun _ _ h => h))).mono ?_; rintro e xT ⟨A9T, c9T, mT, rfl, hmT, hnT⟩
      rw [LT.out] at hmT hnT
      have ET := Lib.hid (GA.out.trans hnT.fr (fun _ _ h => h))
      have CIT := Lib.hid (ints2_any vt A9T mT c9T zt xT (HRT.out.fr0 ET.out) hnT.row hmT (by have := HZT.out; omega))
      clear hmT hnT
      go_wp2_with fail
      refine CIT.out.mono ?_; rintro e yT ⟨rfl, hfT⟩
      have GT := Lib.hid (ET.out.trans hfT (fun _ _ h => h))
      clear hfT CIT ET
      go_wp2_with fail
      refine (CL.out 17 _ (HF5.out.trans GT.out (fun _ _ h => h))).mono ?_; rintro e xC ⟨A9C, c9C, mC, rfl, hmC, hnC⟩
      rw [LC.out] at hmC hnC
      have EC := Lib.hid (GT.out.trans hnC.fr (fun _ _ h => h))
      have CIC := Lib.hid (ints2_any vc A9C mC c9C zc xC (HRC.out.fr0 EC.out) hnC.row hmC (by have := HZC.out; omega))
      clear hmC hnC
      go_wp2_with fail
      refine CIC.out.mono ?_; rintro e yC ⟨rfl, hfC⟩
      have GC := Lib.hid (EC.out.trans hfC (fun _ _ h => h))
      clear hfC CIC EC
      go_wp2
      go_ret
      exact ⟨rfl, (HFZ.out.trans HF5.out (fun _ _ h => h)).trans GC.out (fun _ _ h => h)⟩
    | some x =>
      rw [hck] at hbk
      obtain ⟨a, cd⟩ := x
      have hpos := check_pos _ _ _ _ hck
      have hnew : Bo.new.count = 0 := rfl
      rw [HEL.out, hnew] at hpos
      obtain ⟨gB, rfl, hbB, hlB⟩ := hbk
      have HB := Lib.hid hbB
      have h0 : cdO (some (a, cd)) = cd := rfl
      have h1 : atO (some (a, cd)) = a := rfl
      rw [h0, h1]
      obtain ⟨j, hj⟩ : ∃ j, a = j + 1 := ⟨a - 1, by omega⟩
      have hjn : j < n := by omega
      have haI : (a : Int) ≤ 120 := by omega
      have ha0 : ((a : Int) == 0) = false := by simp; omega
      have wj : IntKind.i64.wrap ((a : Int) - 1) = (j : Int) := by rw [IntWalk.i64_in _ (by omega)]; omega
      have hj0 : (0 : Int) ≤ (j : Int) := by omega
      have hjI : (j : Int) < (n : Int) := by omega
      generalize wordW cd = s at *
      obtain ⟨gt, hgt⟩ : ∃ gt, wz.heap.size = gt := ⟨_, rfl⟩
      obtain ⟨W2, hW2⟩ : ∃ W2, wz.alloc (.cells #[.pointer none] 30) = W2 := ⟨_, rfl⟩
      have KT : Hid (Bk W2 gt 30 #[.pointer none]) := Lib.hid (by rw [← hW2, ← hgt]; exact Bk.new _ _ _)
      have F2 : Hid (Fr (fun _ => False) wz W2) := Lib.hid (by rw [← hW2]; exact (Fr.refl _ _).alloc _)
      have HGT : Hid (gB < gt ∧ w.heap.size ≤ gt) := Lib.hid (by have := hbB.lt; have h2 := HFZ.out.size; exact ⟨by omega, by omega⟩)
      have HB2 := Lib.hid (HB.out.fr F2.out (fun h => h))
      have CA := Lib.hid (as_broken ⟨gt, 0, none⟩ ⟨gB, 0, none⟩ (.pointer none) W2 ((HEE.out.fr HFZ.out (fun h => h)).fr F2.out (fun h => h)) (KT.out.cell 0) (KT.out.frozen 0))
      clear hck hbB hlB hpos hnew h0 h1 hj
      go_wp2_with fail
      clear hW2 hgt
      refine CA.out.mono ?_; rintro e w4 ⟨rfl, hf4, hc4⟩
      have HF4 : Hid (Fr (fun _ => False) w w4) := Lib.hid ((HFZ.out.trans F2.out (fun _ _ h => h)).trans hf4 (fun x hx e => by have h1 := HGT.out.2; have e' : x = gt := e; omega))
      have HB4 := Lib.hid (HB2.out.fr hf4 (fun e => by have := HGT.out.1; have e' : gB = gt := e; omega))
      clear hf4 CA KT
      have b0 : w4.cell? ⟨gB, 0, none⟩ = some (.int .i64 (a : Int)) := HB4.out.cell 0
      have b1 : w4.cell? ⟨gB, 1, none⟩ = some (.string s) := HB4.out.cell 1
      have CI := Lib.hid (is_brk_any gB 8 8 w4 (HB4.out.cell 2))
      have da : ((a : Int) != (a : Int)) = false := by simp
      have ds : (!(s.toList == s.toList)) = false := by simp
      have ds2 : (s.toList == s.toList) = true := by simp
      go_wp2_with fail
      refine CI.out.mono ?_; rintro e w5 ⟨rfl, rfl⟩
      clear CI b0 b1 hc4
      have HV := Lib.hid (HV0.out.fr0 HF4.out)
      obtain ⟨b, off, rfl, -, hcs, hrd⟩ := HV.out.at hjn
      have CX := Lib.hid (fun w' => right_any (ps.getD j default) w')
      have CZ := Lib.hid (fun w' => rright_any (ps.getD j default) w')
      generalize ps.getD j default = p at *
      have hpv : p.val = .agg #[.int .i64 p.e.k, .int .i64 p.e.a, .int .i64 p.e.r, .int .i64 p.e.i, .int .i64 p.e.l, .int .i64 p.e.n, .slice p.A p.e.d.length p.c] := rfl
      rw [hpv] at CX CZ
      have hbsz := World.block_lt_of_cell? w4 _ (hcs 0 _ rfl)
      have HQ : Hid (∀ w', Fr (fun _ => False) w4 w' → w'.cell? ⟨b, off + j * 7, none⟩ = some (.int .i64 p.e.k) ∧ w'.cell? ⟨b, off + j * 7 + 1, none⟩ = some (.int .i64 p.e.a) ∧ w'.cell? ⟨b, off + j * 7 + 2, none⟩ = some (.int .i64 p.e.r) ∧ w'.cell? ⟨b, off + j * 7 + 3, none⟩ = some (.int .i64 p.e.i) ∧ w'.cell? ⟨b, off + j * 7 + 4, none⟩ = some (.int .i64 p.e.l) ∧ w'.cell? ⟨b, off + j * 7 + 5, none⟩ = some (.int .i64 p.e.n) ∧ w'.cell? ⟨b, off + j * 7 + 6, none⟩ = some (.slice p.A p.e.d.length p.c)) := Lib.hid (fun w' hf => by
        have e : ∀ i u, p.cells[i]? = some u → w'.cell? ⟨b, off + j * 7 + i, none⟩ = some u := fun i u hu => by
          rw [hf.cell (p := ⟨b, off + j * 7 + i, none⟩) hbsz (fun h => h)]; exact hcs i u hu
        exact ⟨e 0 _ rfl, e 1 _ rfl, e 2 _ rfl, e 3 _ rfl, e 4 _ rfl, e 5 _ rfl, e 6 _ rfl⟩)
      obtain ⟨rt, hrt⟩ : ∃ rt, p.e.right = rt := ⟨_, rfl⟩
      rw [hrt] at CX CZ
      generalize p.e.k = ek at *
      generalize p.e.a = ea at *
      generalize p.e.r = er at *
      generalize p.e.i = ei at *
      generalize p.e.l = el at *
      generalize p.e.n = en at *
      generalize p.e.d.length = ed at *
      generalize p.A = pA at *
      generalize p.c = pc at *
      clear hcs hrd hpv hrt HV hbsz da ds ds2 ha0
      go_wp2_with fail
      refine wp_region_held_drew (S := (fun w' => Fr (fun _ => False) w4 w')) (by kernel_rfl) ((Fr.refl _ _).drew) (fun hHeld => ?_)
      refine wpAnyH_takeD (i := 0) (v := ?_) (some 85) rfl rfl (by kernel_rfl) (by kernel_rfl) (by kernel_rfl) (fun _ _ _ h => h) (Or.inl ⟨by rfl, ?_⟩) (by assumption) ?_
      rotate_left
      · intro w' hSw
        go_simp
        first | done | with_reducible rfl
      try simp only [Go.Act.put, List.setIfInBounds_toArray, List.set_cons_zero, List.set_cons_succ]
      refine wpAnyH_takeD (i := 1) (v := ?_) (some 86) rfl rfl (by kernel_rfl) (by kernel_rfl) (by kernel_rfl) (fun _ _ _ h => h) (Or.inl ⟨by rfl, ?_⟩) (by assumption) ?_
      rotate_left
      · intro w' hSw
        go_simp
        first | done | with_reducible rfl
      try simp only [Go.Act.put, List.setIfInBounds_toArray, List.set_cons_zero, List.set_cons_succ]
      refine wpAnyH_takeD (i := 2) (v := ?_) (some 87) rfl rfl (by kernel_rfl) (by kernel_rfl) (by kernel_rfl) (fun _ _ _ h => h) (Or.inl ⟨by rfl, ?_⟩) (by assumption) ?_
      rotate_left
      · intro w' hSw
        go_simp
        first | done | with_reducible rfl
      try simp only [Go.Act.put, List.setIfInBounds_toArray, List.set_cons_zero, List.set_cons_succ]
      refine wpAnyH_takeD (i := 3) (v := ?_) (some 88) rfl rfl (by kernel_rfl) (by kernel_rfl) (by kernel_rfl) (fun _ _ _ h => h) (Or.inl ⟨by rfl, ?_⟩) (by assumption) ?_
      rotate_left
      · intro w' hSw
        go_simp
        first | done | with_reducible rfl
      try simp only [Go.Act.put, List.setIfInBounds_toArray, List.set_cons_zero, List.set_cons_succ]
      refine wpAnyH_takeD (i := 4) (v := ?_) (some 89) rfl rfl (by kernel_rfl) (by kernel_rfl) (by kernel_rfl) (fun _ _ _ h => h) (Or.inl ⟨by rfl, ?_⟩) (by assumption) ?_
      rotate_left
      · intro w' hSw
        obtain ⟨q0, q1, q2, q3, q4, q5, q6⟩ := HQ.out w' hSw
        go_simp
        first | done | with_reducible rfl
      try simp only [Go.Act.put, List.setIfInBounds_toArray, List.set_cons_zero, List.set_cons_succ]
      refine wpAnyH_takeD (i := 6) (v := ?_) (some 91) rfl rfl (by kernel_rfl) (by kernel_rfl) (by kernel_rfl) (fun _ _ _ h => h) (Or.inl ⟨by rfl, ?_⟩) (by assumption) ?_
      rotate_left
      · intro w' hSw
        go_simp
        first | done | with_reducible rfl
      try simp only [Go.Act.put, List.setIfInBounds_toArray, List.set_cons_zero, List.set_cons_succ]
      refine wpAnyH_takeD (i := 7) (v := ?_) (some 92) rfl rfl (by kernel_rfl) (by kernel_rfl) (by kernel_rfl) (fun _ _ _ h => h) (Or.inl ⟨by rfl, ?_⟩) (by assumption) ?_
      rotate_left
      · intro w' hSw
        go_simp
        first | done | with_reducible rfl
      try simp only [Go.Act.put, List.setIfInBounds_toArray, List.set_cons_zero, List.set_cons_succ]
      refine wpAnyH_takeD (i := 8) (v := ?_) (some 93) rfl rfl (by kernel_rfl) (by kernel_rfl) (by kernel_rfl) (fun _ _ _ h => h) (Or.inl ⟨by rfl, ?_⟩) (by assumption) ?_
      rotate_left
      · intro w' hSw
        go_simp
        first | done | with_reducible rfl
      try simp only [Go.Act.put, List.setIfInBounds_toArray, List.set_cons_zero, List.set_cons_succ]
      refine wpAnyH_takeD (i := 9) (v := ?_) (some 94) rfl rfl (by kernel_rfl) (by kernel_rfl) (by kernel_rfl) (fun _ _ _ h => h) (Or.inl ⟨by rfl, ?_⟩) (by assumption) ?_
      rotate_left
      · intro w' hSw
        go_simp
        first | done | with_reducible rfl
      try simp only [Go.Act.put, List.setIfInBounds_toArray, List.set_cons_zero, List.set_cons_succ]
      refine wpAnyH_takeD (i := 10) (v := ?_) (some 95) rfl rfl (by kernel_rfl) (by kernel_rfl) (by kernel_rfl) (fun _ _ _ h => h) (Or.inl ⟨by rfl, ?_⟩) (by assumption) ?_
      rotate_left
      · intro w' hSw
        obtain ⟨q0, q1, q2, q3, q4, q5, q6⟩ := HQ.out w' hSw
        go_simp
        first | done | with_reducible rfl
      try simp only [Go.Act.put, List.setIfInBounds_toArray, List.set_cons_zero, List.set_cons_succ]
      refine wpAnyH_ready (rs := [5]) (by kernel_rfl) (by simp) ?_
      refine AllReadyH.cons rfl (fun K hK => ?_) AllReadyH.nil
      go_simp
      refine (CX.out _).mono ?_; rintro e w7 ⟨rfl, hf7⟩
      have HF7 := Lib.hid (hHeld.trans hf7 (fun _ _ h => h))
      clear hf7
      try go_simp
      refine hK.out _ _ (HF7.out) (fun hHeld => ?_)
      clear hK K
      try change wpAnyH _ _ _ _ _ _ _ (Go.Act.put _ (some 90) _) _
      try simp only [Go.Act.put, List.setIfInBounds_toArray, List.set_cons_zero, List.set_cons_succ]
      refine wpAnyH_ready (rs := [11]) (by kernel_rfl) (by simp) ?_
      refine AllReadyH.cons rfl (fun K hK => ?_) AllReadyH.nil
      go_simp
      refine (CZ.out _).mono ?_; rintro e w7 ⟨rfl, hf7⟩
      have HF7 := Lib.hid (hHeld.trans hf7 (fun _ _ h => h))
      clear hf7
      try go_simp
      refine hK.out _ _ (HF7.out) (fun hHeld => ?_)
      clear hK K
      try change wpAnyH _ _ _ _ _ _ _ (Go.Act.put _ (some 96) _) _
      try simp only [Go.Act.put, List.setIfInBounds_toArray, List.set_cons_zero, List.set_cons_succ]
      refine wpAnyH_takeD (i := 12) (v := ?_) (some 97) rfl rfl (by kernel_rfl) (by kernel_rfl) (by kernel_rfl) (fun _ _ _ h => h) (Or.inl ⟨by rfl, ?_⟩) (by assumption) ?_
      rotate_left
      · intro w' hSw
        go_simp
        first | done | with_reducible rfl
      try simp only [Go.Act.put, List.setIfInBounds_toArray, List.set_cons_zero, List.set_cons_succ]
      refine wpAnyH_takeD (i := 13) (v := ?_) (some 2) rfl rfl (by kernel_rfl) (by kernel_rfl) (by kernel_rfl) (fun _ _ _ h => h) (Or.inl ⟨by rfl, ?_⟩) (by assumption) ?_
      rotate_left
      · intro w' hSw
        go_simp
        first | done | with_reducible rfl
      try simp only [Go.Act.put, List.setIfInBounds_toArray, List.set_cons_zero, List.set_cons_succ]
      refine wpAnyH_done (by kernel_rfl) ?_ _
      go_wp2
      go_ret
      exact ⟨by first | rfl | simp, HF4.out.trans HF7.out (fun _ _ h => h)⟩
end Go.Proofs.YtbopmboigcdjpaaDoor
