/- The reference's Why. -/
import Derived.Test.YtbopmboigcdjpaaDoorMw
namespace Go.Proofs.YtbopmboigcdjpaaDoor
open Go.RowKit Go.Maps

set_option maxRecDepth 100000 in
set_option maxHeartbeats 16000000 in
theorem rwhy_any (A : Option Addr) (n c : Nat) (ps : List VL) (F : Nat → Prop) (w : World) (h : Vs w A n ps F) (hn : n ≤ 1048576) (p : VL) (ok : p.ok) :
    Calls Tryd.prog 27 #[.slice A n c, p.val] w fun e w' => e = .returned (.string (wordW (whyR (evs ps) p.e))) ∧ Fr (fun _ => False) w w' := by
  obtain ⟨g0, hg0⟩ : ∃ g0, w.heap.size = g0 := ⟨_, rfl⟩
  obtain ⟨W, hW⟩ : ∃ W, w.alloc (.cells p.cells.toArray 47) = W := ⟨_, rfl⟩
  have HFW : Hid (Fr (fun _ => False) w W) := Lib.hid (by rw [← hW]; exact (Fr.refl _ _).alloc _)
  have KW : Hid (Bk W g0 47 p.cells.toArray) := Lib.hid (by rw [← hW, ← hg0]; exact Bk.new _ _ _)
  have HV := Lib.hid (h.fr0 HFW.out)
  have CR := Lib.hid (rright_any p W)
  have CRF := Lib.hid (fun w' (hf : Fr (fun _ => False) W w') => rrefs_any A n c ps F w' (HV.out.fr0 hf) (by omega) p ok)
  have CT := Lib.hid (fun w' (hf : Fr (fun _ => False) W w') => rtask_any A n c ps F w' (HV.out.fr0 hf) (by omega))
  have CO := Lib.hid (fun w' (hf : Fr (fun _ => False) W w') (q : Int) (hq : N64 q) => ropen_any A n c ps F w' (HV.out.fr0 hf) (by omega) q hq)
  have CC := Lib.hid (fun k w' => rcloses_any k w')
  have KK : Hid (∀ w', Fr (fun _ => False) W w' → w'.cell? ⟨g0, 0, none⟩ = some (.int .i64 p.e.k) ∧ w'.cell? ⟨g0, 1, none⟩ = some (.int .i64 p.e.a) ∧ w'.cell? ⟨g0, 2, none⟩ = some (.int .i64 p.e.r) ∧ w'.cell? ⟨g0, 3, none⟩ = some (.int .i64 p.e.i) ∧ w'.cell? ⟨g0, 4, none⟩ = some (.int .i64 p.e.l) ∧ w'.cell? ⟨g0, 5, none⟩ = some (.int .i64 p.e.n) ∧ w'.cell? ⟨g0, 6, none⟩ = some (.slice p.A p.e.d.length p.c)) := Lib.hid (fun w' hf => by
    have := KW.out.fr hf (fun h => h)
    exact ⟨this.cell 0, this.cell 1, this.cell 2, this.cell 3, this.cell 4, this.cell 5, this.cell 6⟩)
  have HWY : Hid (whyR (evs ps) p.e = if p.e.right = false then 1
    else if evs ps ≠ [] ∧ p.e.a < ((evs ps).getLast?.getD default).a then 2
    else if ((evs ps).length == 0) != (p.e.k == 1) then 3
    else if (evs ps).any (fun x => closesK x.k) = true then 4
    else if refsR (evs ps) p.e = false then 5
    else if p.e.k = 2 ∧ (taskR (evs ps)).1 ≠ 0 then 6
    else if (p.e.k = 7 ∨ p.e.k = 12 ∨ p.e.k = 17) ∧ (∃ i, i < (evs ps).length ∧ ((evs ps).getD i default).k = p.e.k ∧ ((evs ps).getD i default).i = p.e.i ∧ openR (evs ps) (i + 1) = true) then 7
    else 0) := Lib.hid rfl
  have HL := Lib.hid (evs_len HV.out)
  have hnI : (n : Int) ≤ 1048576 := by omega
  generalize whyR (evs ps) p.e = R at *
  obtain ⟨rt, hrt⟩ : ∃ x, p.e.right = x := ⟨_, rfl⟩
  rw [hrt] at CR HWY
  obtain ⟨rf, hrf⟩ : ∃ x, refsR (evs ps) p.e = x := ⟨_, rfl⟩
  rw [hrf] at CRF HWY
  obtain ⟨how, at_, htk⟩ : ∃ x y, taskR (evs ps) = (x, y) := ⟨_, _, rfl⟩
  rw [htk] at CT HWY
  clear hrt hrf htk h ok
  obtain ⟨⟨k, a, r, i, l, m, d⟩, eA, ec⟩ := p
  unfold VL.val VL.cells VL.bv at *
  simp only at *
  obtain ⟨z0, z1, z2, z3, z4, z5, z6⟩ := KK.out W (Fr.refl _ _)
  go_enter Tryd.func27, Tryd.ntmps27
  go_wp2_with fail
  clear hW hg0 z0 z1 z2 z3 z4 z5 z6
  refine CR.out.mono ?_; rintro e w1 ⟨rfl, hf1⟩
  have HF1 := Lib.hid hf1
  clear hf1 CR KW
  have HR1 := Lib.hid (HFW.out.trans HF1.out (fun _ _ h => h))
  cases rt with
  | false =>
    go_wp2
    go_ret
    exact ⟨by rw [HWY.out]; rfl, HR1.out⟩
  | true =>
    have HW1 := Lib.hid (HWY.out.trans (if_neg (by simp)))
    clear HWY
    -- the last one's tick
    have HTM : Hid ((n = 0 ∧ ¬ (evs ps ≠ [] ∧ a < ((evs ps).getLast?.getD default).a)) ∨ ∃ (b off j : Nat) (x : Int), A = some ⟨b, off, none⟩ ∧ n = j + 1 ∧ ((evs ps ≠ [] ∧ a < ((evs ps).getLast?.getD default).a) ↔ a < x) ∧ ∀ w', Fr (fun _ => False) W w' → w'.cell? ⟨b, off + j * 7 + 1, none⟩ = some (.int .i64 x)) := Lib.hid (by
      rcases Nat.eq_zero_or_pos n with h0 | h0
      · left
        refine ⟨h0, fun hh => hh.1 (List.eq_nil_of_length_eq_zero (by rw [HL.out]; exact h0))⟩
      · right
        obtain ⟨j, hj⟩ : ∃ j, n = j + 1 := ⟨n - 1, by omega⟩
        obtain ⟨b, off, e, -, hcs, -⟩ := HV.out.at (i := j) (by omega)
        have c1 := hcs 1 _ rfl
        have hlast := last_get (ps := ps) (n := j) (by rw [HV.out.len]; exact hj)
        refine ⟨b, off, j, _, e, hj, ?_, fun w' hf => (hf.cell (World.block_lt_of_cell? W _ c1) (fun h => h)).trans c1⟩
        rw [hlast]
        constructor
        · exact fun h => h.2
        · refine fun h => ⟨fun e => ?_, h⟩
          rw [e] at hlast; cases hlast)
    rcases HTM.out with ⟨hz, hnt⟩ | ⟨b, off, j, x, hA, hj, hiff, hcx⟩
    · have HW2 := Lib.hid (HW1.out.trans (if_neg hnt))
      clear HTM HW1 hnt
      subst hz
      have d0 : decide ((0 : Int) < ((0 : Nat) : Int)) = false := by decide
      go_wp2_with fail
      go_quiet (fail)
      obtain ⟨w2, hw2⟩ : ∃ w2, w1.drewN nq = w2 := ⟨_, rfl⟩
      have HF2 : Hid (Fr (fun _ => False) W w2) := Lib.hid (by rw [← hw2]; exact HF1.out.drewN _)
      rw [hw2]
      have HR2 := Lib.hid (HFW.out.trans HF2.out (fun _ _ h => h))
      clear hw2 HF1 HR1 d0
      obtain ⟨y0, hy0⟩ : ∃ y, (((0 : Nat) : Int) == 0) = y := ⟨_, rfl⟩
      obtain ⟨y1, hy1⟩ : ∃ y, (k == 1) = y := ⟨_, rfl⟩
      have hyl : ((evs ps).length == 0) = y0 := by
        rw [HL.out, ← hy0]
        by_cases h : 0 = 0
        · simp [h]
        · rw [show ((0 : Nat) == 0) = false by simp; omega]; symm; simp; omega
      rw [hyl, hy1] at HW2
      clear hyl
      have hyt : y0 = true := by rw [← hy0]; rfl
      subst hyt
      have c0 := (KK.out w2 HF2.out).1
      by_cases hyy : (true != y1) = true
      · have HRES := Lib.hid (HW2.out.trans (if_pos hyy))
        cases y1 <;> first
          | (simp at hyy; done)
          | (go_wp2
             go_ret
             exact ⟨by rw [HRES.out]; rfl, HR2.out⟩)
      have HW3 := Lib.hid (HW2.out.trans (if_neg hyy))
      have hye : true = y1 := by cases y1 <;> simp_all
      subst hye
      clear HW2 hyy
      go_wp2_with fail
      clear hy1 c0
      go_loopw [5] (fun i wr => ∃ (q : Nat), i = .int .i64 (q : Int) ∧ q ≤ 0 ∧ Hid (∀ x ∈ (evs ps).take q, closesK x.k = false) ∧ w2 = wr) (fun i _ => 0 - (intOf i).toNat)
      case atStart => exact ⟨0, rfl, Nat.zero_le _, Lib.hid (fun x hx => by simp at hx), rfl⟩
      case round =>
        obtain ⟨q, rfl, hq, HQ, rfl⟩ := hrel
        have hq0 : (0 : Int) ≤ (q : Int) := by omega
        by_cases hlt : q < 0
        · exact absurd hlt (Nat.not_lt_zero _)
        · obtain rfl : 0 = q := by omega
          have HW4 := Lib.hid (HW3.out.trans (if_neg (by
            rw [Bool.not_eq_true, List.any_eq_false]
            intro x hx
            have := HQ.out x (by rw [List.take_of_length_le (by rw [HL.out]; exact Nat.le_refl _)]; exact hx)
            simp [this])))
          clear HW3 HQ hlt
          obtain ⟨k0, k1, k2, k3, k4, k5, k6⟩ := KK.out w2 HF2.out
          go_wp2_with fail
          refine (CRF.out w2 HF2.out).mono ?_; rintro e w3 ⟨rfl, hf3⟩
          have HF3 := Lib.hid (HF2.out.trans hf3 (fun _ _ h => h))
          have HR3 := Lib.hid (HR2.out.trans hf3 (fun _ _ h => h))
          clear hf3 CRF k0 k1 k2 k3 k4 k5 k6 HF2 HR2
          cases rf with
          | false =>
            go_wp2
            go_ret
            exact ⟨by rw [HW4.out]; rfl, HR3.out⟩
          | true =>
            have HW5 := Lib.hid (HW4.out.trans (if_neg (by simp)))
            clear HW4
            go_wp2_with fail
            refine (CT.out w3 HF3.out).mono ?_; rintro e w4 ⟨rfl, hf4⟩
            have HF4 := Lib.hid (HF3.out.trans hf4 (fun _ _ h => h))
            have HR4 := Lib.hid (HR3.out.trans hf4 (fun _ _ h => h))
            clear hf4 CT HF3 HR3
            have k0 : w4.cell? ⟨g0, 0, none⟩ = some (.int .i64 k) := (KK.out w4 HF4.out).1
            by_cases h2 : k = 2
            · have e2 : (k == 2) = true := by simpa using h2
              by_cases hh : how = 0
              · have eh : (how != 0) = false := by simp [hh]
                have HRES : Hid (R = 0) := Lib.hid ((HW5.out.trans (if_neg (fun h => h.2 hh))).trans (if_neg (fun h => by omega)))
                have e7 : (k == 7) = false := by simp; omega
                have e12 : (k == 12) = false := by simp; omega
                have e17 : (k == 17) = false := by simp; omega
                clear h2 hh HW5
                go_wp2
                go_ret
                exact ⟨by rw [HRES.out]; rfl, HR4.out⟩
              · have eh : (how != 0) = true := by simp [hh]
                have HRES : Hid (R = 6) := Lib.hid (HW5.out.trans (if_pos ⟨h2, hh⟩))
                clear h2 hh HW5
                go_wp2
                go_ret
                exact ⟨by rw [HRES.out]; rfl, HR4.out⟩
            · have e2 : (k == 2) = false := by simpa using h2
              have HW6 := Lib.hid (HW5.out.trans (if_neg (fun h => h2 h.1)))
              clear HW5
              by_cases h7 : k = 7 ∨ k = 12 ∨ k = 17
              · have HK7 := Lib.hid h7
                have HLP : Hid ((∃ i', i' < (evs ps).length ∧ ((evs ps).getD i' default).k = k ∧ ((evs ps).getD i' default).i = i ∧ openR (evs ps) (i' + 1) = true) → R = 7) := Lib.hid (fun hx => HW6.out.trans (if_pos ⟨h7, hx⟩))
                have HLN : Hid (¬ (∃ i', i' < (evs ps).length ∧ ((evs ps).getD i' default).k = k ∧ ((evs ps).getD i' default).i = i ∧ openR (evs ps) (i' + 1) = true) → R = 0) := Lib.hid (fun hx => HW6.out.trans (if_neg (fun h => hx h.2)))
                clear HW6 h2
                rcases h7 with hk | hk | hk
                all_goals
                  first | (have d7 : (k == 7) = true := by (rw [hk]; rfl)) | (have d7 : (k == 7) = false := by (rw [hk]; rfl))
                  first | (have d12 : (k == 12) = true := by (rw [hk]; rfl)) | (have d12 : (k == 12) = false := by (rw [hk]; rfl))
                  first | (have d17 : (k == 17) = true := by (rw [hk]; rfl)) | (have d17 : (k == 17) = false := by (rw [hk]; rfl))
                  clear hk
                  go_wp2_with fail
                  clear k0 d7 d12 d17 e2
                  go_loopw [8] (fun u wr => ∃ (q : Nat), u = .int .i64 (q : Int) ∧ q ≤ 0 ∧ Hid ((∀ i', i' < q → ¬ (((evs ps).getD i' default).k = k ∧ ((evs ps).getD i' default).i = i ∧ openR (evs ps) (i' + 1) = true)) ∧ Fr (fun _ => False) W wr ∧ Fr (fun _ => False) w wr)) (fun u _ => 0 - (intOf u).toNat)
                  case atStart => exact ⟨0, rfl, Nat.zero_le _, ⟨fun i' h => by omega, HF4.out, HR4.out⟩⟩
                  case round =>
                    obtain ⟨q, rfl, hq, HQ⟩ := hrel
                    clear HF4 HR4
                    have hq0 : (0 : Int) ≤ (q : Int) := by omega
                    by_cases hlt : q < 0
                    · exact absurd hlt (Nat.not_lt_zero _)
                    · obtain rfl : 0 = q := by omega
                      have HRES : Hid (R = 0) := Lib.hid (HLN.out (fun ⟨i', h1, h2⟩ => HQ.out.1 i' (by rw [HL.out] at h1; exact h1) h2))
                      have HE := Lib.hid HQ.out.2.2
                      clear HQ hlt
                      go_wp2
                      go_ret
                      exact ⟨by rw [HRES.out]; rfl, HE.out⟩
              · have HRES : Hid (R = 0) := Lib.hid (HW6.out.trans (if_neg (fun h => h7 h.1)))
                have e7 : (k == 7) = false := by simp; omega
                have e12 : (k == 12) = false := by simp; omega
                have e17 : (k == 17) = false := by simp; omega
                clear h7 HW6 h2
                go_wp2
                go_ret
                exact ⟨by rw [HRES.out]; rfl, HR4.out⟩
    · by_cases hax : a < x
      · have HRES := Lib.hid (HW1.out.trans (if_pos (hiff.2 hax)))
        have d1 : decide (a < x) = true := decide_eq_true hax
        subst hA
        have hnp : decide ((0 : Int) < (n : Int)) = true := decide_eq_true (by omega)
        have hnp' : decide (0 < n) = true := decide_eq_true (by omega)
        have w9 : IntKind.i64.wrap ((n : Int) - 1) = (j : Int) := by rw [IntWalk.i64_in _ (by omega)]; omega
        have hj0 : (0 : Int) ≤ (j : Int) := by omega
        have hjn : (j : Int) < (n : Int) := by omega
        have q1 : ∀ q, (w1.drewN q).cell? ⟨g0, 1, none⟩ = some (.int .i64 a) := fun q => (KK.out _ (HF1.out.drewN q)).2.1
        have q2 : ∀ q, (w1.drewN q).cell? ⟨b, off + j * 7 + 1, none⟩ = some (.int .i64 x) := fun q => hcx _ (HF1.out.drewN q)
        clear HTM HW1 hiff hcx hax hj
        go_wp2_with fail
        go_quiet (fail)
        go_wp2
        go_ret
        exact ⟨by rw [HRES.out]; rfl, HR1.out.drewN _⟩
      · have HW2 := Lib.hid (HW1.out.trans (if_neg (fun h => hax (hiff.1 h))))
        have d1 : decide (a < x) = false := decide_eq_false hax
        have hnp : decide ((0 : Int) < (n : Int)) = true := decide_eq_true (by omega)
        have hnp' : decide (0 < n) = true := decide_eq_true (by omega)
        have w9 : IntKind.i64.wrap ((n : Int) - 1) = (j : Int) := by rw [IntWalk.i64_in _ (by omega)]; omega
        have hj0 : (0 : Int) ≤ (j : Int) := by omega
        have hjn : (j : Int) < (n : Int) := by omega
        have q1 : ∀ q, (w1.drewN q).cell? ⟨g0, 1, none⟩ = some (.int .i64 a) := fun q => (KK.out _ (HF1.out.drewN q)).2.1
        have q2 : ∀ q, (w1.drewN q).cell? ⟨b, off + j * 7 + 1, none⟩ = some (.int .i64 x) := fun q => hcx _ (HF1.out.drewN q)
        have HAA := Lib.hid hA
        subst hA
        clear HTM HW1 hiff hcx hax hj
        go_wp2_with fail
        go_quiet (fail)
        obtain ⟨w2, hw2⟩ : ∃ w2, w1.drewN nq = w2 := ⟨_, rfl⟩
        have HF2 : Hid (Fr (fun _ => False) W w2) := Lib.hid (by rw [← hw2]; exact HF1.out.drewN _)
        rw [hw2]
        have HR2 := Lib.hid (HFW.out.trans HF2.out (fun _ _ h => h))
        clear hw2 HF1 HR1 d1 hnp hnp' w9 hj0 hjn q1 q2 HAA
        obtain ⟨y0, hy0⟩ : ∃ y, (((n : Nat) : Int) == 0) = y := ⟨_, rfl⟩
        obtain ⟨y1, hy1⟩ : ∃ y, (k == 1) = y := ⟨_, rfl⟩
        have hyl : ((evs ps).length == 0) = y0 := by
          rw [HL.out, ← hy0]
          by_cases h : n = 0
          · simp [h]
          · rw [show ((n : Nat) == 0) = false by simp; omega]; symm; simp; omega
        rw [hyl, hy1] at HW2
        clear hyl
        skip
        have c0 := (KK.out w2 HF2.out).1
        by_cases hyy : (y0 != y1) = true
        · have HRES := Lib.hid (HW2.out.trans (if_pos hyy))
          cases y0 <;> cases y1 <;> first
            | (simp at hyy; done)
            | (go_wp2
               go_ret
               exact ⟨by rw [HRES.out]; rfl, HR2.out⟩)
        have HW3 := Lib.hid (HW2.out.trans (if_neg hyy))
        have hye : y0 = y1 := by cases y0 <;> cases y1 <;> simp_all
        subst hye
        have hyn : (y0 != y0) = false := by cases y0 <;> rfl
        clear HW2 hyy
        go_wp2_with fail
        clear hy1 c0
        go_loopw [5] (fun i wr => ∃ (q : Nat), i = .int .i64 (q : Int) ∧ q ≤ n ∧ Hid (∀ x ∈ (evs ps).take q, closesK x.k = false) ∧ w2 = wr) (fun i _ => n - (intOf i).toNat)
        case atStart => exact ⟨0, rfl, Nat.zero_le _, Lib.hid (fun x hx => by simp at hx), rfl⟩
        case round =>
          obtain ⟨q, rfl, hq, HQ, rfl⟩ := hrel
          have hq0 : (0 : Int) ≤ (q : Int) := by omega
          by_cases hlt : q < n
          · have hlt' : (q : Int) < ((n : Nat) : Int) := by omega
            have w1 : IntKind.i64.wrap ((q : Int) + 1) = (q : Int) + 1 := IntWalk.i64_in _ (by omega)
            obtain ⟨b', off', hA', -, hcs, -⟩ := (HV.out.fr0 HF2.out).at hlt
            have htk := evs_take (ps := ps) (k := q) (by rw [HV.out.len]; exact hlt)
            have hat := evs_at (ps := ps) (k := q) (by rw [HV.out.len]; exact hlt)
            have c0 : w2.cell? ⟨b', off' + q * 7, none⟩ = some (.int .i64 (ps.getD q default).e.k) := hcs 0 _ rfl
            have CX := Lib.hid (CC.out (ps.getD q default).e.k w2)
            generalize (ps.getD q default).e = e at *
            obtain ⟨y, hy⟩ : ∃ y, closesK e.k = y := ⟨_, rfl⟩
            rw [hy] at CX
            have HY := Lib.hid hy
            have HTK := Lib.hid htk
            have HAT := Lib.hid hat
            obtain ⟨rfl, rfl⟩ : b' = b ∧ off' = off := by injection hA' with hA'; injection hA' with h1 h2; exact ⟨h1.symm, h2.symm⟩
            obtain ⟨ek, hek⟩ : ∃ x, e.k = x := ⟨_, rfl⟩
            rw [hek] at c0 CX
            have HEK := Lib.hid hek
            clear hcs htk hat hy hek
            go_wp2_with fail
            refine CX.out.mono ?_; rintro e' w3 ⟨rfl, rfl⟩
            clear CX
            cases y with
            | true =>
              have HRES : Hid (R = 4) := Lib.hid (HW3.out.trans (if_pos (by
                rw [List.any_eq_true]
                exact ⟨e, List.mem_of_getElem? HAT.out, HY.out⟩)))
              go_wp2
              go_ret
              exact ⟨by rw [HRES.out]; rfl, HR2.out⟩
            | false =>
              go_wp2
              go_roundw
              case rel => exact ⟨q + 1, by first | rfl | (go_num; done) | (congr 1; omega), by omega, Lib.hid (fun x hx => by
                rw [HTK.out, List.mem_append] at hx
                rcases hx with hx | hx
                · exact HQ.out x hx
                · simp at hx; subst hx; exact HY.out), by first | trivial | rfl⟩
              case measure => (simp [intOf]) <;> omega
          · obtain rfl : n = q := by omega
            have HW4 := Lib.hid (HW3.out.trans (if_neg (by
              rw [Bool.not_eq_true, List.any_eq_false]
              intro x hx
              have := HQ.out x (by rw [List.take_of_length_le (by rw [HL.out]; exact Nat.le_refl _)]; exact hx)
              simp [this])))
            clear HW3 HQ hlt
            obtain ⟨k0, k1, k2, k3, k4, k5, k6⟩ := KK.out w2 HF2.out
            go_wp2_with fail
            refine (CRF.out w2 HF2.out).mono ?_; rintro e w3 ⟨rfl, hf3⟩
            have HF3 := Lib.hid (HF2.out.trans hf3 (fun _ _ h => h))
            have HR3 := Lib.hid (HR2.out.trans hf3 (fun _ _ h => h))
            clear hf3 CRF k0 k1 k2 k3 k4 k5 k6 HF2 HR2
            cases rf with
            | false =>
              go_wp2
              go_ret
              exact ⟨by rw [HW4.out]; rfl, HR3.out⟩
            | true =>
              have HW5 := Lib.hid (HW4.out.trans (if_neg (by simp)))
              clear HW4
              go_wp2_with fail
              refine (CT.out w3 HF3.out).mono ?_; rintro e w4 ⟨rfl, hf4⟩
              have HF4 := Lib.hid (HF3.out.trans hf4 (fun _ _ h => h))
              have HR4 := Lib.hid (HR3.out.trans hf4 (fun _ _ h => h))
              clear hf4 CT HF3 HR3
              have k0 : w4.cell? ⟨g0, 0, none⟩ = some (.int .i64 k) := (KK.out w4 HF4.out).1
              by_cases h2 : k = 2
              · have e2 : (k == 2) = true := by simpa using h2
                by_cases hh : how = 0
                · have eh : (how != 0) = false := by simp [hh]
                  have HRES : Hid (R = 0) := Lib.hid ((HW5.out.trans (if_neg (fun h => h.2 hh))).trans (if_neg (fun h => by omega)))
                  have e7 : (k == 7) = false := by simp; omega
                  have e12 : (k == 12) = false := by simp; omega
                  have e17 : (k == 17) = false := by simp; omega
                  clear h2 hh HW5
                  go_wp2
                  go_ret
                  exact ⟨by rw [HRES.out]; rfl, HR4.out⟩
                · have eh : (how != 0) = true := by simp [hh]
                  have HRES : Hid (R = 6) := Lib.hid (HW5.out.trans (if_pos ⟨h2, hh⟩))
                  clear h2 hh HW5
                  go_wp2
                  go_ret
                  exact ⟨by rw [HRES.out]; rfl, HR4.out⟩
              · have e2 : (k == 2) = false := by simpa using h2
                have HW6 := Lib.hid (HW5.out.trans (if_neg (fun h => h2 h.1)))
                clear HW5
                by_cases h7 : k = 7 ∨ k = 12 ∨ k = 17
                · have HK7 := Lib.hid h7
                  have HLP : Hid ((∃ i', i' < (evs ps).length ∧ ((evs ps).getD i' default).k = k ∧ ((evs ps).getD i' default).i = i ∧ openR (evs ps) (i' + 1) = true) → R = 7) := Lib.hid (fun hx => HW6.out.trans (if_pos ⟨h7, hx⟩))
                  have HLN : Hid (¬ (∃ i', i' < (evs ps).length ∧ ((evs ps).getD i' default).k = k ∧ ((evs ps).getD i' default).i = i ∧ openR (evs ps) (i' + 1) = true) → R = 0) := Lib.hid (fun hx => HW6.out.trans (if_neg (fun h => hx h.2)))
                  clear HW6 h2
                  rcases h7 with hk | hk | hk
                  all_goals
                    first | (have d7 : (k == 7) = true := by (rw [hk]; rfl)) | (have d7 : (k == 7) = false := by (rw [hk]; rfl))
                    first | (have d12 : (k == 12) = true := by (rw [hk]; rfl)) | (have d12 : (k == 12) = false := by (rw [hk]; rfl))
                    first | (have d17 : (k == 17) = true := by (rw [hk]; rfl)) | (have d17 : (k == 17) = false := by (rw [hk]; rfl))
                    clear hk
                    go_wp2_with fail
                    clear k0 d7 d12 d17 e2
                    go_loopw [8] (fun u wr => ∃ (q : Nat), u = .int .i64 (q : Int) ∧ q ≤ n ∧ Hid ((∀ i', i' < q → ¬ (((evs ps).getD i' default).k = k ∧ ((evs ps).getD i' default).i = i ∧ openR (evs ps) (i' + 1) = true)) ∧ Fr (fun _ => False) W wr ∧ Fr (fun _ => False) w wr)) (fun u _ => n - (intOf u).toNat)
                    case atStart => exact ⟨0, rfl, Nat.zero_le _, ⟨fun i' h => by omega, HF4.out, HR4.out⟩⟩
                    case round =>
                      obtain ⟨q, rfl, hq, HQ⟩ := hrel
                      clear HF4 HR4
                      have hq0 : (0 : Int) ≤ (q : Int) := by omega
                      by_cases hlt : q < n
                      · have hlt' : (q : Int) < ((n : Nat) : Int) := by omega
                        have w1 : IntKind.i64.wrap ((q : Int) + 1) = (q : Int) + 1 := IntWalk.i64_in _ (by omega)
                        obtain ⟨b', off', hA', -, hcs, -⟩ := (HV.out.fr0 HQ.out.2.1).at hlt
                        have hgd := getD_evs (ps := ps) (k := q) (by rw [HV.out.len]; exact hlt)
                        have HCC : Hid (∀ w', Fr (fun _ => False) wr w' → w'.cell? ⟨b', off' + q * 7, none⟩ = some (.int .i64 (ps.getD q default).e.k) ∧ w'.cell? ⟨b', off' + q * 7 + 3, none⟩ = some (.int .i64 (ps.getD q default).e.i) ∧ w'.cell? ⟨g0, 0, none⟩ = some (.int .i64 k) ∧ w'.cell? ⟨g0, 3, none⟩ = some (.int .i64 i)) := Lib.hid (fun w' hf => by
                          have c0 := hcs 0 _ rfl
                          have c3 := hcs 3 _ rfl
                          have kk := KK.out w' (HQ.out.2.1.trans hf (fun _ _ h => h))
                          exact ⟨(hf.cell (World.block_lt_of_cell? wr _ c0) (fun h => h)).trans c0, (hf.cell (World.block_lt_of_cell? wr _ c3) (fun h => h)).trans c3, kk.1, kk.2.2.2.1⟩)
                        have HGD := Lib.hid hgd
                        generalize (ps.getD q default).e = e at *
                        obtain ⟨ek, hek⟩ : ∃ x, e.k = x := ⟨_, rfl⟩
                        obtain ⟨ei, hei⟩ : ∃ x, e.i = x := ⟨_, rfl⟩
                        rw [hek, hei] at HCC
                        have HEK := Lib.hid (And.intro hek hei)
                        obtain ⟨rfl, rfl⟩ : b' = b ∧ off' = off := by injection hA' with hA'; injection hA' with h1 h2; exact ⟨h1.symm, h2.symm⟩
                        have HFQ := Lib.hid (And.intro HQ.out.2.1 HQ.out.2.2)
                        have HNX : Hid (¬ (ek = k ∧ ei = i ∧ openR (evs ps) ((q : Int) + 1) = true) → ∀ i', i' < q + 1 → ¬ (((evs ps).getD i' default).k = k ∧ ((evs ps).getD i' default).i = i ∧ openR (evs ps) (i' + 1) = true)) := Lib.hid (fun hno i' hi' => by
                          by_cases h : i' < q
                          · exact HQ.out.1 i' h
                          · obtain rfl : i' = q := by omega
                            rw [HGD.out, HEK.out.1, HEK.out.2]; exact hno)
                        have HIT : Hid (ek = k ∧ ei = i ∧ openR (evs ps) ((q : Int) + 1) = true → R = 7) := Lib.hid (fun hy => HLP.out ⟨q, by rw [HL.out]; exact hlt, by rw [HGD.out, HEK.out.1]; exact hy.1, by rw [HGD.out, HEK.out.2]; exact hy.2.1, hy.2.2⟩)
                        clear hcs hgd hek hei HQ
                        have c0 : ∀ z, (wr.drewN z).cell? ⟨b', off' + q * 7, none⟩ = some (.int .i64 ek) := fun z => (HCC.out _ ((Fr.refl _ _).drewN z)).1
                        have c3 : ∀ z, (wr.drewN z).cell? ⟨b', off' + q * 7 + 3, none⟩ = some (.int .i64 ei) := fun z => (HCC.out _ ((Fr.refl _ _).drewN z)).2.1
                        have c4 : ∀ z, (wr.drewN z).cell? ⟨g0, 0, none⟩ = some (.int .i64 k) := fun z => (HCC.out _ ((Fr.refl _ _).drewN z)).2.2.1
                        have c5 : ∀ z, (wr.drewN z).cell? ⟨g0, 3, none⟩ = some (.int .i64 i) := fun z => (HCC.out _ ((Fr.refl _ _).drewN z)).2.2.2
                        by_cases hk : ek = k
                        · have d0 : (ek == k) = true := by simpa using hk
                          by_cases hi : ei = i
                          · have d1 : (ei == i) = true := by simpa using hi
                            clear c0 c3 c4 c5
                            have CX := Lib.hid (fun w' (hf : Fr (fun _ => False) wr w') => CO.out w' (HFQ.out.1.trans hf (fun _ _ h => h)) ((q : Int) + 1) ⟨by omega, by omega⟩)
                            obtain ⟨y, hy⟩ : ∃ y, openR (evs ps) ((q : Int) + 1) = y := ⟨_, rfl⟩
                            rw [hy] at CX HNX HIT
                            clear hy
                            have HKI := Lib.hid (And.intro hk hi)
                            clear hk hi
                            go_wp2_with fail
                            refine wp_region_held_drew (S := (fun w' => Fr (fun _ => False) wr w')) (by kernel_rfl) ((Fr.refl _ _).drew) (fun hHeld => ?_)
                            refine wpAnyH_takeD (i := 0) (v := ?_) (some 81) rfl rfl (by kernel_rfl) (by kernel_rfl) (by kernel_rfl) (fun _ _ _ h => h) (Or.inl ⟨by rfl, ?_⟩) (by assumption) ?_
                            rotate_left
                            · intro w' hSw
                              go_simp
                              first | done | with_reducible rfl
                            try simp only [Go.Act.put, List.setIfInBounds_toArray, List.set_cons_zero, List.set_cons_succ]
                            refine wpAnyH_takeD (i := 1) (v := ?_) (some 82) rfl rfl (by kernel_rfl) (by kernel_rfl) (by kernel_rfl) (fun _ _ _ h => h) (Or.inl ⟨by rfl, ?_⟩) (by assumption) ?_
                            rotate_left
                            · intro w' hSw
                              go_simp
                              first | done | with_reducible rfl
                            try simp only [Go.Act.put, List.setIfInBounds_toArray, List.set_cons_zero, List.set_cons_succ]
                            refine wpAnyH_takeD (i := 2) (v := ?_) (some 83) rfl rfl (by kernel_rfl) (by kernel_rfl) (by kernel_rfl) (fun _ _ _ h => h) (Or.inl ⟨by rfl, ?_⟩) (by assumption) ?_
                            rotate_left
                            · intro w' hSw
                              go_simp
                              first | done | with_reducible rfl
                            try simp only [Go.Act.put, List.setIfInBounds_toArray, List.set_cons_zero, List.set_cons_succ]
                            refine wpAnyH_takeD (i := 3) (v := ?_) (some 84) rfl rfl (by kernel_rfl) (by kernel_rfl) (by kernel_rfl) (fun _ _ _ h => h) (Or.inl ⟨by rfl, ?_⟩) (by assumption) ?_
                            rotate_left
                            · intro w' hSw
                              go_simp
                              first | done | with_reducible rfl
                            try simp only [Go.Act.put, List.setIfInBounds_toArray, List.set_cons_zero, List.set_cons_succ]
                            refine wpAnyH_takeD (i := 4) (v := ?_) (some 85) rfl rfl (by kernel_rfl) (by kernel_rfl) (by kernel_rfl) (fun _ _ _ h => h) (Or.inl ⟨by rfl, ?_⟩) (by assumption) ?_
                            rotate_left
                            · intro w' hSw
                              have z := HCC.out w' hSw; have z0 := z.1; have z1 := z.2.1; have z2 := z.2.2.1; have z3 := z.2.2.2; clear z
                              go_simp
                              first | done | with_reducible rfl
                            try simp only [Go.Act.put, List.setIfInBounds_toArray, List.set_cons_zero, List.set_cons_succ]
                            refine wpAnyH_takeD (i := 5) (v := ?_) (some 86) rfl rfl (by kernel_rfl) (by kernel_rfl) (by kernel_rfl) (fun _ _ _ h => h) (Or.inl ⟨by rfl, ?_⟩) (by assumption) ?_
                            rotate_left
                            · intro w' hSw
                              go_simp
                              first | done | with_reducible rfl
                            try simp only [Go.Act.put, List.setIfInBounds_toArray, List.set_cons_zero, List.set_cons_succ]
                            refine wpAnyH_takeD (i := 6) (v := ?_) (some 87) rfl rfl (by kernel_rfl) (by kernel_rfl) (by kernel_rfl) (fun _ _ _ h => h) (Or.inl ⟨by rfl, ?_⟩) (by assumption) ?_
                            rotate_left
                            · intro w' hSw
                              have z := HCC.out w' hSw; have z0 := z.1; have z1 := z.2.1; have z2 := z.2.2.1; have z3 := z.2.2.2; clear z
                              go_simp
                              first | done | with_reducible rfl
                            try simp only [Go.Act.put, List.setIfInBounds_toArray, List.set_cons_zero, List.set_cons_succ]
                            refine wpAnyH_takeD (i := 7) (v := ?_) (some 88) rfl rfl (by kernel_rfl) (by kernel_rfl) (by kernel_rfl) (fun _ _ _ h => h) (Or.inl ⟨by rfl, ?_⟩) (by assumption) ?_
                            rotate_left
                            · intro w' hSw
                              go_simp
                              first | done | with_reducible rfl
                            try simp only [Go.Act.put, List.setIfInBounds_toArray, List.set_cons_zero, List.set_cons_succ]
                            refine wpAnyH_takeD (i := 8) (v := ?_) (some 89) rfl rfl (by kernel_rfl) (by kernel_rfl) (by kernel_rfl) (fun _ _ _ h => h) (Or.inl ⟨by rfl, ?_⟩) (by assumption) ?_
                            rotate_left
                            · intro w' hSw
                              go_simp
                              first | done | with_reducible rfl
                            try simp only [Go.Act.put, List.setIfInBounds_toArray, List.set_cons_zero, List.set_cons_succ]
                            refine wpAnyH_takeD (i := 9) (v := ?_) (some 90) rfl rfl (by kernel_rfl) (by kernel_rfl) (by kernel_rfl) (fun _ _ _ h => h) (Or.inl ⟨by rfl, ?_⟩) (by assumption) ?_
                            rotate_left
                            · intro w' hSw
                              go_simp
                              first | done | with_reducible rfl
                            try simp only [Go.Act.put, List.setIfInBounds_toArray, List.set_cons_zero, List.set_cons_succ]
                            refine wpAnyH_takeD (i := 10) (v := ?_) (some 91) rfl rfl (by kernel_rfl) (by kernel_rfl) (by kernel_rfl) (fun _ _ _ h => h) (Or.inl ⟨by rfl, ?_⟩) (by assumption) ?_
                            rotate_left
                            · intro w' hSw
                              go_simp
                              first | done | with_reducible rfl
                            try simp only [Go.Act.put, List.setIfInBounds_toArray, List.set_cons_zero, List.set_cons_succ]
                            refine wpAnyH_takeD (i := 11) (v := ?_) (some 92) rfl rfl (by kernel_rfl) (by kernel_rfl) (by kernel_rfl) (fun _ _ _ h => h) (Or.inl ⟨by rfl, ?_⟩) (by assumption) ?_
                            rotate_left
                            · intro w' hSw
                              go_simp
                              first | done | with_reducible rfl
                            try simp only [Go.Act.put, List.setIfInBounds_toArray, List.set_cons_zero, List.set_cons_succ]
                            refine wpAnyH_takeD (i := 12) (v := ?_) (some 93) rfl rfl (by kernel_rfl) (by kernel_rfl) (by kernel_rfl) (fun _ _ _ h => h) (Or.inl ⟨by rfl, ?_⟩) (by assumption) ?_
                            rotate_left
                            · intro w' hSw
                              go_simp
                              first | done | with_reducible rfl
                            try simp only [Go.Act.put, List.setIfInBounds_toArray, List.set_cons_zero, List.set_cons_succ]
                            refine wpAnyH_takeD (i := 13) (v := ?_) (some 94) rfl rfl (by kernel_rfl) (by kernel_rfl) (by kernel_rfl) (fun _ _ _ h => h) (Or.inl ⟨by rfl, ?_⟩) (by assumption) ?_
                            rotate_left
                            · intro w' hSw
                              have z := HCC.out w' hSw; have z0 := z.1; have z1 := z.2.1; have z2 := z.2.2.1; have z3 := z.2.2.2; clear z
                              go_simp
                              first | done | with_reducible rfl
                            try simp only [Go.Act.put, List.setIfInBounds_toArray, List.set_cons_zero, List.set_cons_succ]
                            refine wpAnyH_takeD (i := 14) (v := ?_) (some 95) rfl rfl (by kernel_rfl) (by kernel_rfl) (by kernel_rfl) (fun _ _ _ h => h) (Or.inl ⟨by rfl, ?_⟩) (by assumption) ?_
                            rotate_left
                            · intro w' hSw
                              go_simp
                              first | done | with_reducible rfl
                            try simp only [Go.Act.put, List.setIfInBounds_toArray, List.set_cons_zero, List.set_cons_succ]
                            refine wpAnyH_takeD (i := 15) (v := ?_) (some 96) rfl rfl (by kernel_rfl) (by kernel_rfl) (by kernel_rfl) (fun _ _ _ h => h) (Or.inl ⟨by rfl, ?_⟩) (by assumption) ?_
                            rotate_left
                            · intro w' hSw
                              have z := HCC.out w' hSw; have z0 := z.1; have z1 := z.2.1; have z2 := z.2.2.1; have z3 := z.2.2.2; clear z
                              go_simp
                              first | done | with_reducible rfl
                            try simp only [Go.Act.put, List.setIfInBounds_toArray, List.set_cons_zero, List.set_cons_succ]
                            refine wpAnyH_takeD (i := 16) (v := ?_) (some 97) rfl rfl (by kernel_rfl) (by kernel_rfl) (by kernel_rfl) (fun _ _ _ h => h) (Or.inl ⟨by rfl, ?_⟩) (by assumption) ?_
                            rotate_left
                            · intro w' hSw
                              go_simp
                              first | done | with_reducible rfl
                            try simp only [Go.Act.put, List.setIfInBounds_toArray, List.set_cons_zero, List.set_cons_succ]
                            refine wpAnyH_takeD (i := 17) (v := ?_) (some 98) rfl rfl (by kernel_rfl) (by kernel_rfl) (by kernel_rfl) (fun _ _ _ h => h) (Or.inl ⟨by rfl, ?_⟩) (by assumption) ?_
                            rotate_left
                            · intro w' hSw
                              go_simp
                              first | done | with_reducible rfl
                            try simp only [Go.Act.put, List.setIfInBounds_toArray, List.set_cons_zero, List.set_cons_succ]
                            refine wpAnyH_takeD (i := 18) (v := ?_) (some 99) rfl rfl (by kernel_rfl) (by kernel_rfl) (by kernel_rfl) (fun _ _ _ h => h) (Or.inl ⟨by rfl, ?_⟩) (by assumption) ?_
                            rotate_left
                            · intro w' hSw
                              go_simp
                              first | done | with_reducible rfl
                            try simp only [Go.Act.put, List.setIfInBounds_toArray, List.set_cons_zero, List.set_cons_succ]
                            refine wpAnyH_takeD (i := 19) (v := ?_) (some 100) rfl rfl (by kernel_rfl) (by kernel_rfl) (by kernel_rfl) (fun _ _ _ h => h) (Or.inl ⟨by rfl, ?_⟩) (by assumption) ?_
                            rotate_left
                            · intro w' hSw
                              go_simp
                              first | done | with_reducible rfl
                            try simp only [Go.Act.put, List.setIfInBounds_toArray, List.set_cons_zero, List.set_cons_succ]
                            refine wpAnyH_takeD (i := 20) (v := ?_) (some 101) rfl rfl (by kernel_rfl) (by kernel_rfl) (by kernel_rfl) (fun _ _ _ h => h) (Or.inl ⟨by rfl, ?_⟩) (by assumption) ?_
                            rotate_left
                            · intro w' hSw
                              go_simp
                              first | done | with_reducible rfl
                            try simp only [Go.Act.put, List.setIfInBounds_toArray, List.set_cons_zero, List.set_cons_succ]
                            refine wpAnyH_takeD (i := 21) (v := ?_) (some 102) rfl rfl (by kernel_rfl) (by kernel_rfl) (by kernel_rfl) (fun _ _ _ h => h) (Or.inl ⟨by rfl, ?_⟩) (by assumption) ?_
                            rotate_left
                            · intro w' hSw
                              go_simp
                              first | done | with_reducible rfl
                            try simp only [Go.Act.put, List.setIfInBounds_toArray, List.set_cons_zero, List.set_cons_succ]
                            refine wpAnyH_ready (rs := [22]) (by kernel_rfl) (by simp) ?_
                            refine AllReadyH.cons rfl (fun K hK => ?_) AllReadyH.nil
                            go_simp
                            refine (CX.out _ hHeld).mono ?_; rintro e w5 ⟨rfl, hf5⟩
                            try go_simp
                            refine hK.out _ _ (hHeld.trans hf5 (fun _ _ h => h)) (fun hHeld => ?_)
                            clear hK K
                            try change wpAnyH _ _ _ _ _ _ _ (Go.Act.put _ (some 103) _) _
                            try simp only [Go.Act.put, List.setIfInBounds_toArray, List.set_cons_zero, List.set_cons_succ]
                            refine wpAnyH_takeD (i := 23) (v := ?_) (some 104) rfl rfl (by kernel_rfl) (by kernel_rfl) (by kernel_rfl) (fun _ _ _ h => h) (Or.inl ⟨by rfl, ?_⟩) (by assumption) ?_
                            rotate_left
                            · intro w' hSw
                              go_simp
                              first | done | with_reducible rfl
                            try simp only [Go.Act.put, List.setIfInBounds_toArray, List.set_cons_zero, List.set_cons_succ]
                            refine wpAnyH_done (by kernel_rfl) ?_ _
                            have HE1 := Lib.hid (HFQ.out.1.trans hHeld (fun _ _ h => h))
                            have HE2 := Lib.hid (HFQ.out.2.trans hHeld (fun _ _ h => h))
                            clear hHeld CX HCC
                            cases y with
                            | true =>
                              have HRES := Lib.hid (HIT.out ⟨HKI.out.1, HKI.out.2, rfl⟩)
                              go_wp2
                              go_ret
                              exact ⟨by rw [HRES.out]; rfl, HE2.out⟩
                            | false =>
                              have HN2 := Lib.hid (HNX.out (fun h => by cases h.2.2))
                              go_wp2
                              go_roundw
                              case rel => exact ⟨q + 1, by first | rfl | (go_num; done) | (congr 1; omega), by omega, ⟨HN2.out, HE1.out, HE2.out⟩⟩
                              case measure => (simp [intOf]) <;> omega
                          · have d1 : (ei == i) = false := by simpa using hi
                            have HN2 := Lib.hid (HNX.out (fun h => hi h.2.1))
                            clear hk hi HIT HNX
                            go_wp2_with fail
                            go_quiet (fail)
                            go_wp2
                            go_roundw
                            case rel => exact ⟨q + 1, by first | rfl | (go_num; done) | (congr 1; omega), by omega, ⟨HN2.out, HFQ.out.1.drewN _, HFQ.out.2.drewN _⟩⟩
                            case measure => (simp [intOf]) <;> omega
                        · have d0 : (ek == k) = false := by simpa using hk
                          have HN2 := Lib.hid (HNX.out (fun h => hk h.1))
                          clear hk HIT HNX
                          go_wp2_with fail
                          go_quiet (fail)
                          go_wp2
                          go_roundw
                          case rel => exact ⟨q + 1, by first | rfl | (go_num; done) | (congr 1; omega), by omega, ⟨HN2.out, HFQ.out.1.drewN _, HFQ.out.2.drewN _⟩⟩
                          case measure => (simp [intOf]) <;> omega
                      · obtain rfl : n = q := by omega
                        have HRES : Hid (R = 0) := Lib.hid (HLN.out (fun ⟨i', h1, h2⟩ => HQ.out.1 i' (by rw [HL.out] at h1; exact h1) h2))
                        have HE := Lib.hid HQ.out.2.2
                        clear HQ hlt
                        go_wp2
                        go_ret
                        exact ⟨by rw [HRES.out]; rfl, HE.out⟩
                · have HRES : Hid (R = 0) := Lib.hid (HW6.out.trans (if_neg (fun h => h7 h.1)))
                  have e7 : (k == 7) = false := by simp; omega
                  have e12 : (k == 12) = false := by simp; omega
                  have e17 : (k == 17) = false := by simp; omega
                  clear h7 HW6 h2
                  go_wp2
                  go_ret
                  exact ⟨by rw [HRES.out]; rfl, HR4.out⟩
end Go.Proofs.YtbopmboigcdjpaaDoor
