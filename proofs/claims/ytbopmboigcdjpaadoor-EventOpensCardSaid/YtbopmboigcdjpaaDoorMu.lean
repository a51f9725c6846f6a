/- EventOpens, the walk. -/
import Derived.Test.YtbopmboigcdjpaaDoorMt
namespace Go.Proofs.YtbopmboigcdjpaaDoor
open Go.RowKit Go.Maps

theorem cntO_bound : ∀ l : List Ev, -(l.length : Int) ≤ cntO l ∧ cntO l ≤ l.length
  | [] => by simp [cntO]
  | e :: l => by
    have := cntO_bound l
    have h : -1 ≤ stepK e.k ∧ stepK e.k ≤ 1 := by unfold stepK; split <;> (try split) <;> omega
    simp only [cntO, List.length_cons]
    omega
theorem cntO_take {ps : List VL} {k : Nat} (h : k < ps.length) : cntO ((evs ps).take (k + 1)) = cntO ((evs ps).take k) + stepK (ps.getD k default).e.k := by
  have hl : k < (evs ps).length := by unfold evs; simpa using h
  rw [List.take_add_one, List.getElem?_eq_getElem hl]
  have e : (evs ps)[k] = (ps.getD k default).e := by simp only [evs, List.getElem_map]; simp [List.getD, h]
  rw [e]
  exact cntO_snoc _ _

set_option maxRecDepth 100000 in
set_option maxHeartbeats 8000000 in
theorem opens_any (A : Option Addr) (n c : Nat) (ps : List VL) (w : World) (hE : ErrT w) (hT : NamT w) (hv : Vs w A n ps (fun k => k < w.heap.size)) (hn : n ≤ 4398046511104) :
    Calls Tryd.prog 6 #[.slice A n c] w fun e w' => e = .returned (.bool true) ∧ Fr (fun _ => False) w w' := by
  have CK := Lib.hid (known_any w hE hT)
  have HV := Lib.hid hv
  have CF := Lib.hid (fun w' (hf : Fr (fun _ => False) w w') => few_any A n c ps _ w' (HV.out.fr0 hf) (by omega))
  have HL := Lib.hid hv.len
  have hnI : (n : Int) ≤ 4398046511104 := by omega
  clear hE hT hv hn
  go_enter Tryd.func6, Tryd.ntmps6
  go_wp2_with fail
  refine CK.out.mono ?_; rintro e w1 ⟨rfl, hf1⟩
  have HF1 := Lib.hid hf1
  clear hf1 CK
  go_wp2_with fail
  refine (CF.out _ HF1.out).mono ?_; rintro e w2 ⟨q, rfl, hq, rfl⟩
  clear CF
  cases q with
  | false =>
    go_wp2
    go_ret
    exact ⟨rfl, HF1.out⟩
  | true =>
    have hn120 : n ≤ 120 := hq rfl
    clear hq
    have CC := Lib.hid (check_any A n c ps _ w1 (HV.out.fr0 HF1.out) (by omega))
    go_wp2_with fail
    refine CC.out.mono ?_; rintro e w3 ⟨v, rfl, hbk, hf3⟩
    clear CC
    have HR3 := Lib.hid (HF1.out.trans hf3 (fun _ _ h => h))
    clear hf3
    unfold BrkE at hbk
    cases hck : Bo.new.check (evs ps) with
    | some x =>
      rw [hck] at hbk
      obtain ⟨at_, cd⟩ := x
      obtain ⟨gB, rfl, -, -⟩ := hbk
      clear hck
      go_wp2
      go_ret
      exact ⟨rfl, HR3.out⟩
    | none =>
      rw [hck] at hbk
      simp only at hbk
      subst hbk
      have HCK := Lib.hid hck
      clear hck
      have CO := Lib.hid (open_any A n c ps _ w3 (HV.out.fr0 HR3.out) (by omega))
      go_wp2_with fail
      refine CO.out.mono ?_; rintro e w4 ⟨va, vt, vc, za, zt, zc, rfl, ia, it, ic, ra, rt, rc, hf4⟩
      have HCNT := Lib.hid (open_count HCK.out ia it ic)
      have HIA := Lib.hid (And.intro ia.1 ra)
      have HIT := Lib.hid (And.intro it.1 rt)
      have HIC := Lib.hid (And.intro ic.1 rc)
      have HR4 := Lib.hid (HR3.out.trans hf4 (fun _ _ h => h))
      clear ia it ic ra rt rc hf4 CO
      go_wp2_with fail
      go_loopw [6, 7] (fun u i wr => ∃ (k : Nat), u = .int .i64 (cntO ((evs ps).take k)) ∧ i = .int .i64 (k : Int) ∧ k ≤ n ∧ w4 = wr) (fun _ i _ => n - (intOf i).toNat)
      case atStart => exact ⟨0, rfl, rfl, Nat.zero_le _, rfl⟩
      case round =>
        obtain ⟨k, rfl, rfl, hk, rfl⟩ := hrel
        have hk0 : (0 : Int) ≤ (k : Int) := by omega
        have hbd := cntO_bound ((evs ps).take k)
        have hlt0 : ((evs ps).take k).length ≤ 120 := by rw [List.length_take]; omega
        by_cases hlt : k < n
        · have hlt' : (k : Int) < n := by omega
          have hkI : (k : Int) ≤ 120 := by omega
          obtain ⟨b, off, rfl, -, hcs, -⟩ := (HV.out.fr0 HR4.out).at hlt
          have HNX := Lib.hid (cntO_take (ps := ps) (k := k) (by rw [HL.out]; exact hlt))
          have q0 : w4.cell? ⟨b, off + k * 7, none⟩ = some (.int .i64 (ps.getD k default).e.k) := hcs 0 _ rfl
          obtain ⟨K, hK⟩ : ∃ K, (ps.getD k default).e.k = K := ⟨_, rfl⟩
          rw [hK] at HNX q0
          obtain ⟨z, hz⟩ : ∃ z, cntO ((evs ps).take k) = z := ⟨_, rfl⟩
          rw [hz] at HNX hbd ⊢
          have w1 : IntKind.i64.wrap ((k : Int) + 1) = (k : Int) + 1 := IntWalk.i64_in _ (by omega)
          have w2 : IntKind.i64.wrap (z + 1) = z + 1 := IntWalk.i64_in _ (by omega)
          have w3 : IntKind.i64.wrap (z - 1) = z - 1 := IntWalk.i64_in _ (by omega)
          clear hcs hK hz hbd hlt0
          by_cases hp : K = 7 ∨ K = 12 ∨ K = 17
          · have hs : stepK K = 1 := by unfold stepK; rw [if_pos hp]
            have HS : Hid (cntO ((evs ps).take (k + 1)) = z + 1) := Lib.hid (by rw [HNX.out, hs])
            clear hs HNX
            rcases hp with hk | hk | hk
            all_goals
              first | (have d7 : (K == 7) = true := by (rw [hk]; rfl)) | (have d7 : (K == 7) = false := by (rw [hk]; rfl))
              first | (have d12 : (K == 12) = true := by (rw [hk]; rfl)) | (have d12 : (K == 12) = false := by (rw [hk]; rfl))
              first | (have d17 : (K == 17) = true := by (rw [hk]; rfl)) | (have d17 : (K == 17) = false := by (rw [hk]; rfl))
              clear hk
              go_wp2
              go_roundw
              case rel => exact ⟨k + 1, by rw [HS.out], by first | rfl | (go_num; done) | (congr 1; omega), by omega, trivial⟩
              case measure => (simp [intOf]) <;> omega
          · by_cases hm : K = 9 ∨ K = 10 ∨ K = 11 ∨ K = 13 ∨ K = 14 ∨ K = 18
            · have hs : stepK K = -1 := by unfold stepK; rw [if_neg hp, if_pos hm]
              have HS : Hid (cntO ((evs ps).take (k + 1)) = z - 1) := Lib.hid (by rw [HNX.out, hs]; omega)
              clear hs HNX hp
              rcases hm with hk | hk | hk | hk | hk | hk
              all_goals
                first | (have d7 : (K == 7) = true := by (rw [hk]; rfl)) | (have d7 : (K == 7) = false := by (rw [hk]; rfl))
                first | (have d12 : (K == 12) = true := by (rw [hk]; rfl)) | (have d12 : (K == 12) = false := by (rw [hk]; rfl))
                first | (have d17 : (K == 17) = true := by (rw [hk]; rfl)) | (have d17 : (K == 17) = false := by (rw [hk]; rfl))
                first | (have d9 : (K == 9) = true := by (rw [hk]; rfl)) | (have d9 : (K == 9) = false := by (rw [hk]; rfl))
                first | (have d10 : (K == 10) = true := by (rw [hk]; rfl)) | (have d10 : (K == 10) = false := by (rw [hk]; rfl))
                first | (have d11 : (K == 11) = true := by (rw [hk]; rfl)) | (have d11 : (K == 11) = false := by (rw [hk]; rfl))
                first | (have d13 : (K == 13) = true := by (rw [hk]; rfl)) | (have d13 : (K == 13) = false := by (rw [hk]; rfl))
                first | (have d14 : (K == 14) = true := by (rw [hk]; rfl)) | (have d14 : (K == 14) = false := by (rw [hk]; rfl))
                first | (have d18 : (K == 18) = true := by (rw [hk]; rfl)) | (have d18 : (K == 18) = false := by (rw [hk]; rfl))
                clear hk
                go_wp2
                go_roundw
                case rel => exact ⟨k + 1, by rw [HS.out], by first | rfl | (go_num; done) | (congr 1; omega), by omega, trivial⟩
                case measure => (simp [intOf]) <;> omega
            · have hs : stepK K = 0 := by unfold stepK; rw [if_neg hp, if_neg hm]
              have HS : Hid (cntO ((evs ps).take (k + 1)) = z) := Lib.hid (by rw [HNX.out, hs]; omega)
              have d7 : (K == 7) = false := by simp; omega
              have d12 : (K == 12) = false := by simp; omega
              have d17 : (K == 17) = false := by simp; omega
              have d9 : (K == 9) = false := by simp; omega
              have d10 : (K == 10) = false := by simp; omega
              have d11 : (K == 11) = false := by simp; omega
              have d13 : (K == 13) = false := by simp; omega
              have d14 : (K == 14) = false := by simp; omega
              have d18 : (K == 18) = false := by simp; omega
              clear hs HNX hp hm
              go_wp2
              go_roundw
              case rel => exact ⟨k + 1, by rw [HS.out], by first | rfl | (go_num; done) | (congr 1; omega), by omega, trivial⟩
              case measure => (simp [intOf]) <;> omega
        · obtain rfl : k = n := by omega
          have hall : (evs ps).take k = evs ps := List.take_of_length_le (by unfold evs; simp [HL.out])
          rw [hall] at hbd ⊢
          rw [← HCNT.out] at hbd ⊢
          have hl1 : (evs ps).length ≤ 120 := by rw [hall] at hlt0; exact hlt0
          obtain ⟨AA, ca, rfl, -⟩ := HIA.out.2
          obtain ⟨AT, ct, rfl, -⟩ := HIT.out.2
          obtain ⟨AC, cc, rfl, -⟩ := HIC.out.2
          have w1 : IntKind.i64.wrap ((za.length : Int) + zt.length) = (za.length : Int) + zt.length := IntWalk.i64_in _ (by omega)
          have w2 : IntKind.i64.wrap ((za.length : Int) + zt.length + zc.length) = (za.length : Int) + zt.length + zc.length := IntWalk.i64_in _ (by omega)
          have C1 := Lib.hid (rises_any _ za w4 HIA.out.2 HIA.out.1 (by omega))
          have C2 := Lib.hid (fun w' (hf : Fr (fun _ => False) w4 w') => rises_any _ zt w' (HIT.out.2.fr0 hf) HIT.out.1 (by omega))
          have C3 := Lib.hid (fun w' (hf : Fr (fun _ => False) w4 w') => rises_any _ zc w' (HIC.out.2.fr0 hf) HIC.out.1 (by omega))
          generalize za.length = la at *
          generalize zt.length = lt at *
          generalize zc.length = lc at *
          clear hbd hlt0 hl1 hall hlt HCNT
          go_wp2_with fail
          refine C1.out.mono ?_; rintro e w5 ⟨rfl, hf5⟩
          have HF5 := Lib.hid hf5
          clear hf5 C1
          go_wp2_with fail
          refine (C2.out _ HF5.out).mono ?_; rintro e w6 ⟨rfl, hf6⟩
          have HF6 := Lib.hid (HF5.out.trans hf6 (fun _ _ h => h))
          clear hf6 C2
          go_wp2_with fail
          refine (C3.out _ HF6.out).mono ?_; rintro e w7 ⟨rfl, hf7⟩
          have HF7 := Lib.hid (HF6.out.trans hf7 (fun _ _ h => h))
          clear hf7 C3
          go_wp2
          go_ret
          exact ⟨rfl, HR4.out.trans HF7.out (fun _ _ h => h)⟩
end Go.Proofs.YtbopmboigcdjpaaDoor
