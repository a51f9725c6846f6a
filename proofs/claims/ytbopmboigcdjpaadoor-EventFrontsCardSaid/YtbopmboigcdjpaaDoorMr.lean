/- EventFronts, the walk. -/
import Derived.Test.YtbopmboigcdjpaaDoorMq
namespace Go.Proofs.YtbopmboigcdjpaaDoor
open Go.RowKit Go.Maps

set_option maxRecDepth 100000 in
set_option maxHeartbeats 8000000 in
theorem fronts_any (A : Option Addr) (n c : Nat) (ps : List VL) (m : Int) (p : VL) (w : World) (hE : ErrT w) (hT : NamT w) (hv : Vs w A n ps (fun k => k < w.heap.size)) (hnc : n ≤ c) (hc : c ≤ maxLen) (hn : n ≤ 4398046511104) (hm : -9223372036854775808 ≤ m ∧ m ≤ 9223372036854775807) (hp : RdV w (fun k => k < w.heap.size) p) :
    Calls Tryd.prog 5 #[.slice A n c, .int .i64 m, p.val] w fun e w' => e = .returned (.bool true) ∧ Fr (fun _ => False) w w' := by
  obtain ⟨g0, hg0⟩ : ∃ g0, w.heap.size = g0 := ⟨_, rfl⟩
  obtain ⟨W, hW⟩ : ∃ W, w.alloc (.cells p.cells.toArray 47) = W := ⟨_, rfl⟩
  have HFW : Hid (Fr (fun _ => False) w W) := Lib.hid (by rw [← hW]; exact (Fr.refl _ _).alloc _)
  have KW : Hid (Bk W g0 47 p.cells.toArray) := Lib.hid (by rw [← hW, ← hg0]; exact Bk.new _ _ _)
  have CK := Lib.hid (known_any W (hE.fr HFW.out (fun h => h)) (hT.fr HFW.out (fun h => h)))
  have HV0 := Lib.hid (hv.fr0 HFW.out)
  have HP0 := Lib.hid (hp.fr HFW.out (fun _ _ h => h))
  have HBIG := Lib.hid (And.intro hn (And.intro hnc hc))
  have CF := Lib.hid (fun w' (hf : Fr (fun _ => False) W w') => few_any A n c ps _ w' (HV0.out.fr0 hf) (by omega))
  have hncI : (n : Int) ≤ (c : Int) := by omega
  have hnI : (n : Int) ≤ 4398046511104 := by omega
  obtain ⟨⟨ek, ea, er, ei, el, en, eB⟩, eA, ec⟩ := p
  unfold VL.val VL.cells VL.bv at *
  simp only at *
  obtain ⟨ed, hed⟩ : ∃ ed, eB.length = ed := ⟨_, rfl⟩
  rw [hed] at KW hW ⊢
  have HED := Lib.hid hed
  clear hE hT hv hp hed hn hc
  go_enter Tryd.func5, Tryd.ntmps5
  go_wp2_with fail
  clear hW hg0
  refine CK.out.mono ?_; rintro e w1 ⟨rfl, hf1⟩
  have HF1 := Lib.hid hf1
  have K1 := Lib.hid (KW.out.fr hf1 (fun h => h))
  have HV1 := Lib.hid (HV0.out.fr0 hf1)
  have HP1 := Lib.hid (HP0.out.fr hf1 (fun _ _ h => h))
  clear hf1 CK KW HP0
  have k6 : w1.cell? ⟨g0, 6, none⟩ = some (.slice eA ed ec) := K1.out.cell 6
  have HR1 := Lib.hid (HFW.out.trans HF1.out (fun _ _ h => h))
  go_wp2_with fail
  refine (CF.out _ HF1.out).mono ?_; rintro e w2 ⟨q, rfl, hq, rfl⟩
  clear CF HV0
  cases q with
  | false =>
    go_wp2
    go_ret
    exact ⟨rfl, HR1.out⟩
  | true =>
    have hn120 : n ≤ 120 := hq rfl
    clear hq
    by_cases hl : ed ≤ 5000
    · have d1 : decide ((5000 : Int) < (ed : Int)) = false := decide_eq_false (by omega)
      have d1' : decide (5000 < ed) = false := decide_eq_false (by omega)
      clear hl
      by_cases hm0 : 0 ≤ m
      · have d2 : decide (m < 0) = false := decide_eq_false (by omega)
        by_cases hmn : m ≤ (n : Int)
        · obtain ⟨j, rfl⟩ : ∃ j : Nat, m = (j : Int) := ⟨m.toNat, by omega⟩
          have hjn : j ≤ n := by omega
          have d3 : decide ((n : Int) < (j : Int)) = false := decide_eq_false (by omega)
          have d3' : decide (n < j) = false := decide_eq_false (by omega)
          have CC := Lib.hid (check_any A n c ps _ w1 HV1.out (by omega))
          have hjc : (j : Int) ≤ (c : Int) := by omega
          go_wp2_with fail
          refine CC.out.mono ?_; rintro e w3 ⟨v, rfl, hbk, hf3⟩
          clear CC k6 d1 d1' d2 d3 d3'
          have HR3 := Lib.hid (HR1.out.trans hf3 (fun _ _ h => h))
          unfold BrkE at hbk
          cases hck : Bo.new.check (evs ps) with
          | some x =>
            rw [hck] at hbk
            obtain ⟨at_, cd⟩ := x
            obtain ⟨gB, rfl, -, -⟩ := hbk
            clear hck
            go_wp2
            go_ret
            exact ⟨rfl, HR3.out⟩
          | none =>
            rw [hck] at hbk
            simp only at hbk
            subst hbk
            have HCK := Lib.hid hck
            clear hck
            have HV3 := Lib.hid (HV1.out.fr0 hf3)
            have HP3 := Lib.hid (HP1.out.fr hf3 (fun _ _ h => h))
            have K3 := Lib.hid (K1.out.fr hf3 (fun h => h))
            clear hf3 HV1 HP1 K1
            have CT := Lib.hid (check_any A j c (ps.take j) _ w3 (HV3.out.take j hjn) (by omega))
            have hevt : evs (ps.take j) = (evs ps).take j := by unfold evs; rw [List.map_take]
            rw [hevt, check_front HCK.out j] at CT
            go_wp2_with fail
            refine CT.out.mono ?_; rintro e w4 ⟨v, rfl, hbk, hf4⟩
            have hbk' : v = .nilIface := hbk
            subst hbk'
            have HR4 := Lib.hid (HR3.out.trans hf4 (fun _ _ h => h))
            have HV4 := Lib.hid (HV3.out.fr0 hf4)
            have HP4 := Lib.hid (HP3.out.fr hf4 (fun _ _ h => h))
            have K4 := Lib.hid (K3.out.fr hf4 (fun h => h))
            clear hbk hf4 CT HV3 HP3 K3
            have CP := Lib.hid (prefix_any A A j n c c (ps.take j) ps _ _ w4 (HV4.out.take j hjn) HV4.out (by omega) (by omega) HBIG.out.2.1 HBIG.out.2.2)
            rw [hevt, prefB_front] at CP
            go_wp2_with fail
            refine CP.out.mono ?_; rintro e w5 ⟨rfl, hf5⟩
            have HR5 := Lib.hid (HR4.out.trans hf5 (fun _ _ h => h))
            have HV5 := Lib.hid (HV4.out.fr0 hf5)
            have HP5 := Lib.hid (HP4.out.fr hf5 (fun _ _ h => h))
            have K5 := Lib.hid (K4.out.fr hf5 (fun h => h))
            clear hf5 CP HV4 HP4 K4 hevt
            have CS := Lib.hid (status_any A n c ps _ w5 HV5.out (by omega))
            obtain ⟨st, hst⟩ : ∃ st, statusL (evs ps) = st := ⟨_, rfl⟩
            rw [hst] at CS
            have HST := Lib.hid hst
            clear hst
            go_wp2_with fail
            refine CS.out.mono ?_; rintro e w6 ⟨rfl, rfl⟩
            clear CS
            by_cases h0 : st = 0
            · subst h0
              go_wp2
              go_ret
              exact ⟨rfl, HR5.out⟩
            by_cases h1 : st = 1
            · subst h1
              go_wp2
              go_ret
              exact ⟨rfl, HR5.out⟩
            have e0 : (st == 0) = false := by simp [h0]
            have e1 : (st == 1) = false := by simp [h1]
            have HCL : Hid (Bo.new.check (evs (ps ++ [⟨⟨ek, ea, er, ei, el, en, eB⟩, eA, ec⟩])) ≠ none) := Lib.hid (by
              rw [evs_snoc, check_more HCK.out, if_pos (closed_misfit (closed_of (by rw [HST.out]; exact h0) (by rw [HST.out]; exact h1)) _)]
              simp)
            clear h0 h1 hm0 hmn
            have HV := HV5
            have KE := K5
            go_wp2_with fail
            refine wp_region_held_drew (S := (fun w' => Fr (fun _ => False) w5 w')) (by kernel_rfl) ((Fr.refl _ _).drew) (fun hHeld => ?_)
            refine wpAnyH_takeD (i := 1) (v := ?_) (some 55) rfl rfl (by kernel_rfl) (by kernel_rfl) (by kernel_rfl) (fun _ _ _ h => h) (Or.inl ⟨by rfl, ?_⟩) (by assumption) ?_
            rotate_left
            · intro w' hSw
              go_simp
              first | done | with_reducible rfl
            try simp only [Go.Act.put, List.setIfInBounds_toArray, List.set_cons_zero, List.set_cons_succ]
            refine wpAnyH_takeD (i := 3) (v := ?_) (some 57) rfl rfl (by kernel_rfl) (by kernel_rfl) (by kernel_rfl) (fun _ _ _ h => h) (Or.inl ⟨by rfl, ?_⟩) (by assumption) ?_
            rotate_left
            · intro w' hSw
              have q := KE.out.fr hSw (fun h => h); have q0 := q.cell 0; have q1 := q.cell 1; have q2 := q.cell 2; have q3 := q.cell 3; have q4 := q.cell 4; have q5 := q.cell 5; have q6 := q.cell 6; clear q
              go_simp
              first | done | with_reducible rfl
            try simp only [Go.Act.put, List.setIfInBounds_toArray, List.set_cons_zero, List.set_cons_succ]
            refine wpAnyH_ready (rs := [0, 4]) (by kernel_rfl) (by simp) ?_
            refine AllReadyH.cons rfl (fun K hK => ?_) (AllReadyH.cons rfl (fun K hK => ?_) AllReadyH.nil)
            · skip
              go_simp
              refine hK.out _ _ (hHeld.alloc _) (fun hHeld => ?_)
              clear hK K
              try change wpAnyH _ _ _ _ _ _ _ (Go.Act.put _ (some 54) _) _
              try simp only [Go.Act.put, List.setIfInBounds_toArray, List.set_cons_zero, List.set_cons_succ]
              refine wpAnyH_ready (rs := [2, 4]) (by kernel_rfl) (by simp) ?_
              refine AllReadyH.cons rfl (fun K hK => ?_) (AllReadyH.cons rfl (fun K hK => ?_) AllReadyH.nil)
              · skip
                have hN0 := newA w5
                refine stepOf_appendW teV rfl (.tmp 54) (.tmp 55) rfl _ 0 [] rfl hN0.row (.slice A n c) n (vlc ps) rfl ((HV.out.fr0 hN0.fr).sl) (vlc_one _) (by unfold maxLen; omega) (by omega) ?_
                intro A8 c8 w8 hr8 hf8 hm8
                have hN8' := hN0.step hr8 hf8 hm8
                simp only [Nat.zero_add, List.nil_append] at hN8' ⊢
                have HN8 := Lib.hid hN8'
                clear hN0 hr8 hf8 hm8 hN8'
                refine hK.out _ _ (HN8.out.fr) (fun hHeld => ?_)
                clear hK K
                try change wpAnyH _ _ _ _ _ _ _ (Go.Act.put _ (some 56) _) _
                try simp only [Go.Act.put, List.setIfInBounds_toArray, List.set_cons_zero, List.set_cons_succ]
                refine wpAnyH_ready (rs := [4]) (by kernel_rfl) (by simp) ?_
                refine AllReadyH.cons rfl (fun K hK => ?_) AllReadyH.nil
                go_simp
                refine hK.out _ _ (hHeld.trans ((Fr.refl _ _).alloc _) (fun _ _ h => h)) (fun hHeld => ?_)
                clear hK K
                try change wpAnyH _ _ _ _ _ _ _ (Go.Act.put _ (some 58) _) _
                try simp only [Go.Act.put, List.setIfInBounds_toArray, List.set_cons_zero, List.set_cons_succ]
                refine wpAnyH_ready (rs := [5]) (by kernel_rfl) (by simp) ?_
                refine AllReadyH.cons rfl (fun K hK => ?_) AllReadyH.nil
                have hN8 := HN8.out.fr0 (show Fr (fun _ => False) w8 (w8.alloc (.cells #[.int .i64 ek, .int .i64 ea, .int .i64 er, .int .i64 ei, .int .i64 el, .int .i64 en, .slice eA ed ec] 47)) from (Fr.refl _ _).alloc _)
                refine stepOf_appendW teV rfl (.tmp 56) (.tmp 58) rfl (.slice A8 n c8) n (vlc ps) rfl hN8.row _ 1 [.int .i64 ek, .int .i64 ea, .int .i64 er, .int .i64 ei, .int .i64 el, .int .i64 en, .slice eA ed ec] rfl (sl1c rfl (show Bk (w8.alloc (.cells #[.int .i64 ek, .int .i64 ea, .int .i64 er, .int .i64 ei, .int .i64 el, .int .i64 en, .slice eA ed ec] 47)) w8.heap.size 47 #[.int .i64 ek, .int .i64 ea, .int .i64 er, .int .i64 ei, .int .i64 el, .int .i64 en, .slice eA ed ec] from Bk.new _ _ _)) (fun u hu => by simp at hu; rcases hu with rfl | rfl | rfl | rfl | rfl | rfl | rfl <;> rfl) (by unfold maxLen; omega) (by omega) ?_
                intro A9 c9 w9 hr9 hf9 hm9
                have HN9 := Lib.hid (hN8.step hr9 hf9 hm9)
                clear hN8 hr9 hf9 hm9
                refine hK.out _ _ (HN9.out.fr) (fun hHeld => ?_)
                clear hK K
                try change wpAnyH _ _ _ _ _ _ _ (Go.Act.put _ (some 59) _) _
                try simp only [Go.Act.put, List.setIfInBounds_toArray, List.set_cons_zero, List.set_cons_succ]
                refine wpAnyH_takeD (i := 6) (v := ?_) (some 8) rfl rfl (by kernel_rfl) (by kernel_rfl) (by kernel_rfl) (fun _ _ _ h => h) (Or.inl ⟨by rfl, ?_⟩) (by assumption) ?_
                rotate_left
                · intro w' hSw
                  go_simp
                  first | done | with_reducible rfl
                try simp only [Go.Act.put, List.setIfInBounds_toArray, List.set_cons_zero, List.set_cons_succ]
                refine wpAnyH_done (by kernel_rfl) ?_ _
                have hcx : Vs w9 A9 (n + 1) (ps ++ [⟨⟨ek, ea, er, ei, el, en, eB⟩, eA, ec⟩]) _ := vs_more (p := ⟨⟨ek, ea, er, ei, el, en, eB⟩, eA, ec⟩) (by have := HN9.out; rw [← HED.out] at this; exact this) (HV5.out) HP5.out
                have CZ := Lib.hid (check_any A9 (n + 1) c9 _ _ w9 hcx (by omega))
                have HR9 := Lib.hid (HR5.out.trans HN9.out.fr (fun _ _ h => h))
                clear hcx
                go_wp2_with fail
                refine CZ.out.mono ?_; rintro e wz ⟨v, rfl, hbk, hfz⟩
                have HRZ := Lib.hid (HR9.out.trans hfz (fun _ _ h => h))
                unfold BrkE at hbk
                cases hck : Bo.new.check (evs (ps ++ [⟨⟨ek, ea, er, ei, el, en, eB⟩, eA, ec⟩])) with
                | none => exact absurd hck HCL.out
                | some x =>
                  rw [hck] at hbk
                  obtain ⟨at_, cd⟩ := x
                  obtain ⟨gB, rfl, -, -⟩ := hbk
                  clear hck hfz
                  go_wp2
                  go_ret
                  exact ⟨rfl, HRZ.out⟩

              · skip
                go_simp
                refine hK.out _ _ (hHeld.trans ((Fr.refl _ _).alloc _) (fun _ _ h => h)) (fun hHeld => ?_)
                clear hK K
                try change wpAnyH _ _ _ _ _ _ _ (Go.Act.put _ (some 58) _) _
                try simp only [Go.Act.put, List.setIfInBounds_toArray, List.set_cons_zero, List.set_cons_succ]
                refine wpAnyH_ready (rs := [2]) (by kernel_rfl) (by simp) ?_
                refine AllReadyH.cons rfl (fun K hK => ?_) AllReadyH.nil
                have hN0 := newB w5 (.cells #[.int .i64 ek, .int .i64 ea, .int .i64 er, .int .i64 ei, .int .i64 el, .int .i64 en, .slice eA ed ec] 47)
                refine stepOf_appendW teV rfl (.tmp 54) (.tmp 55) rfl _ 0 [] rfl hN0.row (.slice A n c) n (vlc ps) rfl ((HV.out.fr0 hN0.fr).sl) (vlc_one _) (by unfold maxLen; omega) (by omega) ?_
                intro A8 c8 w8 hr8 hf8 hm8
                have hN8' := hN0.step hr8 hf8 hm8
                simp only [Nat.zero_add, List.nil_append] at hN8' ⊢
                have HN8 := Lib.hid hN8'
                have HSE : Hid (Sl w8 7 (.slice (some ⟨w5.heap.size + 1, 0, none⟩) 1 1) 1 [.int .i64 ek, .int .i64 ea, .int .i64 er, .int .i64 ei, .int .i64 el, .int .i64 en, .slice eA ed ec]) := Lib.hid (sl1c rfl (Bk.fr (w := ((w5.alloc O0).alloc (.cells #[.int .i64 ek, .int .i64 ea, .int .i64 er, .int .i64 ei, .int .i64 el, .int .i64 en, .slice eA ed ec] 47)).drew) (by have := (Bk.new (w5.alloc O0) 47 #[.int .i64 ek, .int .i64 ea, .int .i64 er, .int .i64 ei, .int .i64 el, .int .i64 en, .slice eA ed ec]).drew; rw [show (w5.alloc O0).heap.size = w5.heap.size + 1 by simp] at this; exact this) hf8 (fun e => by have e' : w5.heap.size = w5.heap.size + 1 := (by injection e); omega)))
                clear hN0 hr8 hf8 hm8 hN8'
                refine hK.out _ _ (HN8.out.fr) (fun hHeld => ?_)
                clear hK K
                try change wpAnyH _ _ _ _ _ _ _ (Go.Act.put _ (some 56) _) _
                try simp only [Go.Act.put, List.setIfInBounds_toArray, List.set_cons_zero, List.set_cons_succ]
                refine wpAnyH_ready (rs := [5]) (by kernel_rfl) (by simp) ?_
                refine AllReadyH.cons rfl (fun K hK => ?_) AllReadyH.nil
                have hN8 := HN8.out
                refine stepOf_appendW teV rfl (.tmp 56) (.tmp 58) rfl (.slice A8 n c8) n (vlc ps) rfl hN8.row _ 1 [.int .i64 ek, .int .i64 ea, .int .i64 er, .int .i64 ei, .int .i64 el, .int .i64 en, .slice eA ed ec] rfl HSE.out (fun u hu => by simp at hu; rcases hu with rfl | rfl | rfl | rfl | rfl | rfl | rfl <;> rfl) (by unfold maxLen; omega) (by omega) ?_
                intro A9 c9 w9 hr9 hf9 hm9
                have HN9 := Lib.hid (hN8.step hr9 hf9 hm9)
                clear hN8 hr9 hf9 hm9
                refine hK.out _ _ (HN9.out.fr) (fun hHeld => ?_)
                clear hK K
                try change wpAnyH _ _ _ _ _ _ _ (Go.Act.put _ (some 59) _) _
                try simp only [Go.Act.put, List.setIfInBounds_toArray, List.set_cons_zero, List.set_cons_succ]
                refine wpAnyH_takeD (i := 6) (v := ?_) (some 8) rfl rfl (by kernel_rfl) (by kernel_rfl) (by kernel_rfl) (fun _ _ _ h => h) (Or.inl ⟨by rfl, ?_⟩) (by assumption) ?_
                rotate_left
                · intro w' hSw
                  go_simp
                  first | done | with_reducible rfl
                try simp only [Go.Act.put, List.setIfInBounds_toArray, List.set_cons_zero, List.set_cons_succ]
                refine wpAnyH_done (by kernel_rfl) ?_ _
                have hcx : Vs w9 A9 (n + 1) (ps ++ [⟨⟨ek, ea, er, ei, el, en, eB⟩, eA, ec⟩]) _ := vs_more (p := ⟨⟨ek, ea, er, ei, el, en, eB⟩, eA, ec⟩) (by have := HN9.out; rw [← HED.out] at this; exact this) (HV5.out) HP5.out
                have CZ := Lib.hid (check_any A9 (n + 1) c9 _ _ w9 hcx (by omega))
                have HR9 := Lib.hid (HR5.out.trans HN9.out.fr (fun _ _ h => h))
                clear hcx
                go_wp2_with fail
                refine CZ.out.mono ?_; rintro e wz ⟨v, rfl, hbk, hfz⟩
                have HRZ := Lib.hid (HR9.out.trans hfz (fun _ _ h => h))
                unfold BrkE at hbk
                cases hck : Bo.new.check (evs (ps ++ [⟨⟨ek, ea, er, ei, el, en, eB⟩, eA, ec⟩])) with
                | none => exact absurd hck HCL.out
                | some x =>
                  rw [hck] at hbk
                  obtain ⟨at_, cd⟩ := x
                  obtain ⟨gB, rfl, -, -⟩ := hbk
                  clear hck hfz
                  go_wp2
                  go_ret
                  exact ⟨rfl, HRZ.out⟩

            · skip
              go_simp
              refine hK.out _ _ (hHeld.trans ((Fr.refl _ _).alloc _) (fun _ _ h => h)) (fun hHeld => ?_)
              clear hK K
              try change wpAnyH _ _ _ _ _ _ _ (Go.Act.put _ (some 58) _) _
              try simp only [Go.Act.put, List.setIfInBounds_toArray, List.set_cons_zero, List.set_cons_succ]
              refine wpAnyH_ready (rs := [0]) (by kernel_rfl) (by simp) ?_
              refine AllReadyH.cons rfl (fun K hK => ?_) AllReadyH.nil
              go_simp
              refine hK.out _ _ (hHeld.alloc _) (fun hHeld => ?_)
              clear hK K
              try change wpAnyH _ _ _ _ _ _ _ (Go.Act.put _ (some 54) _) _
              try simp only [Go.Act.put, List.setIfInBounds_toArray, List.set_cons_zero, List.set_cons_succ]
              refine wpAnyH_ready (rs := [2]) (by kernel_rfl) (by simp) ?_
              refine AllReadyH.cons rfl (fun K hK => ?_) AllReadyH.nil
              have hN0 := newC w5 (.cells #[.int .i64 ek, .int .i64 ea, .int .i64 er, .int .i64 ei, .int .i64 el, .int .i64 en, .slice eA ed ec] 47)
              refine stepOf_appendW teV rfl (.tmp 54) (.tmp 55) rfl _ 0 [] rfl hN0.row (.slice A n c) n (vlc ps) rfl ((HV.out.fr0 hN0.fr).sl) (vlc_one _) (by unfold maxLen; omega) (by omega) ?_
              intro A8 c8 w8 hr8 hf8 hm8
              have hN8' := hN0.step hr8 hf8 hm8
              simp only [Nat.zero_add, List.nil_append] at hN8' ⊢
              have HN8 := Lib.hid hN8'
              have HSE : Hid (Sl w8 7 (.slice (some ⟨w5.heap.size, 0, none⟩) 1 1) 1 [.int .i64 ek, .int .i64 ea, .int .i64 er, .int .i64 ei, .int .i64 el, .int .i64 en, .slice eA ed ec]) := Lib.hid (sl1c rfl (Bk.fr (w := ((w5.alloc (.cells #[.int .i64 ek, .int .i64 ea, .int .i64 er, .int .i64 ei, .int .i64 el, .int .i64 en, .slice eA ed ec] 47)).alloc O0).drew) ((((Bk.new w5 47 #[.int .i64 ek, .int .i64 ea, .int .i64 er, .int .i64 ei, .int .i64 el, .int .i64 en, .slice eA ed ec]).alloc O0)).drew) hf8 (fun e => by have e' : w5.heap.size + 1 = w5.heap.size := (by injection e); omega)))
              clear hN0 hr8 hf8 hm8 hN8'
              refine hK.out _ _ (HN8.out.fr) (fun hHeld => ?_)
              clear hK K
              try change wpAnyH _ _ _ _ _ _ _ (Go.Act.put _ (some 56) _) _
              try simp only [Go.Act.put, List.setIfInBounds_toArray, List.set_cons_zero, List.set_cons_succ]
              refine wpAnyH_ready (rs := [5]) (by kernel_rfl) (by simp) ?_
              refine AllReadyH.cons rfl (fun K hK => ?_) AllReadyH.nil
              have hN8 := HN8.out
              refine stepOf_appendW teV rfl (.tmp 56) (.tmp 58) rfl (.slice A8 n c8) n (vlc ps) rfl hN8.row _ 1 [.int .i64 ek, .int .i64 ea, .int .i64 er, .int .i64 ei, .int .i64 el, .int .i64 en, .slice eA ed ec] rfl HSE.out (fun u hu => by simp at hu; rcases hu with rfl | rfl | rfl | rfl | rfl | rfl | rfl <;> rfl) (by unfold maxLen; omega) (by omega) ?_
              intro A9 c9 w9 hr9 hf9 hm9
              have HN9 := Lib.hid (hN8.step hr9 hf9 hm9)
              clear hN8 hr9 hf9 hm9
              refine hK.out _ _ (HN9.out.fr) (fun hHeld => ?_)
              clear hK K
              try change wpAnyH _ _ _ _ _ _ _ (Go.Act.put _ (some 59) _) _
              try simp only [Go.Act.put, List.setIfInBounds_toArray, List.set_cons_zero, List.set_cons_succ]
              refine wpAnyH_takeD (i := 6) (v := ?_) (some 8) rfl rfl (by kernel_rfl) (by kernel_rfl) (by kernel_rfl) (fun _ _ _ h => h) (Or.inl ⟨by rfl, ?_⟩) (by assumption) ?_
              rotate_left
              · intro w' hSw
                go_simp
                first | done | with_reducible rfl
              try simp only [Go.Act.put, List.setIfInBounds_toArray, List.set_cons_zero, List.set_cons_succ]
              refine wpAnyH_done (by kernel_rfl) ?_ _
              have hcx : Vs w9 A9 (n + 1) (ps ++ [⟨⟨ek, ea, er, ei, el, en, eB⟩, eA, ec⟩]) _ := vs_more (p := ⟨⟨ek, ea, er, ei, el, en, eB⟩, eA, ec⟩) (by have := HN9.out; rw [← HED.out] at this; exact this) (HV5.out) HP5.out
              have CZ := Lib.hid (check_any A9 (n + 1) c9 _ _ w9 hcx (by omega))
              have HR9 := Lib.hid (HR5.out.trans HN9.out.fr (fun _ _ h => h))
              clear hcx
              go_wp2_with fail
              refine CZ.out.mono ?_; rintro e wz ⟨v, rfl, hbk, hfz⟩
              have HRZ := Lib.hid (HR9.out.trans hfz (fun _ _ h => h))
              unfold BrkE at hbk
              cases hck : Bo.new.check (evs (ps ++ [⟨⟨ek, ea, er, ei, el, en, eB⟩, eA, ec⟩])) with
              | none => exact absurd hck HCL.out
              | some x =>
                rw [hck] at hbk
                obtain ⟨at_, cd⟩ := x
                obtain ⟨gB, rfl, -, -⟩ := hbk
                clear hck hfz
                go_wp2
                go_ret
                exact ⟨rfl, HRZ.out⟩

        · have d3 : decide ((n : Int) < m) = true := decide_eq_true (by omega)
          clear hmn hm0
          go_wp2
          go_ret
          exact ⟨rfl, HR1.out⟩
      · have d2 : decide (m < 0) = true := decide_eq_true (by omega)
        clear hm0
        go_wp2
        go_ret
        exact ⟨rfl, HR1.out⟩
    · have d1 : decide ((5000 : Int) < (ed : Int)) = true := decide_eq_true (by omega)
      have d1' : decide (5000 < ed) = true := decide_eq_true (by omega)
      clear hl
      go_wp2
      go_ret
      exact ⟨rfl, HR1.out⟩
end Go.Proofs.YtbopmboigcdjpaaDoor
