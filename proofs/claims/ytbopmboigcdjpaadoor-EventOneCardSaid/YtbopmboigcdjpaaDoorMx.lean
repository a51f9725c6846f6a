/- EventOne, the walk. -/
import Derived.Test.YtbopmboigcdjpaaDoorMw2
import Derived.Test.YtbopmboigcdjpaaDoorMw3
namespace Go.Proofs.YtbopmboigcdjpaaDoor
open Go.RowKit Go.Maps

set_option maxRecDepth 100000 in
set_option maxHeartbeats 8000000 in
theorem one_any (A : Option Addr) (n c : Nat) (ps : List VL) (p : VL) (w : World) (hE : ErrT w) (hT : NamT w) (hv : Vs w A n ps (fun k => k < w.heap.size)) (hn : n ≤ 4398046511104) (hp : RdV w (fun k => k < w.heap.size) p) :
    Calls Tryd.prog 7 #[.slice A n c, p.val] w fun e w' => e = .returned (.bool true) ∧ Fr (fun _ => False) w w' := by
  obtain ⟨g0, hg0⟩ : ∃ g0, w.heap.size = g0 := ⟨_, rfl⟩
  obtain ⟨W, hW⟩ : ∃ W, w.alloc (.cells p.cells.toArray 47) = W := ⟨_, rfl⟩
  have HFW : Hid (Fr (fun _ => False) w W) := Lib.hid (by rw [← hW]; exact (Fr.refl _ _).alloc _)
  have KW : Hid (Bk W g0 47 p.cells.toArray) := Lib.hid (by rw [← hW, ← hg0]; exact Bk.new _ _ _)
  have CK := Lib.hid (known_any W (hE.fr HFW.out (fun h => h)) (hT.fr HFW.out (fun h => h)))
  have HEE := Lib.hid (hE.fr HFW.out (fun h => h))
  have HV0 := Lib.hid (hv.fr0 HFW.out)
  have HP0 := Lib.hid (hp.fr HFW.out (fun _ _ h => h))
  have CF := Lib.hid (fun w' (hf : Fr (fun _ => False) W w') => few_any A n c ps _ w' (HV0.out.fr0 hf) (by omega))
  have hnI : (n : Int) ≤ 4398046511104 := by omega
  have CY := Lib.hid (fun w' (hf : Fr (fun _ => False) W w') (hn : n ≤ 1048576) => rwhy_any A n c ps _ w' (HV0.out.fr0 hf) hn p hp.ok)
  obtain ⟨⟨ek, ea, er, ei, el, en, eB⟩, eA, ec⟩ := p
  unfold VL.val VL.cells VL.bv at *
  simp only at *
  obtain ⟨ed, hed⟩ : ∃ ed, eB.length = ed := ⟨_, rfl⟩
  rw [hed] at KW hW CY ⊢
  have HED := Lib.hid hed
  clear hE hT hv hp hed hn
  go_enter Tryd.func7, Tryd.ntmps7
  go_wp2_with fail
  clear hW hg0
  refine CK.out.mono ?_; rintro e w1 ⟨rfl, hf1⟩
  have HF1 := Lib.hid hf1
  have K1 := Lib.hid (KW.out.fr hf1 (fun h => h))
  have HV1 := Lib.hid (HV0.out.fr0 hf1)
  have HP1 := Lib.hid (HP0.out.fr hf1 (fun _ _ h => h))
  clear hf1 CK KW HP0
  have k6 : w1.cell? ⟨g0, 6, none⟩ = some (.slice eA ed ec) := K1.out.cell 6
  have HR1 := Lib.hid (HFW.out.trans HF1.out (fun _ _ h => h))
  go_wp2_with fail
  refine (CF.out _ HF1.out).mono ?_; rintro e w2 ⟨q, rfl, hq, rfl⟩
  clear CF
  cases q with
  | false =>
    go_wp2
    go_ret
    exact ⟨rfl, HR1.out⟩
  | true =>
    clear hq
    by_cases hn60 : n ≤ 60
    · have d2 : decide ((60 : Int) < (n : Int)) = false := decide_eq_false (by omega)
      have d2' : decide (60 < n) = false := decide_eq_false (by omega)
      by_cases hl : ed ≤ 5000
      · have d1 : decide ((5000 : Int) < (ed : Int)) = false := decide_eq_false (by omega)
        have d1' : decide (5000 < ed) = false := decide_eq_false (by omega)
        clear hl
        have CC := Lib.hid (check_any A n c ps _ w1 HV1.out (by omega))
        go_wp2_with fail
        refine CC.out.mono ?_; rintro e w3 ⟨v, rfl, hbk, hf3⟩
        clear CC k6 d1 d1' d2 d2'
        have HR3 := Lib.hid (HR1.out.trans hf3 (fun _ _ h => h))
        unfold BrkE at hbk
        cases hck : Bo.new.check (evs ps) with
        | some x =>
          rw [hck] at hbk
          obtain ⟨at_, cd⟩ := x
          obtain ⟨gB, rfl, -, -⟩ := hbk
          clear hck
          go_wp2
          go_ret
          exact ⟨rfl, HR3.out⟩
        | none =>
          rw [hck] at hbk
          simp only at hbk
          subst hbk
          have HCK := Lib.hid hck
          clear hck
          have HV := Lib.hid (HV1.out.fr0 hf3)
          have HP3 := Lib.hid (HP1.out.fr hf3 (fun _ _ h => h))
          have KE := Lib.hid (K1.out.fr hf3 (fun h => h))
          have HF3 := Lib.hid (HF1.out.trans hf3 (fun _ _ h => h))
          clear hf3 HV1 HP1 K1
          have hn120 : n ≤ 120 := by omega
          go_wp2_with fail
          refine wp_region_held_drew (S := (fun w' => Fr (fun _ => False) w3 w')) (by kernel_rfl) ((Fr.refl _ _).drew) (fun hHeld => ?_)
          refine wpAnyH_takeD (i := 1) (v := ?_) (some 31) rfl rfl (by kernel_rfl) (by kernel_rfl) (by kernel_rfl) (fun _ _ _ h => h) (Or.inl ⟨by rfl, ?_⟩) (by assumption) ?_
          rotate_left
          · intro w' hSw
            go_simp
            first | done | with_reducible rfl
          try simp only [Go.Act.put, List.setIfInBounds_toArray, List.set_cons_zero, List.set_cons_succ]
          refine wpAnyH_takeD (i := 3) (v := ?_) (some 33) rfl rfl (by kernel_rfl) (by kernel_rfl) (by kernel_rfl) (fun _ _ _ h => h) (Or.inl ⟨by rfl, ?_⟩) (by assumption) ?_
          rotate_left
          · intro w' hSw
            have q := KE.out.fr hSw (fun h => h); have q0 := q.cell 0; have q1 := q.cell 1; have q2 := q.cell 2; have q3 := q.cell 3; have q4 := q.cell 4; have q5 := q.cell 5; have q6 := q.cell 6; clear q
            go_simp
            first | done | with_reducible rfl
          try simp only [Go.Act.put, List.setIfInBounds_toArray, List.set_cons_zero, List.set_cons_succ]
          refine wpAnyH_ready (rs := [0, 4]) (by kernel_rfl) (by simp) ?_
          refine AllReadyH.cons rfl (fun K hK => ?_) (AllReadyH.cons rfl (fun K hK => ?_) AllReadyH.nil)
          · skip
            go_simp
            refine hK.out _ _ (hHeld.alloc _) (fun hHeld => ?_)
            clear hK K
            try change wpAnyH _ _ _ _ _ _ _ (Go.Act.put _ (some 30) _) _
            try simp only [Go.Act.put, List.setIfInBounds_toArray, List.set_cons_zero, List.set_cons_succ]
            refine wpAnyH_ready (rs := [2, 4]) (by kernel_rfl) (by simp) ?_
            refine AllReadyH.cons rfl (fun K hK => ?_) (AllReadyH.cons rfl (fun K hK => ?_) AllReadyH.nil)
            · skip
              have hN0 := newA w3
              refine stepOf_appendW teV rfl (.tmp 30) (.tmp 31) rfl _ 0 [] rfl hN0.row (.slice A n c) n (vlc ps) rfl ((HV.out.fr0 hN0.fr).sl) (vlc_one _) (by unfold maxLen; omega) (by omega) ?_
              intro A8 c8 w8 hr8 hf8 hm8
              have hN8' := hN0.step hr8 hf8 hm8
              simp only [Nat.zero_add, List.nil_append] at hN8' ⊢
              have HN8 := Lib.hid hN8'
              clear hN0 hr8 hf8 hm8 hN8'
              refine hK.out _ _ (HN8.out.fr) (fun hHeld => ?_)
              clear hK K
              try change wpAnyH _ _ _ _ _ _ _ (Go.Act.put _ (some 32) _) _
              try simp only [Go.Act.put, List.setIfInBounds_toArray, List.set_cons_zero, List.set_cons_succ]
              refine wpAnyH_ready (rs := [4]) (by kernel_rfl) (by simp) ?_
              refine AllReadyH.cons rfl (fun K hK => ?_) AllReadyH.nil
              go_simp
              refine hK.out _ _ (hHeld.trans ((Fr.refl _ _).alloc _) (fun _ _ h => h)) (fun hHeld => ?_)
              clear hK K
              try change wpAnyH _ _ _ _ _ _ _ (Go.Act.put _ (some 34) _) _
              try simp only [Go.Act.put, List.setIfInBounds_toArray, List.set_cons_zero, List.set_cons_succ]
              refine wpAnyH_ready (rs := [5]) (by kernel_rfl) (by simp) ?_
              refine AllReadyH.cons rfl (fun K hK => ?_) AllReadyH.nil
              have hN8 := HN8.out.fr0 (show Fr (fun _ => False) w8 (w8.alloc (.cells #[.int .i64 ek, .int .i64 ea, .int .i64 er, .int .i64 ei, .int .i64 el, .int .i64 en, .slice eA ed ec] 47)) from (Fr.refl _ _).alloc _)
              refine stepOf_appendW teV rfl (.tmp 32) (.tmp 34) rfl (.slice A8 n c8) n (vlc ps) rfl hN8.row _ 1 [.int .i64 ek, .int .i64 ea, .int .i64 er, .int .i64 ei, .int .i64 el, .int .i64 en, .slice eA ed ec] rfl (sl1c rfl (show Bk (w8.alloc (.cells #[.int .i64 ek, .int .i64 ea, .int .i64 er, .int .i64 ei, .int .i64 el, .int .i64 en, .slice eA ed ec] 47)) w8.heap.size 47 #[.int .i64 ek, .int .i64 ea, .int .i64 er, .int .i64 ei, .int .i64 el, .int .i64 en, .slice eA ed ec] from Bk.new _ _ _)) (fun u hu => by simp at hu; rcases hu with rfl | rfl | rfl | rfl | rfl | rfl | rfl <;> rfl) (by unfold maxLen; omega) (by omega) ?_
              intro A9 c9 w9 hr9 hf9 hm9
              have HN9 := Lib.hid (hN8.step hr9 hf9 hm9)
              clear hN8 hr9 hf9 hm9
              refine hK.out _ _ (HN9.out.fr) (fun hHeld => ?_)
              clear hK K
              try change wpAnyH _ _ _ _ _ _ _ (Go.Act.put _ (some 35) _) _
              try simp only [Go.Act.put, List.setIfInBounds_toArray, List.set_cons_zero, List.set_cons_succ]
              refine wpAnyH_takeD (i := 6) (v := ?_) (some 5) rfl rfl (by kernel_rfl) (by kernel_rfl) (by kernel_rfl) (fun _ _ _ h => h) (Or.inl ⟨by rfl, ?_⟩) (by assumption) ?_
              rotate_left
              · intro w' hSw
                go_simp
                first | done | with_reducible rfl
              try simp only [Go.Act.put, List.setIfInBounds_toArray, List.set_cons_zero, List.set_cons_succ]
              refine wpAnyH_done (by kernel_rfl) ?_ _
              have hcx : Vs w9 A9 (n + 1) (ps ++ [⟨⟨ek, ea, er, ei, el, en, eB⟩, eA, ec⟩]) _ := vs_more (p := ⟨⟨ek, ea, er, ei, el, en, eB⟩, eA, ec⟩) (by have := HN9.out; rw [← HED.out] at this; exact this) HV.out HP3.out
              have HCX := Lib.hid hcx
              have HR9 := Lib.hid (HR3.out.trans HN9.out.fr (fun _ _ h => h))
              have HF9 := Lib.hid (HF3.out.trans HN9.out.fr (fun _ _ h => h))
              have K9 := Lib.hid (KE.out.fr HN9.out.fr (fun h => h))
              have HMW : Hid (Bo.new.check (evs (ps ++ [⟨⟨ek, ea, er, ei, el, en, eB⟩, eA, ec⟩])) = if whyR (evs ps) ⟨ek, ea, er, ei, el, en, eB⟩ ≠ 0 then some (n + 1, whyR (evs ps) ⟨ek, ea, er, ei, el, en, eB⟩) else none) := Lib.hid (by
                rw [evs_snoc, check_more HCK.out, (hist_of HCK.out).inv.why, evs_len HV.out])
              clear hcx HN9
              obtain ⟨cd, hcd⟩ : ∃ cd, whyR (evs ps) ⟨ek, ea, er, ei, el, en, eB⟩ = cd := ⟨_, rfl⟩
              rw [hcd] at CY HMW
              clear hcd
              have j0 : w9.cell? ⟨g0, 0, none⟩ = some (.int .i64 ek) := K9.out.cell 0
              have j1 : w9.cell? ⟨g0, 1, none⟩ = some (.int .i64 ea) := K9.out.cell 1
              have j2 : w9.cell? ⟨g0, 2, none⟩ = some (.int .i64 er) := K9.out.cell 2
              have j3 : w9.cell? ⟨g0, 3, none⟩ = some (.int .i64 ei) := K9.out.cell 3
              have j4 : w9.cell? ⟨g0, 4, none⟩ = some (.int .i64 el) := K9.out.cell 4
              have j5 : w9.cell? ⟨g0, 5, none⟩ = some (.int .i64 en) := K9.out.cell 5
              have j6 : w9.cell? ⟨g0, 6, none⟩ = some (.slice eA ed ec) := K9.out.cell 6
              go_wp2_with fail
              refine (CY.out w9 HF9.out (by omega)).mono ?_; rintro e wy ⟨rfl, hfy⟩
              have HRY := Lib.hid (HR9.out.trans hfy (fun _ _ h => h))
              have HFY := Lib.hid (HF9.out.trans hfy (fun _ _ h => h))
              have CZ := Lib.hid (check_any A9 (n + 1) c9 _ _ wy (HCX.out.fr0 hfy) (by omega))
              rw [HMW.out] at CZ
              clear hfy j0 j1 j2 j3 j4 j5 j6 CY
              go_wp2_with fail
              refine CZ.out.mono ?_; rintro e wz ⟨v, rfl, hbk, hfz⟩
              have HRZ := Lib.hid (HRY.out.trans hfz (fun _ _ h => h))
              have HFZ := Lib.hid (HFY.out.trans hfz (fun _ _ h => h))
              clear hfz CZ
              by_cases hc0 : cd = 0
              · subst hc0
                have hbk' : v = .nilIface := hbk
                subst hbk'
                have hw0 : wordW 0 = ⟨#[]⟩ := rfl
                rw [hw0]
                clear hbk
                go_wp2
                go_ret
                exact ⟨rfl, HRZ.out⟩
              · rw [if_pos hc0] at hbk
                obtain ⟨gB, rfl, hbB, hlB⟩ := hbk
                have HB := Lib.hid hbB
                have hsz : (wordW cd).size ≤ 100 := by
                  unfold wordW; split <;> decide
                have hne : (wordW cd).toList.isEmpty = false := by have := wordW_ne hc0; simpa using this
                have HPL := Lib.hid (fun w' => place_any (n + 1) (by omega) w')
                have HTX : Hid (brkText (n + 1) (wordW cd) = sEvent ++ decB (n + 1) ++ sColon ++ wordW cd) := Lib.hid rfl
                have HBE := Lib.hid (fun w' (c0 : w'.cell? ⟨gB, 0, none⟩ = some (.int .i64 ((n + 1 : Nat) : Int))) (c1 : w'.cell? ⟨gB, 1, none⟩ = some (.string (wordW cd))) => brkError_any gB (n + 1) (wordW cd) w' (by omega) hsz c0 c1)
                have hdz := decB_size (i := n + 1) (by omega)
                generalize wordW cd = s at *
                generalize decB (n + 1) = dd at *
                generalize brkText (n + 1) s = tx at *
                unfold sEvent sColon at HTX
                have s1 : ¬ 9223372036854775807 < 6 + dd.size := by omega
                have s2 : ¬ 9223372036854775807 < 6 + dd.size + 2 := by omega
                have s3 : ¬ 9223372036854775807 < 6 + dd.size + 2 + s.size := by omega
                obtain ⟨gt, hgt⟩ : ∃ gt, wz.heap.size = gt := ⟨_, rfl⟩
                obtain ⟨W2, hW2⟩ : ∃ W2, wz.alloc (.cells #[.pointer none] 30) = W2 := ⟨_, rfl⟩
                have KT : Hid (Bk W2 gt 30 #[.pointer none]) := Lib.hid (by rw [← hW2, ← hgt]; exact Bk.new _ _ _)
                have F2 : Hid (Fr (fun _ => False) wz W2) := Lib.hid (by rw [← hW2]; exact (Fr.refl _ _).alloc _)
                have HGT : Hid (gB < gt ∧ w.heap.size ≤ gt) := Lib.hid (by have := hbB.lt; have h2 := HRZ.out.size; exact ⟨by omega, by omega⟩)
                have HB2 := Lib.hid (HB.out.fr F2.out (fun h => h))
                have CA := Lib.hid (as_broken ⟨gt, 0, none⟩ ⟨gB, 0, none⟩ (.pointer none) W2 ((HEE.out.fr HFZ.out (fun h => h)).fr F2.out (fun h => h)) (KT.out.cell 0) (KT.out.frozen 0))
                clear hc0 hbB hlB hdz
                go_wp2_with fail
                clear hW2 hgt
                refine CA.out.mono ?_; rintro e w4 ⟨rfl, hf4, hc4⟩
                have HF4 := Lib.hid hf4
                have HB4 := Lib.hid (HB2.out.fr HF4.out (fun e => by have := HGT.out.1; have e' : gB = gt := e; omega))
                clear hf4 CA KT
                have CE := Lib.hid (HBE.out w4 (HB4.out.cell 0) (HB4.out.cell 1))
                go_wp2_with fail
                refine CE.out.mono ?_; rintro e w5 ⟨rfl, hf5⟩
                have HF5 := Lib.hid hf5
                clear hf5 CE hc4
                go_wp2_with fail
                refine (HPL.out w5).mono ?_; rintro e w6 ⟨rfl, hf6⟩
                have HF6 := Lib.hid hf6
                clear hf6 HPL
                have htx : tx = ⟨#[101, 118, 101, 110, 116, 32]⟩ ++ dd ++ ⟨#[58, 32]⟩ ++ s := HTX.out
                rw [htx]
                clear htx HTX HBE
                go_wp2
                go_ret
                exact ⟨by first | rfl | simp, ((HRZ.out.trans F2.out (fun _ _ h => h)).trans HF4.out (fun x hx e => by have h1 := HGT.out.2; have e' : x = gt := e; omega)).trans (HF5.out.trans HF6.out (fun _ _ h => h)) (fun _ _ h => h)⟩

            · skip
              go_simp
              refine hK.out _ _ (hHeld.trans ((Fr.refl _ _).alloc _) (fun _ _ h => h)) (fun hHeld => ?_)
              clear hK K
              try change wpAnyH _ _ _ _ _ _ _ (Go.Act.put _ (some 34) _) _
              try simp only [Go.Act.put, List.setIfInBounds_toArray, List.set_cons_zero, List.set_cons_succ]
              refine wpAnyH_ready (rs := [2]) (by kernel_rfl) (by simp) ?_
              refine AllReadyH.cons rfl (fun K hK => ?_) AllReadyH.nil
              have hN0 := newB w3 (.cells #[.int .i64 ek, .int .i64 ea, .int .i64 er, .int .i64 ei, .int .i64 el, .int .i64 en, .slice eA ed ec] 47)
              refine stepOf_appendW teV rfl (.tmp 30) (.tmp 31) rfl _ 0 [] rfl hN0.row (.slice A n c) n (vlc ps) rfl ((HV.out.fr0 hN0.fr).sl) (vlc_one _) (by unfold maxLen; omega) (by omega) ?_
              intro A8 c8 w8 hr8 hf8 hm8
              have hN8' := hN0.step hr8 hf8 hm8
              simp only [Nat.zero_add, List.nil_append] at hN8' ⊢
              have HN8 := Lib.hid hN8'
              have HSE : Hid (Sl w8 7 (.slice (some ⟨w3.heap.size + 1, 0, none⟩) 1 1) 1 [.int .i64 ek, .int .i64 ea, .int .i64 er, .int .i64 ei, .int .i64 el, .int .i64 en, .slice eA ed ec]) := Lib.hid (sl1c rfl (Bk.fr (w := ((w3.alloc O0).alloc (.cells #[.int .i64 ek, .int .i64 ea, .int .i64 er, .int .i64 ei, .int .i64 el, .int .i64 en, .slice eA ed ec] 47)).drew) (by have := (Bk.new (w3.alloc O0) 47 #[.int .i64 ek, .int .i64 ea, .int .i64 er, .int .i64 ei, .int .i64 el, .int .i64 en, .slice eA ed ec]).drew; rw [show (w3.alloc O0).heap.size = w3.heap.size + 1 by simp] at this; exact this) hf8 (fun e => by have e' : w3.heap.size = w3.heap.size + 1 := (by injection e); omega)))
              clear hN0 hr8 hf8 hm8 hN8'
              refine hK.out _ _ (HN8.out.fr) (fun hHeld => ?_)
              clear hK K
              try change wpAnyH _ _ _ _ _ _ _ (Go.Act.put _ (some 32) _) _
              try simp only [Go.Act.put, List.setIfInBounds_toArray, List.set_cons_zero, List.set_cons_succ]
              refine wpAnyH_ready (rs := [5]) (by kernel_rfl) (by simp) ?_
              refine AllReadyH.cons rfl (fun K hK => ?_) AllReadyH.nil
              have hN8 := HN8.out
              refine stepOf_appendW teV rfl (.tmp 32) (.tmp 34) rfl (.slice A8 n c8) n (vlc ps) rfl hN8.row _ 1 [.int .i64 ek, .int .i64 ea, .int .i64 er, .int .i64 ei, .int .i64 el, .int .i64 en, .slice eA ed ec] rfl HSE.out (fun u hu => by simp at hu; rcases hu with rfl | rfl | rfl | rfl | rfl | rfl | rfl <;> rfl) (by unfold maxLen; omega) (by omega) ?_
              intro A9 c9 w9 hr9 hf9 hm9
              have HN9 := Lib.hid (hN8.step hr9 hf9 hm9)
              clear hN8 hr9 hf9 hm9
              refine hK.out _ _ (HN9.out.fr) (fun hHeld => ?_)
              clear hK K
              try change wpAnyH _ _ _ _ _ _ _ (Go.Act.put _ (some 35) _) _
              try simp only [Go.Act.put, List.setIfInBounds_toArray, List.set_cons_zero, List.set_cons_succ]
              refine wpAnyH_takeD (i := 6) (v := ?_) (some 5) rfl rfl (by kernel_rfl) (by kernel_rfl) (by kernel_rfl) (fun _ _ _ h => h) (Or.inl ⟨by rfl, ?_⟩) (by assumption) ?_
              rotate_left
              · intro w' hSw
                go_simp
                first | done | with_reducible rfl
              try simp only [Go.Act.put, List.setIfInBounds_toArray, List.set_cons_zero, List.set_cons_succ]
              refine wpAnyH_done (by kernel_rfl) ?_ _
              have hcx : Vs w9 A9 (n + 1) (ps ++ [⟨⟨ek, ea, er, ei, el, en, eB⟩, eA, ec⟩]) _ := vs_more (p := ⟨⟨ek, ea, er, ei, el, en, eB⟩, eA, ec⟩) (by have := HN9.out; rw [← HED.out] at this; exact this) HV.out HP3.out
              have HCX := Lib.hid hcx
              have HR9 := Lib.hid (HR3.out.trans HN9.out.fr (fun _ _ h => h))
              have HF9 := Lib.hid (HF3.out.trans HN9.out.fr (fun _ _ h => h))
              have K9 := Lib.hid (KE.out.fr HN9.out.fr (fun h => h))
              have HMW : Hid (Bo.new.check (evs (ps ++ [⟨⟨ek, ea, er, ei, el, en, eB⟩, eA, ec⟩])) = if whyR (evs ps) ⟨ek, ea, er, ei, el, en, eB⟩ ≠ 0 then some (n + 1, whyR (evs ps) ⟨ek, ea, er, ei, el, en, eB⟩) else none) := Lib.hid (by
                rw [evs_snoc, check_more HCK.out, (hist_of HCK.out).inv.why, evs_len HV.out])
              clear hcx HN9
              obtain ⟨cd, hcd⟩ : ∃ cd, whyR (evs ps) ⟨ek, ea, er, ei, el, en, eB⟩ = cd := ⟨_, rfl⟩
              rw [hcd] at CY HMW
              clear hcd
              have j0 : w9.cell? ⟨g0, 0, none⟩ = some (.int .i64 ek) := K9.out.cell 0
              have j1 : w9.cell? ⟨g0, 1, none⟩ = some (.int .i64 ea) := K9.out.cell 1
              have j2 : w9.cell? ⟨g0, 2, none⟩ = some (.int .i64 er) := K9.out.cell 2
              have j3 : w9.cell? ⟨g0, 3, none⟩ = some (.int .i64 ei) := K9.out.cell 3
              have j4 : w9.cell? ⟨g0, 4, none⟩ = some (.int .i64 el) := K9.out.cell 4
              have j5 : w9.cell? ⟨g0, 5, none⟩ = some (.int .i64 en) := K9.out.cell 5
              have j6 : w9.cell? ⟨g0, 6, none⟩ = some (.slice eA ed ec) := K9.out.cell 6
              go_wp2_with fail
              refine (CY.out w9 HF9.out (by omega)).mono ?_; rintro e wy ⟨rfl, hfy⟩
              have HRY := Lib.hid (HR9.out.trans hfy (fun _ _ h => h))
              have HFY := Lib.hid (HF9.out.trans hfy (fun _ _ h => h))
              have CZ := Lib.hid (check_any A9 (n + 1) c9 _ _ wy (HCX.out.fr0 hfy) (by omega))
              rw [HMW.out] at CZ
              clear hfy j0 j1 j2 j3 j4 j5 j6 CY
              go_wp2_with fail
              refine CZ.out.mono ?_; rintro e wz ⟨v, rfl, hbk, hfz⟩
              have HRZ := Lib.hid (HRY.out.trans hfz (fun _ _ h => h))
              have HFZ := Lib.hid (HFY.out.trans hfz (fun _ _ h => h))
              clear hfz CZ
              by_cases hc0 : cd = 0
              · subst hc0
                have hbk' : v = .nilIface := hbk
                subst hbk'
                have hw0 : wordW 0 = ⟨#[]⟩ := rfl
                rw [hw0]
                clear hbk
                go_wp2
                go_ret
                exact ⟨rfl, HRZ.out⟩
              · rw [if_pos hc0] at hbk
                obtain ⟨gB, rfl, hbB, hlB⟩ := hbk
                have HB := Lib.hid hbB
                have hsz : (wordW cd).size ≤ 100 := by
                  unfold wordW; split <;> decide
                have hne : (wordW cd).toList.isEmpty = false := by have := wordW_ne hc0; simpa using this
                have HPL := Lib.hid (fun w' => place_any (n + 1) (by omega) w')
                have HTX : Hid (brkText (n + 1) (wordW cd) = sEvent ++ decB (n + 1) ++ sColon ++ wordW cd) := Lib.hid rfl
                have HBE := Lib.hid (fun w' (c0 : w'.cell? ⟨gB, 0, none⟩ = some (.int .i64 ((n + 1 : Nat) : Int))) (c1 : w'.cell? ⟨gB, 1, none⟩ = some (.string (wordW cd))) => brkError_any gB (n + 1) (wordW cd) w' (by omega) hsz c0 c1)
                have hdz := decB_size (i := n + 1) (by omega)
                generalize wordW cd = s at *
                generalize decB (n + 1) = dd at *
                generalize brkText (n + 1) s = tx at *
                unfold sEvent sColon at HTX
                have s1 : ¬ 9223372036854775807 < 6 + dd.size := by omega
                have s2 : ¬ 9223372036854775807 < 6 + dd.size + 2 := by omega
                have s3 : ¬ 9223372036854775807 < 6 + dd.size + 2 + s.size := by omega
                obtain ⟨gt, hgt⟩ : ∃ gt, wz.heap.size = gt := ⟨_, rfl⟩
                obtain ⟨W2, hW2⟩ : ∃ W2, wz.alloc (.cells #[.pointer none] 30) = W2 := ⟨_, rfl⟩
                have KT : Hid (Bk W2 gt 30 #[.pointer none]) := Lib.hid (by rw [← hW2, ← hgt]; exact Bk.new _ _ _)
                have F2 : Hid (Fr (fun _ => False) wz W2) := Lib.hid (by rw [← hW2]; exact (Fr.refl _ _).alloc _)
                have HGT : Hid (gB < gt ∧ w.heap.size ≤ gt) := Lib.hid (by have := hbB.lt; have h2 := HRZ.out.size; exact ⟨by omega, by omega⟩)
                have HB2 := Lib.hid (HB.out.fr F2.out (fun h => h))
                have CA := Lib.hid (as_broken ⟨gt, 0, none⟩ ⟨gB, 0, none⟩ (.pointer none) W2 ((HEE.out.fr HFZ.out (fun h => h)).fr F2.out (fun h => h)) (KT.out.cell 0) (KT.out.frozen 0))
                clear hc0 hbB hlB hdz
                go_wp2_with fail
                clear hW2 hgt
                refine CA.out.mono ?_; rintro e w4 ⟨rfl, hf4, hc4⟩
                have HF4 := Lib.hid hf4
                have HB4 := Lib.hid (HB2.out.fr HF4.out (fun e => by have := HGT.out.1; have e' : gB = gt := e; omega))
                clear hf4 CA KT
                have CE := Lib.hid (HBE.out w4 (HB4.out.cell 0) (HB4.out.cell 1))
                go_wp2_with fail
                refine CE.out.mono ?_; rintro e w5 ⟨rfl, hf5⟩
                have HF5 := Lib.hid hf5
                clear hf5 CE hc4
                go_wp2_with fail
                refine (HPL.out w5).mono ?_; rintro e w6 ⟨rfl, hf6⟩
                have HF6 := Lib.hid hf6
                clear hf6 HPL
                have htx : tx = ⟨#[101, 118, 101, 110, 116, 32]⟩ ++ dd ++ ⟨#[58, 32]⟩ ++ s := HTX.out
                rw [htx]
                clear htx HTX HBE
                go_wp2
                go_ret
                exact ⟨by first | rfl | simp, ((HRZ.out.trans F2.out (fun _ _ h => h)).trans HF4.out (fun x hx e => by have h1 := HGT.out.2; have e' : x = gt := e; omega)).trans (HF5.out.trans HF6.out (fun _ _ h => h)) (fun _ _ h => h)⟩

          · skip
            go_simp
            refine hK.out _ _ (hHeld.trans ((Fr.refl _ _).alloc _) (fun _ _ h => h)) (fun hHeld => ?_)
            clear hK K
            try change wpAnyH _ _ _ _ _ _ _ (Go.Act.put _ (some 34) _) _
            try simp only [Go.Act.put, List.setIfInBounds_toArray, List.set_cons_zero, List.set_cons_succ]
            refine wpAnyH_ready (rs := [0]) (by kernel_rfl) (by simp) ?_
            refine AllReadyH.cons rfl (fun K hK => ?_) AllReadyH.nil
            go_simp
            refine hK.out _ _ (hHeld.alloc _) (fun hHeld => ?_)
            clear hK K
            try change wpAnyH _ _ _ _ _ _ _ (Go.Act.put _ (some 30) _) _
            try simp only [Go.Act.put, List.setIfInBounds_toArray, List.set_cons_zero, List.set_cons_succ]
            refine wpAnyH_ready (rs := [2]) (by kernel_rfl) (by simp) ?_
            refine AllReadyH.cons rfl (fun K hK => ?_) AllReadyH.nil
            have hN0 := newC w3 (.cells #[.int .i64 ek, .int .i64 ea, .int .i64 er, .int .i64 ei, .int .i64 el, .int .i64 en, .slice eA ed ec] 47)
            refine stepOf_appendW teV rfl (.tmp 30) (.tmp 31) rfl _ 0 [] rfl hN0.row (.slice A n c) n (vlc ps) rfl ((HV.out.fr0 hN0.fr).sl) (vlc_one _) (by unfold maxLen; omega) (by omega) ?_
            intro A8 c8 w8 hr8 hf8 hm8
            have hN8' := hN0.step hr8 hf8 hm8
            simp only [Nat.zero_add, List.nil_append] at hN8' ⊢
            have HN8 := Lib.hid hN8'
            have HSE : Hid (Sl w8 7 (.slice (some ⟨w3.heap.size, 0, none⟩) 1 1) 1 [.int .i64 ek, .int .i64 ea, .int .i64 er, .int .i64 ei, .int .i64 el, .int .i64 en, .slice eA ed ec]) := Lib.hid (sl1c rfl (Bk.fr (w := ((w3.alloc (.cells #[.int .i64 ek, .int .i64 ea, .int .i64 er, .int .i64 ei, .int .i64 el, .int .i64 en, .slice eA ed ec] 47)).alloc O0).drew) ((((Bk.new w3 47 #[.int .i64 ek, .int .i64 ea, .int .i64 er, .int .i64 ei, .int .i64 el, .int .i64 en, .slice eA ed ec]).alloc O0)).drew) hf8 (fun e => by have e' : w3.heap.size + 1 = w3.heap.size := (by injection e); omega)))
            clear hN0 hr8 hf8 hm8 hN8'
            refine hK.out _ _ (HN8.out.fr) (fun hHeld => ?_)
            clear hK K
            try change wpAnyH _ _ _ _ _ _ _ (Go.Act.put _ (some 32) _) _
            try simp only [Go.Act.put, List.setIfInBounds_toArray, List.set_cons_zero, List.set_cons_succ]
            refine wpAnyH_ready (rs := [5]) (by kernel_rfl) (by simp) ?_
            refine AllReadyH.cons rfl (fun K hK => ?_) AllReadyH.nil
            have hN8 := HN8.out
            refine stepOf_appendW teV rfl (.tmp 32) (.tmp 34) rfl (.slice A8 n c8) n (vlc ps) rfl hN8.row _ 1 [.int .i64 ek, .int .i64 ea, .int .i64 er, .int .i64 ei, .int .i64 el, .int .i64 en, .slice eA ed ec] rfl HSE.out (fun u hu => by simp at hu; rcases hu with rfl | rfl | rfl | rfl | rfl | rfl | rfl <;> rfl) (by unfold maxLen; omega) (by omega) ?_
            intro A9 c9 w9 hr9 hf9 hm9
            have HN9 := Lib.hid (hN8.step hr9 hf9 hm9)
            clear hN8 hr9 hf9 hm9
            refine hK.out _ _ (HN9.out.fr) (fun hHeld => ?_)
            clear hK K
            try change wpAnyH _ _ _ _ _ _ _ (Go.Act.put _ (some 35) _) _
            try simp only [Go.Act.put, List.setIfInBounds_toArray, List.set_cons_zero, List.set_cons_succ]
            refine wpAnyH_takeD (i := 6) (v := ?_) (some 5) rfl rfl (by kernel_rfl) (by kernel_rfl) (by kernel_rfl) (fun _ _ _ h => h) (Or.inl ⟨by rfl, ?_⟩) (by assumption) ?_
            rotate_left
            · intro w' hSw
              go_simp
              first | done | with_reducible rfl
            try simp only [Go.Act.put, List.setIfInBounds_toArray, List.set_cons_zero, List.set_cons_succ]
            refine wpAnyH_done (by kernel_rfl) ?_ _
            have hcx : Vs w9 A9 (n + 1) (ps ++ [⟨⟨ek, ea, er, ei, el, en, eB⟩, eA, ec⟩]) _ := vs_more (p := ⟨⟨ek, ea, er, ei, el, en, eB⟩, eA, ec⟩) (by have := HN9.out; rw [← HED.out] at this; exact this) HV.out HP3.out
            have HCX := Lib.hid hcx
            have HR9 := Lib.hid (HR3.out.trans HN9.out.fr (fun _ _ h => h))
            have HF9 := Lib.hid (HF3.out.trans HN9.out.fr (fun _ _ h => h))
            have K9 := Lib.hid (KE.out.fr HN9.out.fr (fun h => h))
            have HMW : Hid (Bo.new.check (evs (ps ++ [⟨⟨ek, ea, er, ei, el, en, eB⟩, eA, ec⟩])) = if whyR (evs ps) ⟨ek, ea, er, ei, el, en, eB⟩ ≠ 0 then some (n + 1, whyR (evs ps) ⟨ek, ea, er, ei, el, en, eB⟩) else none) := Lib.hid (by
              rw [evs_snoc, check_more HCK.out, (hist_of HCK.out).inv.why, evs_len HV.out])
            clear hcx HN9
            obtain ⟨cd, hcd⟩ : ∃ cd, whyR (evs ps) ⟨ek, ea, er, ei, el, en, eB⟩ = cd := ⟨_, rfl⟩
            rw [hcd] at CY HMW
            clear hcd
            have j0 : w9.cell? ⟨g0, 0, none⟩ = some (.int .i64 ek) := K9.out.cell 0
            have j1 : w9.cell? ⟨g0, 1, none⟩ = some (.int .i64 ea) := K9.out.cell 1
            have j2 : w9.cell? ⟨g0, 2, none⟩ = some (.int .i64 er) := K9.out.cell 2
            have j3 : w9.cell? ⟨g0, 3, none⟩ = some (.int .i64 ei) := K9.out.cell 3
            have j4 : w9.cell? ⟨g0, 4, none⟩ = some (.int .i64 el) := K9.out.cell 4
            have j5 : w9.cell? ⟨g0, 5, none⟩ = some (.int .i64 en) := K9.out.cell 5
            have j6 : w9.cell? ⟨g0, 6, none⟩ = some (.slice eA ed ec) := K9.out.cell 6
            go_wp2_with fail
            refine (CY.out w9 HF9.out (by omega)).mono ?_; rintro e wy ⟨rfl, hfy⟩
            have HRY := Lib.hid (HR9.out.trans hfy (fun _ _ h => h))
            have HFY := Lib.hid (HF9.out.trans hfy (fun _ _ h => h))
            have CZ := Lib.hid (check_any A9 (n + 1) c9 _ _ wy (HCX.out.fr0 hfy) (by omega))
            rw [HMW.out] at CZ
            clear hfy j0 j1 j2 j3 j4 j5 j6 CY
            go_wp2_with fail
            refine CZ.out.mono ?_; rintro e wz ⟨v, rfl, hbk, hfz⟩
            have HRZ := Lib.hid (HRY.out.trans hfz (fun _ _ h => h))
            have HFZ := Lib.hid (HFY.out.trans hfz (fun _ _ h => h))
            clear hfz CZ
            by_cases hc0 : cd = 0
            · subst hc0
              have hbk' : v = .nilIface := hbk
              subst hbk'
              have hw0 : wordW 0 = ⟨#[]⟩ := rfl
              rw [hw0]
              clear hbk
              go_wp2
              go_ret
              exact ⟨rfl, HRZ.out⟩
            · rw [if_pos hc0] at hbk
              obtain ⟨gB, rfl, hbB, hlB⟩ := hbk
              have HB := Lib.hid hbB
              have hsz : (wordW cd).size ≤ 100 := by
                unfold wordW; split <;> decide
              have hne : (wordW cd).toList.isEmpty = false := by have := wordW_ne hc0; simpa using this
              have HPL := Lib.hid (fun w' => place_any (n + 1) (by omega) w')
              have HTX : Hid (brkText (n + 1) (wordW cd) = sEvent ++ decB (n + 1) ++ sColon ++ wordW cd) := Lib.hid rfl
              have HBE := Lib.hid (fun w' (c0 : w'.cell? ⟨gB, 0, none⟩ = some (.int .i64 ((n + 1 : Nat) : Int))) (c1 : w'.cell? ⟨gB, 1, none⟩ = some (.string (wordW cd))) => brkError_any gB (n + 1) (wordW cd) w' (by omega) hsz c0 c1)
              have hdz := decB_size (i := n + 1) (by omega)
              generalize wordW cd = s at *
              generalize decB (n + 1) = dd at *
              generalize brkText (n + 1) s = tx at *
              unfold sEvent sColon at HTX
              have s1 : ¬ 9223372036854775807 < 6 + dd.size := by omega
              have s2 : ¬ 9223372036854775807 < 6 + dd.size + 2 := by omega
              have s3 : ¬ 9223372036854775807 < 6 + dd.size + 2 + s.size := by omega
              obtain ⟨gt, hgt⟩ : ∃ gt, wz.heap.size = gt := ⟨_, rfl⟩
              obtain ⟨W2, hW2⟩ : ∃ W2, wz.alloc (.cells #[.pointer none] 30) = W2 := ⟨_, rfl⟩
              have KT : Hid (Bk W2 gt 30 #[.pointer none]) := Lib.hid (by rw [← hW2, ← hgt]; exact Bk.new _ _ _)
              have F2 : Hid (Fr (fun _ => False) wz W2) := Lib.hid (by rw [← hW2]; exact (Fr.refl _ _).alloc _)
              have HGT : Hid (gB < gt ∧ w.heap.size ≤ gt) := Lib.hid (by have := hbB.lt; have h2 := HRZ.out.size; exact ⟨by omega, by omega⟩)
              have HB2 := Lib.hid (HB.out.fr F2.out (fun h => h))
              have CA := Lib.hid (as_broken ⟨gt, 0, none⟩ ⟨gB, 0, none⟩ (.pointer none) W2 ((HEE.out.fr HFZ.out (fun h => h)).fr F2.out (fun h => h)) (KT.out.cell 0) (KT.out.frozen 0))
              clear hc0 hbB hlB hdz
              go_wp2_with fail
              clear hW2 hgt
              refine CA.out.mono ?_; rintro e w4 ⟨rfl, hf4, hc4⟩
              have HF4 := Lib.hid hf4
              have HB4 := Lib.hid (HB2.out.fr HF4.out (fun e => by have := HGT.out.1; have e' : gB = gt := e; omega))
              clear hf4 CA KT
              have CE := Lib.hid (HBE.out w4 (HB4.out.cell 0) (HB4.out.cell 1))
              go_wp2_with fail
              refine CE.out.mono ?_; rintro e w5 ⟨rfl, hf5⟩
              have HF5 := Lib.hid hf5
              clear hf5 CE hc4
              go_wp2_with fail
              refine (HPL.out w5).mono ?_; rintro e w6 ⟨rfl, hf6⟩
              have HF6 := Lib.hid hf6
              clear hf6 HPL
              have htx : tx = ⟨#[101, 118, 101, 110, 116, 32]⟩ ++ dd ++ ⟨#[58, 32]⟩ ++ s := HTX.out
              rw [htx]
              clear htx HTX HBE
              go_wp2
              go_ret
              exact ⟨by first | rfl | simp, ((HRZ.out.trans F2.out (fun _ _ h => h)).trans HF4.out (fun x hx e => by have h1 := HGT.out.2; have e' : x = gt := e; omega)).trans (HF5.out.trans HF6.out (fun _ _ h => h)) (fun _ _ h => h)⟩

      · have d1 : decide ((5000 : Int) < (ed : Int)) = true := decide_eq_true (by omega)
        have d1' : decide (5000 < ed) = true := decide_eq_true (by omega)
        clear hl
        go_wp2
        go_ret
        exact ⟨rfl, HR1.out⟩
    · have d2 : decide ((60 : Int) < (n : Int)) = true := decide_eq_true (by omega)
      have d2' : decide (60 < n) = true := decide_eq_true (by omega)
      clear hn60
      go_wp2
      go_ret
      exact ⟨rfl, HR1.out⟩
end Go.Proofs.YtbopmboigcdjpaaDoor
