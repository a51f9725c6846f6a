/- DedupSame: the walk. -/
import Derived.Test.YtdfkoehcmgcoiaaJ3
import Derived.Test.YtdfkoehcmgcoiaaGt
namespace Go.Proofs.Ytdfkoehcmgcoiaa
open Go.RowKit Go.Maps

theorem wpAnyH_more {P : Program} {md : Region.Mode} {ops : Array Oper} {Q : Exit → Go.Act → World → Prop} {S S' : World → Prop} (hSS : ∀ w, S' w → S w) : ∀ (fuel : Nat) (listed : Array Bool) (a : Go.Act) (w : World), wpAnyH P md ops Q S' fuel listed a w → wpAnyH P md ops Q S fuel listed a w
  | 0, _, _, _, h => h
  | fuel + 1, _, _, _, h => ⟨h.1, fun i hi => wpOp_mono (fun a' w' h' => ⟨hSS _ h'.1, wpAnyH_more hSS fuel _ a' w' h'.2⟩) (h.2 i hi)⟩
theorem strOf_same (X : List UInt8) : ((strOf X).toList == (strOf X).toList) = true := by simp
/-- Two tables of the law's own, apart. -/
def TwoT (w wr : World) (ga gb : Nat) (ta tb : DT) : Prop := ∃ Fa Fb, RunT w wr ga ta Fa ∧ RunT w wr gb tb Fb ∧ ∀ k, Fa k → ¬ Fb k
theorem RunT.made2 (win : Int) (w w0 : World) (hf : Fr (fun _ => False) w w0) (h1 : 1 ≤ win) (h2 : win ≤ 4096) :
    Calls Try.prog 8 #[.int .i64 win] w0 fun e w' => ∃ g F, e = .returned (.tuple #[.pointer (some ⟨g, 0, none⟩), .int .i64 0]) ∧ RunT w w' g (newT win) F ∧ (∀ k, F k → w0.heap.size ≤ k) ∧ Fr (fun _ => False) w0 w' := by
  refine (newTable_yes win w0 h1 h2).mono ?_
  rintro e w' ⟨g, rfl, h3, h4⟩
  have := hf.size
  exact ⟨g, _, rfl, ⟨hf.trans h3 (fun _ _ h => h), h4, fun k hk => Nat.le_trans this hk.1, newT_ok h1 h2, fun c s h => by simp [newT] at h⟩, fun k hk => hk.1, h3⟩
theorem TwoT.fr {w wr : World} {ga gb : Nat} {ta tb : DT} (h : TwoT w wr ga gb ta tb) : Fr (fun _ => False) w wr := by
  obtain ⟨Fa, Fb, h1, _⟩ := h
  exact h1.fr
theorem TwoT.on0 {w wr w2 : World} {ga gb : Nat} {ta tb : DT} (h : TwoT w wr ga gb ta tb) (hf : Fr (fun _ => False) wr w2) : TwoT w w2 ga gb ta tb := by
  obtain ⟨Fa, Fb, h1, h2, h3⟩ := h
  exact ⟨Fa, Fb, h1.on0 hf, h2.on0 hf, h3⟩
theorem TwoT.symm {w wr : World} {ga gb : Nat} {ta tb : DT} (h : TwoT w wr ga gb ta tb) : TwoT w wr gb ga tb ta := by
  obtain ⟨Fa, Fb, h1, h2, h3⟩ := h
  exact ⟨Fb, Fa, h2, h1, fun k hb ha => h3 k ha hb⟩
theorem TwoT.putC {w w1 : World} {ga gb : Nat} {ta tb : DT} (h : TwoT w w1 ga gb ta tb) {c s : Int} (hc : I64 c) (hs : I64 s) {A : Option Addr} {n cap : Nat} {a : List UInt8} (hr : Rd8 w1 A a) (hn : a.length = n) (hb : n ≤ BB) :
    Calls Try.prog 9 #[.pointer (some ⟨ga, 0, none⟩), .int .i64 c, .int .i64 s, .slice A n cap] w1 fun e w' => e = .returned (.int .i64 (ta.kind c s)) ∧ TwoT w w' ga gb (ta.put c s a) tb := by
  obtain ⟨Fa, Fb, h1, h2, h3⟩ := h
  refine (h1.putC hc hs hr hn hb).mono ?_
  rintro e w' ⟨rfl, F', h4, h5, h6⟩
  refine ⟨rfl, F', Fb, h4, h2.on h5 (fun k hk => ⟨h1.low k hk, h3 k hk⟩), fun k hk hb => ?_⟩
  have h7 := h2.lt hb
  exact h6 k h7 (fun e => h3 k e hb) hk
theorem TwoT.encA {w w1 : World} {ga gb : Nat} {ta tb : DT} (h : TwoT w w1 ga gb ta tb) (sm : ta.small 8192) (hn : ta.n ≤ 8192) :
    Calls Try.prog 12 #[.pointer (some ⟨ga, 0, none⟩)] w1 fun e w' => ∃ A c, e = .returned (.slice A (encT ta).length c) ∧ Own8 w' 5 (.slice A (encT ta).length c) (encT ta) ∧ Fr (fun _ => False) w1 w' := by
  obtain ⟨Fa, Fb, h1, h2, h3⟩ := h
  refine (encode_any h1.tb h1.ok sm hn).mono ?_
  rintro e w' ⟨A, c, h4, h5, h6⟩
  exact ⟨A, c, h4, h5, h6.1⟩

set_option maxRecDepth 100000 in
set_option maxHeartbeats 16000000 in
theorem same_any (win : Int) {A : Option Addr} {n cap : Nat} {f : Nat → Dc} (turn : Int) (htn : I64 turn) {w : World} (h : Dcs w w.heap.size A n f) (hl : ∀ j, (f j).a.length ≤ 140737488355328) (hn : (n : Int) ≤ 9223372036854775807) :
    Calls Try.prog 4 #[.int .i64 win, .slice A n cap, .int .i64 turn] w fun e w' => e = .returned (.bool true) ∧ Fr (fun _ => False) w w' := by
  have CK := Lib.hid (fun w' => known_any w')
  have CF := Lib.hid (fun (w' : World) (hf : Fr (fun _ => False) w w') => few_any (cap := cap) (h.fr hf (fun _ _ h => h)) hl hn)
  have H := Lib.hid h
  have HL := Lib.hid hl
  clear h hl
  obtain ⟨fb, hfb⟩ : ∃ fb, fewB n f = fb := ⟨_, rfl⟩
  rw [hfb] at CF
  have HN2 : Hid (fb = true → n ≤ 200 ∧ fsum f n ≤ 8192) := Lib.hid (fun e => by rw [← hfb] at e; unfold fewB at e; rw [Bool.and_eq_true] at e; exact ⟨of_decide_eq_true e.1, of_decide_eq_true e.2⟩)
  clear hfb
  cases fb with
  | false =>
    go_enter Try.func4, Try.ntmps4
    go_wp2_with fail
    refine (CK.out w).mono ?_; rintro e w1 ⟨rfl, hf1⟩
    have HF1 := Lib.hid hf1
    clear hf1 CK
    go_wp2_with fail
    refine (CF.out w1 HF1.out).mono ?_; rintro e w2 ⟨rfl, hf2⟩
    have HF2 := Lib.hid (HF1.out.trans hf2 (fun _ _ h => h))
    clear hf2 CF HF1
    go_wp2
    go_ret
    exact ⟨rfl, HF2.out⟩
  | true =>
    by_cases g0 : win < 1
    · have e0 : decide (win < 1) = true := decide_eq_true g0
      go_enter Try.func4, Try.ntmps4
      go_wp2_with fail
      refine (CK.out w).mono ?_; rintro e w1 ⟨rfl, hf1⟩
      have HF1 := Lib.hid hf1
      clear hf1 CK
      go_wp2_with fail
      refine (CF.out w1 HF1.out).mono ?_; rintro e w2 ⟨rfl, hf2⟩
      have HF2 := Lib.hid (HF1.out.trans hf2 (fun _ _ h => h))
      clear hf2 CF HF1
      go_wp2
      go_ret
      exact ⟨rfl, HF2.out⟩
    · have e0 : decide (win < 1) = false := decide_eq_false g0
      by_cases g1 : 4096 < win
      · have e1 : decide (4096 < win) = true := decide_eq_true g1
        go_enter Try.func4, Try.ntmps4
        go_wp2_with fail
        refine (CK.out w).mono ?_; rintro e w1 ⟨rfl, hf1⟩
        have HF1 := Lib.hid hf1
        clear hf1 CK
        go_wp2_with fail
        refine (CF.out w1 HF1.out).mono ?_; rintro e w2 ⟨rfl, hf2⟩
        have HF2 := Lib.hid (HF1.out.trans hf2 (fun _ _ h => h))
        clear hf2 CF HF1
        go_wp2
        go_ret
        exact ⟨rfl, HF2.out⟩
      · have e1 : decide (4096 < win) = false := decide_eq_false g1
        have HW : Hid (1 ≤ win ∧ win ≤ 4096) := Lib.hid (by omega)
        have HSM := Lib.hid (pA_small HW.out.1 HW.out.2 f (HN2.out rfl).2)
        obtain ⟨m, hm⟩ : ∃ m, bits BinOp.and IntKind.i64 turn 3 = m := ⟨_, rfl⟩
        have HM : Hid (0 ≤ m ∧ m ≤ 3) := Lib.hid (by rw [← hm]; exact and3 turn)
        have hn200 : n ≤ 200 := (HN2.out rfl).1
        go_enter Try.func4, Try.ntmps4
        go_wp2_with fail
        refine (CK.out w).mono ?_; rintro e w1 ⟨rfl, hf1⟩
        have HF1 := Lib.hid hf1
        clear hf1 CK
        go_wp2_with fail
        refine (CF.out w1 HF1.out).mono ?_; rintro e w2 ⟨rfl, hf2⟩
        have HF2 := Lib.hid (HF1.out.trans hf2 (fun _ _ h => h))
        clear hf2 CF HF1
        go_wp2_with fail
        clear g0 g1 e0 e1
        refine (RunT.made win w w2 HF2.out HW.out.1 HW.out.2).mono ?_; rintro e w3 ⟨ga, Fa, rfl, h3, _⟩
        have H3 := Lib.hid h3
        clear h3 HF2
        go_wp2_with fail
        refine (RunT.made2 win w w3 H3.out.fr HW.out.1 HW.out.2).mono ?_; rintro e w4 ⟨gb, Fb, rfl, h4, hlow, hf34⟩
        have HT0 : Hid (TwoT w w4 ga gb (pA win f 0) (newT win)) := Lib.hid (by
          exact ⟨Fa, Fb, H3.out.on0 hf34, h4, fun k ha hb => by have := H3.out.lt ha; have := hlow k hb; omega⟩)
        clear h4 hlow hf34 H3
        go_wp2_with fail
        go_loopw [11] (fun i wr => ∃ j : Nat, j ≤ n ∧ i = .int .i64 (j : Int) ∧ Hid (TwoT w wr ga gb (pA win f j) (newT win))) (fun i _ => n - (intOf i).toNat)
        case atStart => exact ⟨0, Nat.zero_le _, rfl, HT0⟩
        case round =>
          obtain ⟨j, hj, rfl, HT⟩ := hrel
          have hj0 : (0 : Int) ≤ (j : Int) := by omega
          by_cases hlt : j < n
          · have hj1 : (j : Int) < (n : Int) := by omega
            obtain ⟨b, o, B, ml, rfl, hc⟩ := (H.out.fr HT.out.fr (fun _ _ h => h)) j hlt
            obtain ⟨p, hp⟩ : ∃ p, f j = p := ⟨_, rfl⟩
            rw [hp] at hc
            have HP := Lib.hid hp
            have HD := Lib.hid hc
            clear hc hp
            have HC : Hid (∀ w', Fr (fun _ => False) wr w' → w'.cell? ⟨b, o + j * 4 + 1, none⟩ = some (.int .i64 p.c) ∧ w'.cell? ⟨b, o + j * 4 + 2, none⟩ = some (.int .i64 p.s) ∧ w'.cell? ⟨b, o + j * 4 + 3, none⟩ = some (.slice B p.a.length ml)) := Lib.hid (fun w' hf => by
              have := HD.out.fr hf (fun _ _ h => h)
              exact ⟨this.c1, this.c2, this.c3⟩)
            have CP : Hid (∀ w', Fr (fun _ => False) wr w' → Calls Try.prog 9 #[.pointer (some ⟨ga, 0, none⟩), .int .i64 p.c, .int .i64 p.s, .slice B p.a.length ml] w' fun e w2 => e = .returned (.int .i64 ((pA win f j).kind p.c p.s)) ∧ TwoT w w2 ga gb (pA win f (j + 1)) (newT win)) := Lib.hid (fun w' hf => by
              have := (HT.out.on0 hf).putC HD.out.i1 HD.out.i2 (cap := ml) (HD.out.rd.fr hf (fun _ _ _ h => h)) rfl HD.out.ln
              rw [show pA win f (j + 1) = (pA win f j).put p.c p.s p.a by rw [← HP.out]; rfl]
              exact this)
            generalize (pA win f j).kind p.c p.s = kd at *
            obtain ⟨pn, hpn⟩ : ∃ pn, p.a.length = pn := ⟨_, rfl⟩
            rw [hpn] at HC CP
            generalize p.c = pc at *
            generalize p.s = ps at *
            have hw1 : IntKind.i64.wrap ((j : Int) + 1) = (j : Int) + 1 := IntWalk.i64_in _ (by omega)
            clear hpn HT0
            go_wp2_with fail
            refine wp_region_Z [16] (fun w' => Fr (fun _ => False) wr w') (by kernel_rfl) ((Fr.refl _ _).drew) (fun hHeld => ?_)
            refine anyZ_pure (i := 0) (v := ?_) (some 57) rfl rfl (by kernel_rfl) (by kernel_rfl) (by kernel_rfl) (by kernel_rfl) (fun _ _ _ h => h) (Or.inl ⟨by rfl, ?_⟩) (fun _ => hHeld) ?_
            rotate_left
            · intro w' _
              go_simp
              first | done | with_reducible rfl
            try simp only [Act.put, List.setIfInBounds_toArray, List.set_cons_zero, List.set_cons_succ]
            refine anyZ_pure (i := 1) (v := ?_) (some 58) rfl rfl (by kernel_rfl) (by kernel_rfl) (by kernel_rfl) (by kernel_rfl) (fun _ _ _ h => h) (Or.inl ⟨by rfl, ?_⟩) (fun _ => hHeld) ?_
            rotate_left
            · intro w' _
              go_simp
              first | done | with_reducible rfl
            try simp only [Act.put, List.setIfInBounds_toArray, List.set_cons_zero, List.set_cons_succ]
            refine anyZ_pure (i := 2) (v := ?_) (some 59) rfl rfl (by kernel_rfl) (by kernel_rfl) (by kernel_rfl) (by kernel_rfl) (fun _ _ _ h => h) (Or.inl ⟨by rfl, ?_⟩) (fun _ => hHeld) ?_
            rotate_left
            · intro w' _
              go_simp
              first | done | with_reducible rfl
            try simp only [Act.put, List.setIfInBounds_toArray, List.set_cons_zero, List.set_cons_succ]
            refine anyZ_pure (i := 3) (v := ?_) (some 60) rfl rfl (by kernel_rfl) (by kernel_rfl) (by kernel_rfl) (by kernel_rfl) (fun _ _ _ h => h) (Or.inl ⟨by rfl, ?_⟩) (fun _ => hHeld) ?_
            rotate_left
            · intro w' _
              go_simp
              first | done | with_reducible rfl
            try simp only [Act.put, List.setIfInBounds_toArray, List.set_cons_zero, List.set_cons_succ]
            refine anyZ_pure (i := 4) (v := ?_) (some 61) rfl rfl (by kernel_rfl) (by kernel_rfl) (by kernel_rfl) (by kernel_rfl) (fun _ _ _ h => h) (Or.inl ⟨by rfl, ?_⟩) (fun _ => hHeld) ?_
            rotate_left
            · intro w' _
              go_simp
              first | done | with_reducible rfl
            try simp only [Act.put, List.setIfInBounds_toArray, List.set_cons_zero, List.set_cons_succ]
            refine anyZ_read (i := 5) (v := ?_) (some 62) [16] rfl rfl (by kernel_rfl) (by kernel_rfl) (by kernel_rfl) (by kernel_rfl) (by kernel_rfl) (by kernel_rfl) (fun _ _ _ h => h) (Or.inl ⟨by rfl, ?_⟩) hHeld ?_
            rotate_left
            · intro w' hSw
              obtain ⟨x1, x2, x3⟩ := HC.out w' hSw
              go_simp
              first | done | with_reducible rfl
            try simp only [Act.put, List.setIfInBounds_toArray, List.set_cons_zero, List.set_cons_succ]
            refine anyZ_pure (i := 6) (v := ?_) (some 63) rfl rfl (by kernel_rfl) (by kernel_rfl) (by kernel_rfl) (by kernel_rfl) (fun _ _ _ h => h) (Or.inl ⟨by rfl, ?_⟩) (fun _ => hHeld) ?_
            rotate_left
            · intro w' _
              go_simp
              first | done | with_reducible rfl
            try simp only [Act.put, List.setIfInBounds_toArray, List.set_cons_zero, List.set_cons_succ]
            refine anyZ_pure (i := 7) (v := ?_) (some 64) rfl rfl (by kernel_rfl) (by kernel_rfl) (by kernel_rfl) (by kernel_rfl) (fun _ _ _ h => h) (Or.inl ⟨by rfl, ?_⟩) (fun _ => hHeld) ?_
            rotate_left
            · intro w' _
              go_simp
              first | done | with_reducible rfl
            try simp only [Act.put, List.setIfInBounds_toArray, List.set_cons_zero, List.set_cons_succ]
            refine anyZ_pure (i := 8) (v := ?_) (some 65) rfl rfl (by kernel_rfl) (by kernel_rfl) (by kernel_rfl) (by kernel_rfl) (fun _ _ _ h => h) (Or.inl ⟨by rfl, ?_⟩) (fun _ => hHeld) ?_
            rotate_left
            · intro w' _
              go_simp
              first | done | with_reducible rfl
            try simp only [Act.put, List.setIfInBounds_toArray, List.set_cons_zero, List.set_cons_succ]
            refine anyZ_pure (i := 9) (v := ?_) (some 66) rfl rfl (by kernel_rfl) (by kernel_rfl) (by kernel_rfl) (by kernel_rfl) (fun _ _ _ h => h) (Or.inl ⟨by rfl, ?_⟩) (fun _ => hHeld) ?_
            rotate_left
            · intro w' _
              go_simp
              first | done | with_reducible rfl
            try simp only [Act.put, List.setIfInBounds_toArray, List.set_cons_zero, List.set_cons_succ]
            refine anyZ_read (i := 10) (v := ?_) (some 67) [16] rfl rfl (by kernel_rfl) (by kernel_rfl) (by kernel_rfl) (by kernel_rfl) (by kernel_rfl) (by kernel_rfl) (fun _ _ _ h => h) (Or.inl ⟨by rfl, ?_⟩) hHeld ?_
            rotate_left
            · intro w' hSw
              obtain ⟨x1, x2, x3⟩ := HC.out w' hSw
              go_simp
              first | done | with_reducible rfl
            try simp only [Act.put, List.setIfInBounds_toArray, List.set_cons_zero, List.set_cons_succ]
            refine anyZ_pure (i := 11) (v := ?_) (some 68) rfl rfl (by kernel_rfl) (by kernel_rfl) (by kernel_rfl) (by kernel_rfl) (fun _ _ _ h => h) (Or.inl ⟨by rfl, ?_⟩) (fun _ => hHeld) ?_
            rotate_left
            · intro w' _
              go_simp
              first | done | with_reducible rfl
            try simp only [Act.put, List.setIfInBounds_toArray, List.set_cons_zero, List.set_cons_succ]
            refine anyZ_pure (i := 12) (v := ?_) (some 69) rfl rfl (by kernel_rfl) (by kernel_rfl) (by kernel_rfl) (by kernel_rfl) (fun _ _ _ h => h) (Or.inl ⟨by rfl, ?_⟩) (fun _ => hHeld) ?_
            rotate_left
            · intro w' _
              go_simp
              first | done | with_reducible rfl
            try simp only [Act.put, List.setIfInBounds_toArray, List.set_cons_zero, List.set_cons_succ]
            refine anyZ_pure (i := 13) (v := ?_) (some 70) rfl rfl (by kernel_rfl) (by kernel_rfl) (by kernel_rfl) (by kernel_rfl) (fun _ _ _ h => h) (Or.inl ⟨by rfl, ?_⟩) (fun _ => hHeld) ?_
            rotate_left
            · intro w' _
              go_simp
              first | done | with_reducible rfl
            try simp only [Act.put, List.setIfInBounds_toArray, List.set_cons_zero, List.set_cons_succ]
            refine anyZ_pure (i := 14) (v := ?_) (some 71) rfl rfl (by kernel_rfl) (by kernel_rfl) (by kernel_rfl) (by kernel_rfl) (fun _ _ _ h => h) (Or.inl ⟨by rfl, ?_⟩) (fun _ => hHeld) ?_
            rotate_left
            · intro w' _
              go_simp
              first | done | with_reducible rfl
            try simp only [Act.put, List.setIfInBounds_toArray, List.set_cons_zero, List.set_cons_succ]
            refine anyZ_read (i := 15) (v := ?_) (some 72) [16] rfl rfl (by kernel_rfl) (by kernel_rfl) (by kernel_rfl) (by kernel_rfl) (by kernel_rfl) (by kernel_rfl) (fun _ _ _ h => h) (Or.inl ⟨by rfl, ?_⟩) hHeld ?_
            rotate_left
            · intro w' hSw
              obtain ⟨x1, x2, x3⟩ := HC.out w' hSw
              go_simp
              first | done | with_reducible rfl
            try simp only [Act.put, List.setIfInBounds_toArray, List.set_cons_zero, List.set_cons_succ]
            refine anyZ_ready (rs := [16]) (by kernel_rfl) (by simp) ?_
            refine AllZ.last rfl (by kernel_rfl) (fun K hK => ?_) AllZ.nil
            go_simp
            refine (CP.out _ hHeld).mono ?_; rintro e w5 ⟨rfl, h5⟩
            have HN5 := Lib.hid h5
            clear h5 CP
            try go_simp
            refine hK.out _ _ ?_
            clear hK K
            try change anyZ _ _ _ _ _ _ _ _ (Act.put _ (some 73) _) _
            try simp only [Act.put, List.setIfInBounds_toArray, List.set_cons_zero, List.set_cons_succ]
            refine anyZ_done (by kernel_rfl) ?_ _
            go_wp2
            go_roundw
            case rel => exact ⟨j + 1, by omega, by go_num, HN5⟩
            case measure => simp [intOf]; omega
          · obtain rfl : j = n := by omega
            have HT1 : Hid (∃ tb, TwoT w wr ga gb (pA win f j) tb ∧ SameI win m f j tb 0 0) := Lib.hid ⟨_, HT.out, SameI.start win m f j⟩
            clear HT HT0 hlt hj
            go_wp2_with fail
            obtain ⟨wo, rfl⟩ : ∃ wo, wo = wr := ⟨_, rfl⟩
            go_loopw [12] (fun i wr => ∃ k : Nat, k ≤ 3 ∧ i = .int .i64 (k : Int) ∧ Hid (∃ tb, TwoT w wr ga gb (pA win f j) tb ∧ SameI win m f j tb k 0)) (fun i _ => 3 - (intOf i).toNat)
            case atStart => exact ⟨0, by omega, rfl, HT1⟩
            case round =>
              obtain ⟨k, hk, rfl, HQ⟩ := hrel
              clear HT1
              have hk0 : (0 : Int) ≤ (k : Int) := by omega
              by_cases hk3 : k < 3
              · have hk4 : (k : Int) < 3 := by omega
                have d3 : decide ((k : Int) < 3) = true := decide_eq_true hk4
                have wk : IntKind.i64.wrap ((k : Int) + 1) = (k : Int) + 1 := IntWalk.i64_in _ (by omega)
                have wkm : IntKind.i64.wrap ((k : Int) + m) = (k : Int) + m := IntWalk.i64_in _ (by have := HM.out; omega)
                go_wp2_with fail
                obtain ⟨wq, rfl⟩ : ∃ wq, wq = wr := ⟨_, rfl⟩
                obtain ⟨nn, rfl⟩ : ∃ nn, nn = j := ⟨_, rfl⟩
                go_loopw [13] (fun i wr => ∃ q : Nat, q ≤ nn ∧ i = .int .i64 (q : Int) ∧ Hid (∃ tb, TwoT w wr ga gb (pA win f nn) tb ∧ SameI win m f nn tb k q)) (fun i _ => nn - (intOf i).toNat)
                case atStart => exact ⟨0, Nat.zero_le _, rfl, HQ⟩
                case round =>
                  clear HQ
                  obtain ⟨j, hj, rfl, HQ⟩ := hrel
                  have hj0 : (0 : Int) ≤ (j : Int) := by omega
                  obtain ⟨tb, h5, h6⟩ := HQ.out
                  have HT := Lib.hid h5
                  have HS := Lib.hid h6
                  clear HQ h5 h6
                  by_cases hlt : j < nn
                  · have hj1 : (j : Int) < (nn : Int) := by omega
                    obtain ⟨b, o, B, ml, rfl, hc⟩ := (H.out.fr HT.out.fr (fun _ _ h => h)) j hlt
                    obtain ⟨p, hp⟩ : ∃ p, f j = p := ⟨_, rfl⟩
                    rw [hp] at hc
                    have HP := Lib.hid hp
                    have HD := Lib.hid hc
                    clear hc hp
                    have HC : Hid (∀ w', Fr (fun _ => False) wr w' → w'.cell? ⟨b, o + j * 4 + 1, none⟩ = some (.int .i64 p.c) ∧ w'.cell? ⟨b, o + j * 4 + 2, none⟩ = some (.int .i64 p.s) ∧ w'.cell? ⟨b, o + j * 4 + 3, none⟩ = some (.slice B p.a.length ml)) := Lib.hid (fun w' hf => by
                      have := HD.out.fr hf (fun _ _ h => h)
                      exact ⟨this.c1, this.c2, this.c3⟩)
                    have hw1 : IntKind.i64.wrap ((j : Int) + 1) = (j : Int) + 1 := IntWalk.i64_in _ (by omega)
                    have q1 := (HC.out wr (Fr.refl _ _)).1
                    by_cases hy : 0 ≤ p.c ∧ p.c % 3 = ((k : Int) + m) % 3
                    · have CP : Hid (∀ w', Fr (fun _ => False) wr w' → Calls Try.prog 9 #[.pointer (some ⟨gb, 0, none⟩), .int .i64 p.c, .int .i64 p.s, .slice B p.a.length ml] w' fun e w2 => e = .returned (.int .i64 (tb.kind p.c p.s)) ∧ ∃ tb', TwoT w w2 ga gb (pA win f nn) tb' ∧ SameI win m f nn tb' k (j + 1)) := Lib.hid (fun w' hf => by
                        refine ((HT.out.on0 hf).symm.putC HD.out.i1 HD.out.i2 (cap := ml) (HD.out.rd.fr hf (fun _ _ _ h => h)) rfl HD.out.ln).mono ?_
                        rintro e w2 ⟨h1, h2⟩
                        have h3 := HS.out.yes hk3 (by rw [HP.out]; exact hy.1) (by rw [HP.out]; exact hy.2)
                        rw [HP.out] at h3
                        exact ⟨h1, _, h2.symm, h3⟩)
                      obtain ⟨y1, y2⟩ := hy
                      have t1 : Int.tmod p.c 3 = p.c % 3 := Int.tmod_eq_emod_of_nonneg y1
                      have t2 : Int.tmod ((k : Int) + m) 3 = ((k : Int) + m) % 3 := Int.tmod_eq_emod_of_nonneg (by have := HM.out; omega)
                      have dT : (Int.tmod p.c 3 == Int.tmod ((k : Int) + m) 3) = true := by rw [t1, t2, y2]; simp
                      have dN : decide (0 ≤ p.c) = true := decide_eq_true y1
                      have dT2 : (p.c % 3 == Int.tmod ((k : Int) + m) 3) = true := by rw [t2, y2]; simp
                      have dT3 : (p.c % 3 == ((k : Int) + m) % 3) = true := by rw [y2]; simp
                      clear t1 t2 y2
                      generalize tb.kind p.c p.s = kd at *
                      obtain ⟨pn, hpn⟩ : ∃ pn, p.a.length = pn := ⟨_, rfl⟩
                      rw [hpn] at HC CP
                      generalize p.c = pc at *
                      generalize p.s = ps at *
                      clear hpn
                      go_wp2_with fail
                      clear q1
                      refine wp_region_Z [16] (fun w' => Fr (fun _ => False) wr w') (by kernel_rfl) ((Fr.refl _ _).drew) (fun hHeld => ?_)
                      refine anyZ_pure (i := 0) (v := ?_) (some 104) rfl rfl (by kernel_rfl) (by kernel_rfl) (by kernel_rfl) (by kernel_rfl) (fun _ _ _ h => h) (Or.inl ⟨by rfl, ?_⟩) (fun _ => hHeld) ?_
                      rotate_left
                      · intro w' _
                        go_simp
                        first | done | with_reducible rfl
                      try simp only [Act.put, List.setIfInBounds_toArray, List.set_cons_zero, List.set_cons_succ]
                      refine anyZ_pure (i := 1) (v := ?_) (some 105) rfl rfl (by kernel_rfl) (by kernel_rfl) (by kernel_rfl) (by kernel_rfl) (fun _ _ _ h => h) (Or.inl ⟨by rfl, ?_⟩) (fun _ => hHeld) ?_
                      rotate_left
                      · intro w' _
                        go_simp
                        first | done | with_reducible rfl
                      try simp only [Act.put, List.setIfInBounds_toArray, List.set_cons_zero, List.set_cons_succ]
                      refine anyZ_pure (i := 2) (v := ?_) (some 106) rfl rfl (by kernel_rfl) (by kernel_rfl) (by kernel_rfl) (by kernel_rfl) (fun _ _ _ h => h) (Or.inl ⟨by rfl, ?_⟩) (fun _ => hHeld) ?_
                      rotate_left
                      · intro w' _
                        go_simp
                        first | done | with_reducible rfl
                      try simp only [Act.put, List.setIfInBounds_toArray, List.set_cons_zero, List.set_cons_succ]
                      refine anyZ_pure (i := 3) (v := ?_) (some 107) rfl rfl (by kernel_rfl) (by kernel_rfl) (by kernel_rfl) (by kernel_rfl) (fun _ _ _ h => h) (Or.inl ⟨by rfl, ?_⟩) (fun _ => hHeld) ?_
                      rotate_left
                      · intro w' _
                        go_simp
                        first | done | with_reducible rfl
                      try simp only [Act.put, List.setIfInBounds_toArray, List.set_cons_zero, List.set_cons_succ]
                      refine anyZ_pure (i := 4) (v := ?_) (some 108) rfl rfl (by kernel_rfl) (by kernel_rfl) (by kernel_rfl) (by kernel_rfl) (fun _ _ _ h => h) (Or.inl ⟨by rfl, ?_⟩) (fun _ => hHeld) ?_
                      rotate_left
                      · intro w' _
                        go_simp
                        first | done | with_reducible rfl
                      try simp only [Act.put, List.setIfInBounds_toArray, List.set_cons_zero, List.set_cons_succ]
                      refine anyZ_read (i := 5) (v := ?_) (some 109) [16] rfl rfl (by kernel_rfl) (by kernel_rfl) (by kernel_rfl) (by kernel_rfl) (by kernel_rfl) (by kernel_rfl) (fun _ _ _ h => h) (Or.inl ⟨by rfl, ?_⟩) hHeld ?_
                      rotate_left
                      · intro w' hSw
                        obtain ⟨x1, x2, x3⟩ := HC.out w' hSw
                        go_simp
                        first | done | with_reducible rfl
                      try simp only [Act.put, List.setIfInBounds_toArray, List.set_cons_zero, List.set_cons_succ]
                      refine anyZ_pure (i := 6) (v := ?_) (some 110) rfl rfl (by kernel_rfl) (by kernel_rfl) (by kernel_rfl) (by kernel_rfl) (fun _ _ _ h => h) (Or.inl ⟨by rfl, ?_⟩) (fun _ => hHeld) ?_
                      rotate_left
                      · intro w' _
                        go_simp
                        first | done | with_reducible rfl
                      try simp only [Act.put, List.setIfInBounds_toArray, List.set_cons_zero, List.set_cons_succ]
                      refine anyZ_pure (i := 7) (v := ?_) (some 111) rfl rfl (by kernel_rfl) (by kernel_rfl) (by kernel_rfl) (by kernel_rfl) (fun _ _ _ h => h) (Or.inl ⟨by rfl, ?_⟩) (fun _ => hHeld) ?_
                      rotate_left
                      · intro w' _
                        go_simp
                        first | done | with_reducible rfl
                      try simp only [Act.put, List.setIfInBounds_toArray, List.set_cons_zero, List.set_cons_succ]
                      refine anyZ_pure (i := 8) (v := ?_) (some 112) rfl rfl (by kernel_rfl) (by kernel_rfl) (by kernel_rfl) (by kernel_rfl) (fun _ _ _ h => h) (Or.inl ⟨by rfl, ?_⟩) (fun _ => hHeld) ?_
                      rotate_left
                      · intro w' _
                        go_simp
                        first | done | with_reducible rfl
                      try simp only [Act.put, List.setIfInBounds_toArray, List.set_cons_zero, List.set_cons_succ]
                      refine anyZ_pure (i := 9) (v := ?_) (some 113) rfl rfl (by kernel_rfl) (by kernel_rfl) (by kernel_rfl) (by kernel_rfl) (fun _ _ _ h => h) (Or.inl ⟨by rfl, ?_⟩) (fun _ => hHeld) ?_
                      rotate_left
                      · intro w' _
                        go_simp
                        first | done | with_reducible rfl
                      try simp only [Act.put, List.setIfInBounds_toArray, List.set_cons_zero, List.set_cons_succ]
                      refine anyZ_read (i := 10) (v := ?_) (some 114) [16] rfl rfl (by kernel_rfl) (by kernel_rfl) (by kernel_rfl) (by kernel_rfl) (by kernel_rfl) (by kernel_rfl) (fun _ _ _ h => h) (Or.inl ⟨by rfl, ?_⟩) hHeld ?_
                      rotate_left
                      · intro w' hSw
                        obtain ⟨x1, x2, x3⟩ := HC.out w' hSw
                        go_simp
                        first | done | with_reducible rfl
                      try simp only [Act.put, List.setIfInBounds_toArray, List.set_cons_zero, List.set_cons_succ]
                      refine anyZ_pure (i := 11) (v := ?_) (some 115) rfl rfl (by kernel_rfl) (by kernel_rfl) (by kernel_rfl) (by kernel_rfl) (fun _ _ _ h => h) (Or.inl ⟨by rfl, ?_⟩) (fun _ => hHeld) ?_
                      rotate_left
                      · intro w' _
                        go_simp
                        first | done | with_reducible rfl
                      try simp only [Act.put, List.setIfInBounds_toArray, List.set_cons_zero, List.set_cons_succ]
                      refine anyZ_pure (i := 12) (v := ?_) (some 116) rfl rfl (by kernel_rfl) (by kernel_rfl) (by kernel_rfl) (by kernel_rfl) (fun _ _ _ h => h) (Or.inl ⟨by rfl, ?_⟩) (fun _ => hHeld) ?_
                      rotate_left
                      · intro w' _
                        go_simp
                        first | done | with_reducible rfl
                      try simp only [Act.put, List.setIfInBounds_toArray, List.set_cons_zero, List.set_cons_succ]
                      refine anyZ_pure (i := 13) (v := ?_) (some 117) rfl rfl (by kernel_rfl) (by kernel_rfl) (by kernel_rfl) (by kernel_rfl) (fun _ _ _ h => h) (Or.inl ⟨by rfl, ?_⟩) (fun _ => hHeld) ?_
                      rotate_left
                      · intro w' _
                        go_simp
                        first | done | with_reducible rfl
                      try simp only [Act.put, List.setIfInBounds_toArray, List.set_cons_zero, List.set_cons_succ]
                      refine anyZ_pure (i := 14) (v := ?_) (some 118) rfl rfl (by kernel_rfl) (by kernel_rfl) (by kernel_rfl) (by kernel_rfl) (fun _ _ _ h => h) (Or.inl ⟨by rfl, ?_⟩) (fun _ => hHeld) ?_
                      rotate_left
                      · intro w' _
                        go_simp
                        first | done | with_reducible rfl
                      try simp only [Act.put, List.setIfInBounds_toArray, List.set_cons_zero, List.set_cons_succ]
                      refine anyZ_read (i := 15) (v := ?_) (some 119) [16] rfl rfl (by kernel_rfl) (by kernel_rfl) (by kernel_rfl) (by kernel_rfl) (by kernel_rfl) (by kernel_rfl) (fun _ _ _ h => h) (Or.inl ⟨by rfl, ?_⟩) hHeld ?_
                      rotate_left
                      · intro w' hSw
                        obtain ⟨x1, x2, x3⟩ := HC.out w' hSw
                        go_simp
                        first | done | with_reducible rfl
                      try simp only [Act.put, List.setIfInBounds_toArray, List.set_cons_zero, List.set_cons_succ]
                      refine anyZ_ready (rs := [16]) (by kernel_rfl) (by simp) ?_
                      refine AllZ.last rfl (by kernel_rfl) (fun K hK => ?_) AllZ.nil
                      go_simp
                      refine (CP.out _ hHeld).mono ?_; rintro e w5 ⟨rfl, h5⟩
                      have HN5 := Lib.hid h5
                      clear h5 CP
                      try go_simp
                      refine hK.out _ _ ?_
                      clear hK K
                      try change anyZ _ _ _ _ _ _ _ _ (Act.put _ (some 120) _) _
                      try simp only [Act.put, List.setIfInBounds_toArray, List.set_cons_zero, List.set_cons_succ]
                      refine anyZ_done (by kernel_rfl) ?_ _
                      go_wp2
                      go_roundw
                      case rel => exact ⟨j + 1, by omega, by go_num, HN5⟩
                      case measure => simp [intOf]; omega
                    · have HNX : Hid (∃ tb', TwoT w wr ga gb (pA win f nn) tb' ∧ SameI win m f nn tb' k (j + 1)) := Lib.hid ⟨tb, HT.out, HS.out.no hk3 (by rw [HP.out]; omega)⟩
                      by_cases y1 : 0 ≤ p.c
                      · have t1 : Int.tmod p.c 3 = p.c % 3 := Int.tmod_eq_emod_of_nonneg y1
                        have t2 : Int.tmod ((k : Int) + m) 3 = ((k : Int) + m) % 3 := Int.tmod_eq_emod_of_nonneg (by have := HM.out; omega)
                        have dT : (Int.tmod p.c 3 == Int.tmod ((k : Int) + m) 3) = false := by rw [t1, t2, beq_eq_false_iff_ne]; exact fun e => hy ⟨y1, e⟩
                        have dN : decide (0 ≤ p.c) = true := decide_eq_true y1
                        have dT2 : (p.c % 3 == Int.tmod ((k : Int) + m) 3) = false := by rw [t2, beq_eq_false_iff_ne]; exact fun e => hy ⟨y1, e⟩
                        have dT3 : (p.c % 3 == ((k : Int) + m) % 3) = false := by rw [beq_eq_false_iff_ne]; exact fun e => hy ⟨y1, e⟩
                        clear t1 t2 hy
                        generalize p.c = pc at *
                        go_wp2
                        go_roundw
                        case rel => exact ⟨j + 1, by omega, by go_num, HNX⟩
                        case measure => simp [intOf]; omega
                      · have dN : decide (0 ≤ p.c) = false := decide_eq_false y1
                        clear hy
                        generalize p.c = pc at *
                        go_wp2
                        go_roundw
                        case rel => exact ⟨j + 1, by omega, by go_num, HNX⟩
                        case measure => simp [intOf]; omega
                  · obtain rfl : j = nn := by omega
                    have HNX : Hid (∃ tb', TwoT w wr ga gb (pA win f j) tb' ∧ SameI win m f j tb' (k + 1) 0) := Lib.hid ⟨tb, HT.out, HS.out.next⟩
                    clear HT HS hlt hj
                    go_wp2
                    go_roundw
                    case rel => exact ⟨k + 1, by omega, by go_num, HNX⟩
                    case measure => simp [intOf]; omega
              · obtain rfl : k = 3 := by omega
                have d3 : decide ((3 : Int) < 3) = false := by decide
                obtain ⟨tb, h5, h6⟩ := HQ.out
                have hE : encT tb = encT (pA win f j) ∧ tb.n = (pA win f j).n ∧ (∀ B, (pA win f j).small B → tb.small B) := by
                  obtain ⟨Fa, Fb, h7, h8, _⟩ := h5
                  exact same_enc h8.ok.took0 h7.ok.took0 (by rw [h6.1, pA_win]) h6.all
                have hs := HSM.out j (Nat.le_refl _)
                have CA := Lib.hid (fun w' (hf : Fr (fun _ => False) wr w') => (h5.on0 hf).encA hs.1 (by omega))
                have CB := Lib.hid (fun w' (hf : Fr (fun _ => False) wr w') => (h5.on0 hf).symm.encA (hE.2.2 _ hs.1) (by rw [hE.2.1]; omega))
                rw [hE.1] at CB
                have HFR := Lib.hid h5.fr
                generalize encT (pA win f j) = bs at *
                obtain ⟨bn, hbn⟩ : ∃ bn, bs.length = bn := ⟨_, rfl⟩
                have HBN := Lib.hid hbn
                rw [hbn] at CA CB
                have hst := strOf_same bs
                clear h5 h6 hE hs hbn HQ hk
                go_wp2_with fail
                refine wp_region_held_drew (S := (fun w' => Fr (fun _ => False) wr w')) (by kernel_rfl) ((Fr.refl _ _).drew) (fun hHeld => ?_)
                refine wpAnyH_takeD (i := 0) (v := ?_) (some 121) rfl rfl (by kernel_rfl) (by kernel_rfl) (by kernel_rfl) (fun _ _ _ h => h) (Or.inl ⟨by rfl, ?_⟩) (by assumption) ?_
                rotate_left
                · intro w' hSw
                  go_simp
                  first | done | with_reducible rfl
                try simp only [Act.put, List.setIfInBounds_toArray, List.set_cons_zero, List.set_cons_succ]
                refine wpAnyH_takeD (i := 3) (v := ?_) (some 124) rfl rfl (by kernel_rfl) (by kernel_rfl) (by kernel_rfl) (fun _ _ _ h => h) (Or.inl ⟨by rfl, ?_⟩) (by assumption) ?_
                rotate_left
                · intro w' hSw
                  go_simp
                  first | done | with_reducible rfl
                try simp only [Act.put, List.setIfInBounds_toArray, List.set_cons_zero, List.set_cons_succ]
                refine wpAnyH_ready (rs := [1]) (by kernel_rfl) (by simp) ?_
                refine AllReadyH.cons rfl (fun K hK => ?_) AllReadyH.nil
                go_simp
                refine (CA.out _ hHeld).mono ?_; rintro e wA ⟨A1, c1, rfl, ho1, hfA⟩
                have FA := Lib.hid (hHeld.trans hfA (fun _ _ h => h))
                try go_simp
                refine hK.out _ _ (FA.out) (fun hHeld => ?_)
                clear hK K
                try change wpAnyH _ _ _ _ _ _ _ (Act.put _ (some 122) _) _
                try simp only [Act.put, List.setIfInBounds_toArray, List.set_cons_zero, List.set_cons_succ]
                refine wpAnyH_more (S' := (fun w' => Fr (fun _ => False) wA w')) (fun _ h => FA.out.trans h (fun _ _ h => h)) _ _ _ _ ?_
                replace hHeld : Fr (fun _ => False) wA wA := Fr.refl _ _
                have HO1 : Hid (∀ w', Fr (fun _ => False) wA w' → Rd8 w' A1 bs) := Lib.hid (fun w' hf => (ho1.fr hf (fun _ _ h => h)).rd)
                clear ho1 hfA CA
                refine wpAnyH_takeD (i := 2) (v := ?_) (some 123) rfl rfl (by kernel_rfl) (by kernel_rfl) (by kernel_rfl) (fun _ _ _ h => h) (Or.inl ⟨by rfl, ?_⟩) (by assumption) ?_
                rotate_left
                · intro w' hSw
                  have hc1 := run_str8 (w := w') Try.t8 Try.underlying5 Try.underlying9 c1 (HO1.out w' hSw) HBN.out
                  go_simp
                  first | done | with_reducible rfl
                try simp only [Act.put, List.setIfInBounds_toArray, List.set_cons_zero, List.set_cons_succ]
                refine wpAnyH_ready (rs := [4]) (by kernel_rfl) (by simp) ?_
                refine AllReadyH.cons rfl (fun K hK => ?_) AllReadyH.nil
                go_simp
                refine (CB.out _ (FA.out.trans hHeld (fun _ _ h => h))).mono ?_; rintro e wB ⟨A2, c2, rfl, ho2, hfB⟩
                have FB := Lib.hid (hHeld.trans hfB (fun _ _ h => h))
                try go_simp
                refine hK.out _ _ (FB.out) (fun hHeld => ?_)
                clear hK K
                try change wpAnyH _ _ _ _ _ _ _ (Act.put _ (some 125) _) _
                try simp only [Act.put, List.setIfInBounds_toArray, List.set_cons_zero, List.set_cons_succ]
                refine wpAnyH_more (S' := (fun w' => Fr (fun _ => False) wB w')) (fun _ h => FB.out.trans h (fun _ _ h => h)) _ _ _ _ ?_
                replace hHeld : Fr (fun _ => False) wB wB := Fr.refl _ _
                have HO2 : Hid (∀ w', Fr (fun _ => False) wB w' → Rd8 w' A2 bs) := Lib.hid (fun w' hf => (ho2.fr hf (fun _ _ h => h)).rd)
                clear ho2 hfB CB
                refine wpAnyH_takeD (i := 5) (v := ?_) (some 126) rfl rfl (by kernel_rfl) (by kernel_rfl) (by kernel_rfl) (fun _ _ _ h => h) (Or.inl ⟨by rfl, ?_⟩) (by assumption) ?_
                rotate_left
                · intro w' hSw
                  have hc2 := run_str8 (w := w') Try.t8 Try.underlying5 Try.underlying9 c2 (HO2.out w' hSw) HBN.out
                  go_simp
                  first | done | with_reducible rfl
                try simp only [Act.put, List.setIfInBounds_toArray, List.set_cons_zero, List.set_cons_succ]
                refine wpAnyH_takeD (i := 6) (v := ?_) (some 127) rfl rfl (by kernel_rfl) (by kernel_rfl) (by kernel_rfl) (fun _ _ _ h => h) (Or.inl ⟨by rfl, ?_⟩) (by assumption) ?_
                rotate_left
                · intro w' hSw
                  go_simp
                  first | done | with_reducible rfl
                try simp only [Act.put, List.setIfInBounds_toArray, List.set_cons_zero, List.set_cons_succ]
                refine wpAnyH_takeD (i := 7) (v := ?_) (some 6) rfl rfl (by kernel_rfl) (by kernel_rfl) (by kernel_rfl) (fun _ _ _ h => h) (Or.inl ⟨by rfl, ?_⟩) (by assumption) ?_
                rotate_left
                · intro w' hSw
                  go_simp
                  first | done | with_reducible rfl
                try simp only [Act.put, List.setIfInBounds_toArray, List.set_cons_zero, List.set_cons_succ]
                refine wpAnyH_done (by kernel_rfl) ?_ _
                go_wp2
                go_ret
                exact ⟨rfl, HFR.out.trans (FA.out.trans (FB.out.trans hHeld (fun _ _ h => h)) (fun _ _ h => h)) (fun _ _ h => h)⟩
end Go.Proofs.Ytdfkoehcmgcoiaa
