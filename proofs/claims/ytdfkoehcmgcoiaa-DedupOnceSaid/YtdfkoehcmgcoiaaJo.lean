/- DedupOnce: the walk. -/
import Derived.Test.YtdfkoehcmgcoiaaJn
namespace Go.Proofs.Ytdfkoehcmgcoiaa
open Go.RowKit Go.Maps

def firstB : List UInt8 := [102, 105, 114, 115, 116]
/-- What DedupOnce keeps. -/
def OnceI (t : DT) (c0 s0 : Int) (gone : Bool) : Prop := (gone = false ∧ s0 ∈ t.row c0 ∧ t.ans c0 s0 = firstB) ∨ (gone = true ∧ s0 ≤ t.top c0 - t.win)
theorem DT.put_top_le {t : DT} (ok : t.ok) (c s : Int) (a : List UInt8) (x : Int) : t.top x ≤ (t.put c s a).top x := by
  by_cases hk : t.kind c s = 0
  · by_cases hx : x = c
    · subst hx; rw [DT.put_top ok a hk]; omega
    · have : (t.put c s a).top x = t.top x := by unfold DT.top; rw [DT.put_row_ne a hx]
      omega
  · have e : t.put c s a = t := by unfold DT.put; rw [if_neg hk]
    rw [e]; omega
theorem once_step {t : DT} (ok : t.ok) {c0 s0 : Int} (hm : mayR c0 s0 = true) {gone : Bool} (h : OnceI t c0 s0 gone) (c s : Int) (a : List UInt8) :
    ((t.put c s a).top c0 - t.win < s0 ∧ gone = false ∧ (t.put c s a).kind c0 s0 = 1 ∧ (t.put c s a).look c0 s0 = firstB ∧ OnceI (t.put c s a) c0 s0 false) ∨
    (s0 ≤ (t.put c s a).top c0 - t.win ∧ (t.put c s a).kind c0 s0 = 2 ∧ OnceI (t.put c s a) c0 s0 true) := by
  have ok' := ok.put c s a
  have hw : (t.put c s a).win = t.win := DT.put_win c s a
  by_cases hin : s0 ≤ (t.put c s a).top c0 - t.win
  · refine .inr ⟨hin, ?_, .inr ⟨rfl, by rw [hw]; exact hin⟩⟩
    unfold DT.kind
    rw [if_neg (by rw [hm]; simp), if_pos (by unfold DT.least; rw [hw]; omega)]
  · have hin' : (t.put c s a).top c0 - t.win < s0 := by omega
    rcases h with ⟨hg, h1, h2⟩ | ⟨_, h1⟩
    · have h3 : s0 ∈ (t.put c s a).row c0 ∧ (t.put c s a).ans c0 s0 = firstB := by
        by_cases hk : t.kind c s = 0
        · by_cases hx : c0 = c
          · subst hx
            have hns := (DT.kind_new.1 hk).2.2
            have hne : s0 ≠ s := fun e => hns (e ▸ h1)
            refine ⟨(DT.put_mem ok a hk s0).2 ⟨.inr h1, by rw [DT.put_top ok a hk] at hin'; exact hin'⟩, ?_⟩
            have e : (t.put c0 s a).ans c0 s0 = if s0 = s then a else t.ans c0 s0 := by
              unfold DT.put; rw [if_pos hk]; unfold DT.forget DT.keep; simp
            rw [e, if_neg hne]; exact h2
          · rw [DT.put_row_ne a hx, DT.put_ans_ne a hx]; exact ⟨h1, h2⟩
        · have e : t.put c s a = t := by unfold DT.put; rw [if_neg hk]
          rw [e]; exact ⟨h1, h2⟩
      refine .inl ⟨hin', hg, ?_, ?_, .inl ⟨rfl, h3⟩⟩
      · unfold DT.kind
        rw [if_neg (by rw [hm]; simp), if_neg (by unfold DT.least; rw [hw]; omega), if_pos h3.1]
      · unfold DT.look; rw [if_pos h3.1]; exact h3.2
    · have := DT.put_top_le ok c s a c0
      omega
theorem once_first {win c0 s0 : Int} (h1 : 1 ≤ win) (h2 : win ≤ 4096) (hm : mayR c0 s0 = true) : (newT win).kind c0 s0 = 0 ∧ OnceI ((newT win).put c0 s0 firstB) c0 s0 false := by
  have hms := DT.mayR_iff.1 hm
  have hk : (newT win).kind c0 s0 = 0 := DT.kind_new.2 ⟨hm, by unfold DT.least DT.top newT topR; simp; omega, by simp [newT]⟩
  refine ⟨hk, .inl ⟨rfl, (DT.put_mem (newT_ok h1 h2) _ hk s0).2 ⟨.inl rfl, ?_⟩, ?_⟩⟩
  · have e : (newT win).top c0 = 0 := rfl
    have e2 : (newT win).win = win := rfl
    rw [e, e2]; omega
  · unfold DT.put; rw [if_pos hk]; unfold DT.forget DT.keep; simp
theorem rd8_first (w : World) : Rd8 (w.alloc (.cells #[.int .u8 102, .int .u8 105, .int .u8 114, .int .u8 115, .int .u8 116] 5 (5, 6))) (some ⟨w.heap.size, 0, none⟩) firstB := fun _ => by
  refine ⟨_, rfl, rfl, fun j hj => ?_⟩
  have hj' : j < 5 := by simpa [firstB] using hj
  have hc := cell_of_row (w.alloc (.cells #[.int .u8 102, .int .u8 105, .int .u8 114, .int .u8 115, .int .u8 116] 5 (5, 6))) w.heap.size j #[.int .u8 102, .int .u8 105, .int .u8 114, .int .u8 115, .int .u8 116] 5 (5, 6) (heap_alloc_new w _)
  rw [Nat.zero_add, hc]
  have : j = 0 ∨ j = 1 ∨ j = 2 ∨ j = 3 ∨ j = 4 := by omega
  rcases this with rfl | rfl | rfl | rfl | rfl <;> rfl
theorem conv_first (w : World) : (convert 30 30 (.slice (some ⟨w.heap.size, 0, none⟩) 5 5)).run Try.prog (w.alloc (.cells #[.int .u8 102, .int .u8 105, .int .u8 114, .int .u8 115, .int .u8 116] 5)) = .ok (.slice (some ⟨w.heap.size, 0, none⟩) 5 5) (w.alloc (.cells #[.int .u8 102, .int .u8 105, .int .u8 114, .int .u8 115, .int .u8 116] 5 (5, 6))) :=
  Lib.run_convert_bytes_const (P := Try.prog) w 30 5 #[.int .u8 102, .int .u8 105, .int .u8 114, .int .u8 115, .int .u8 116] 5 5 Try.underlying30 Try.underlying5

set_option maxRecDepth 100000 in
set_option maxHeartbeats 16000000 in
theorem once_any (win : Int) {A : Option Addr} {n cap : Nat} {f : Nat → Dc} (c0 s0 : Int) {w : World} (h : Dcs w w.heap.size A n f) (hl : ∀ j, (f j).a.length ≤ 140737488355328) (hn : (n : Int) ≤ 9223372036854775807) :
    Calls Try.prog 3 #[.int .i64 win, .slice A n cap, .int .i64 c0, .int .i64 s0] w fun e w' => e = .returned (.bool true) ∧ Fr (fun _ => False) w w' := by
  have CK := Lib.hid (fun w' => known_any w')
  have CF := Lib.hid (fun (w' : World) (hf : Fr (fun _ => False) w w') => few_any (cap := cap) (h.fr hf (fun _ _ h => h)) hl hn)
  have H := Lib.hid h
  have HL := Lib.hid hl
  clear h hl
  obtain ⟨fb, hfb⟩ : ∃ fb, fewB n f = fb := ⟨_, rfl⟩
  rw [hfb] at CF
  have HN2 : Hid (fb = true → n ≤ 200) := Lib.hid (fun e => by rw [← hfb] at e; unfold fewB at e; rw [Bool.and_eq_true] at e; exact of_decide_eq_true e.1)
  clear hfb
  cases fb with
  | false =>
    go_enter Try.func3, Try.ntmps3
    go_wp2_with fail
    refine (CK.out w).mono ?_; rintro e w1 ⟨rfl, hf1⟩
    have HF1 := Lib.hid hf1
    clear hf1 CK
    go_wp2_with fail
    refine (CF.out w1 HF1.out).mono ?_; rintro e w2 ⟨rfl, hf2⟩
    have HF2 := Lib.hid (HF1.out.trans hf2 (fun _ _ h => h))
    clear hf2 CF HF1
    go_wp2
    go_ret
    exact ⟨rfl, HF2.out⟩
  | true =>
    by_cases g0 : win < 1
    · have e0 : decide (win < 1) = true := decide_eq_true g0
      go_enter Try.func3, Try.ntmps3
      go_wp2_with fail
      refine (CK.out w).mono ?_; rintro e w1 ⟨rfl, hf1⟩
      have HF1 := Lib.hid hf1
      clear hf1 CK
      go_wp2_with fail
      refine (CF.out w1 HF1.out).mono ?_; rintro e w2 ⟨rfl, hf2⟩
      have HF2 := Lib.hid (HF1.out.trans hf2 (fun _ _ h => h))
      clear hf2 CF HF1
      go_wp2
      go_ret
      exact ⟨rfl, HF2.out⟩
    · have e0 : decide (win < 1) = false := decide_eq_false g0
      by_cases g1 : 4096 < win
      · have e1 : decide (4096 < win) = true := decide_eq_true g1
        go_enter Try.func3, Try.ntmps3
        go_wp2_with fail
        refine (CK.out w).mono ?_; rintro e w1 ⟨rfl, hf1⟩
        have HF1 := Lib.hid hf1
        clear hf1 CK
        go_wp2_with fail
        refine (CF.out w1 HF1.out).mono ?_; rintro e w2 ⟨rfl, hf2⟩
        have HF2 := Lib.hid (HF1.out.trans hf2 (fun _ _ h => h))
        clear hf2 CF HF1
        go_wp2
        go_ret
        exact ⟨rfl, HF2.out⟩
      · have e1 : decide (4096 < win) = false := decide_eq_false g1
        by_cases g2 : c0 < 0
        · have e2 : decide (c0 < 0) = true := decide_eq_true g2
          go_enter Try.func3, Try.ntmps3
          go_wp2_with fail
          refine (CK.out w).mono ?_; rintro e w1 ⟨rfl, hf1⟩
          have HF1 := Lib.hid hf1
          clear hf1 CK
          go_wp2_with fail
          refine (CF.out w1 HF1.out).mono ?_; rintro e w2 ⟨rfl, hf2⟩
          have HF2 := Lib.hid (HF1.out.trans hf2 (fun _ _ h => h))
          clear hf2 CF HF1
          go_wp2
          go_ret
          exact ⟨rfl, HF2.out⟩
        · have e2 : decide (c0 < 0) = false := decide_eq_false g2
          by_cases g3 : 100 < c0
          · have e3 : decide (100 < c0) = true := decide_eq_true g3
            go_enter Try.func3, Try.ntmps3
            go_wp2_with fail
            refine (CK.out w).mono ?_; rintro e w1 ⟨rfl, hf1⟩
            have HF1 := Lib.hid hf1
            clear hf1 CK
            go_wp2_with fail
            refine (CF.out w1 HF1.out).mono ?_; rintro e w2 ⟨rfl, hf2⟩
            have HF2 := Lib.hid (HF1.out.trans hf2 (fun _ _ h => h))
            clear hf2 CF HF1
            go_wp2
            go_ret
            exact ⟨rfl, HF2.out⟩
          · have e3 : decide (100 < c0) = false := decide_eq_false g3
            by_cases g4 : s0 < 1
            · have e4 : decide (s0 < 1) = true := decide_eq_true g4
              go_enter Try.func3, Try.ntmps3
              go_wp2_with fail
              refine (CK.out w).mono ?_; rintro e w1 ⟨rfl, hf1⟩
              have HF1 := Lib.hid hf1
              clear hf1 CK
              go_wp2_with fail
              refine (CF.out w1 HF1.out).mono ?_; rintro e w2 ⟨rfl, hf2⟩
              have HF2 := Lib.hid (HF1.out.trans hf2 (fun _ _ h => h))
              clear hf2 CF HF1
              go_wp2
              go_ret
              exact ⟨rfl, HF2.out⟩
            · have e4 : decide (s0 < 1) = false := decide_eq_false g4
              by_cases g5 : 1000 < s0
              · have e5 : decide (1000 < s0) = true := decide_eq_true g5
                go_enter Try.func3, Try.ntmps3
                go_wp2_with fail
                refine (CK.out w).mono ?_; rintro e w1 ⟨rfl, hf1⟩
                have HF1 := Lib.hid hf1
                clear hf1 CK
                go_wp2_with fail
                refine (CF.out w1 HF1.out).mono ?_; rintro e w2 ⟨rfl, hf2⟩
                have HF2 := Lib.hid (HF1.out.trans hf2 (fun _ _ h => h))
                clear hf2 CF HF1
                go_wp2
                go_ret
                exact ⟨rfl, HF2.out⟩
              · have e5 : decide (1000 < s0) = false := decide_eq_false g5
                have HMY : Hid (mayR c0 s0 = true) := Lib.hid (DT.mayR_iff.2 (by omega))
                have HW : Hid (1 ≤ win ∧ win ≤ 4096) := Lib.hid (by omega)
                have HC0 : Hid (I64 c0) := Lib.hid (I64.of (by omega) (by omega))
                have HS0 : Hid (I64 s0) := Lib.hid (I64.of (by omega) (by omega))
                have HSB : Hid (0 ≤ s0 ∧ s0 ≤ 1000) := Lib.hid (by omega)
                have kc := conv_first
                go_enter Try.func3, Try.ntmps3
                go_wp2_with fail
                refine (CK.out w).mono ?_; rintro e w1 ⟨rfl, hf1⟩
                have HF1 := Lib.hid hf1
                clear hf1 CK
                go_wp2_with fail
                refine (CF.out w1 HF1.out).mono ?_; rintro e w2 ⟨rfl, hf2⟩
                have HF2 := Lib.hid (HF1.out.trans hf2 (fun _ _ h => h))
                clear hf2 CF HF1
                go_wp2_with fail
                clear g0 g1 g2 g3 g4 g5 e0 e1 e2 e3 e4 e5
                refine (RunT.made win w w2 HF2.out HW.out.1 HW.out.2).mono ?_; rintro e w3 ⟨g, F, rfl, h3, _⟩
                have H3 := Lib.hid h3
                clear h3 HF2
                go_wp2_with fail
                have C4 := Lib.hid ((H3.out.on0 ((Fr.refl _ _).alloc (.cells #[.int .u8 102, .int .u8 105, .int .u8 114, .int .u8 115, .int .u8 116] 5 (5, 6)))).putC HC0.out HS0.out (cap := 5) (rd8_first w3) rfl (by decide))
                rw [(once_first HW.out.1 HW.out.2 HMY.out).1] at C4
                refine C4.out.mono ?_; rintro e w4 ⟨rfl, F4, R4, _, _⟩
                have H4 : Hid (∃ t F', RunT w w4 g t F' ∧ OnceI t c0 s0 false ∧ t.win = win) := Lib.hid ⟨_, F4, R4, (once_first HW.out.1 HW.out.2 HMY.out).2, DT.put_win _ _ _⟩
                clear C4 R4 H3 kc
                go_wp2_with fail
                go_loopw [12, 11] (fun i q wr => ∃ (j : Nat) (gn : Bool), j ≤ n ∧ i = .int .i64 (j : Int) ∧ q = .bool gn ∧ Hid (∃ t F', RunT w wr g t F' ∧ OnceI t c0 s0 gn ∧ t.win = win)) (fun i _ _ => n - (intOf i).toNat)
                case atStart => exact ⟨0, false, Nat.zero_le _, rfl, rfl, H4⟩
                case round =>
                  obtain ⟨j, gn, hj, rfl, rfl, hq⟩ := hrel
                  have hj0 : (0 : Int) ≤ (j : Int) := by omega
                  by_cases hlt : j < n
                  · have hj1 : (j : Int) < (n : Int) := by omega
                    obtain ⟨t, F5, HR, HI, HTW⟩ := hq.out
                    replace HR := Lib.hid HR
                    replace HI := Lib.hid HI
                    replace HTW := Lib.hid HTW
                    clear hq H4
                    obtain ⟨b, o, B, m, rfl, hc⟩ := (H.out.fr HR.out.fr (fun _ _ h => h)) j hlt
                    obtain ⟨p, hp⟩ : ∃ p, f j = p := ⟨_, rfl⟩
                    rw [hp] at hc
                    have HD := Lib.hid hc
                    clear hc hp
                    have HC : Hid (∀ w', Fr (fun _ => False) wr w' → w'.cell? ⟨b, o + j * 4 + 1, none⟩ = some (.int .i64 p.c) ∧ w'.cell? ⟨b, o + j * 4 + 2, none⟩ = some (.int .i64 p.s) ∧ w'.cell? ⟨b, o + j * 4 + 3, none⟩ = some (.slice B p.a.length m)) := Lib.hid (fun w' hf => by
                      have := HD.out.fr hf (fun _ _ h => h)
                      exact ⟨this.c1, this.c2, this.c3⟩)
                    have CP := Lib.hid (fun (w' : World) (hf : Fr (fun _ => False) wr w') => (HR.out.on0 hf).putC HD.out.i1 HD.out.i2 (cap := m) (HD.out.rd.fr hf (fun _ _ _ h => h)) rfl HD.out.ln)
                    have HST := Lib.hid (once_step HR.out.ok HMY.out HI.out p.c p.s p.a)
                    have HW5 : Hid ((t.put p.c p.s p.a).win = win) := Lib.hid ((DT.put_win _ _ _).trans HTW.out)
                    obtain ⟨t', ht'⟩ : ∃ t', t.put p.c p.s p.a = t' := ⟨_, rfl⟩
                    rw [ht'] at CP HST HW5
                    rw [HTW.out] at HST
                    generalize t.kind p.c p.s = kd at *
                    obtain ⟨pn, hpn⟩ : ∃ pn, p.a.length = pn := ⟨_, rfl⟩
                    rw [hpn] at HC CP
                    generalize p.c = pc at *
                    generalize p.s = ps at *
                    have hw1 : IntKind.i64.wrap ((j : Int) + 1) = (j : Int) + 1 := IntWalk.i64_in _ (by omega)
                    clear ht' hpn HR HI HTW
                    go_wp2_with fail
                    refine wp_region_Z [16] (fun w' => Fr (fun _ => False) wr w') (by kernel_rfl) ((Fr.refl _ _).drew) (fun hHeld => ?_)
                    refine anyZ_pure (i := 0) (v := ?_) (some 71) rfl rfl (by kernel_rfl) (by kernel_rfl) (by kernel_rfl) (by kernel_rfl) (fun _ _ _ h => h) (Or.inl ⟨by rfl, ?_⟩) (fun _ => hHeld) ?_
                    rotate_left
                    · intro w' _
                      go_simp
                      first | done | with_reducible rfl
                    try simp only [Act.put, List.setIfInBounds_toArray, List.set_cons_zero, List.set_cons_succ]
                    refine anyZ_pure (i := 1) (v := ?_) (some 72) rfl rfl (by kernel_rfl) (by kernel_rfl) (by kernel_rfl) (by kernel_rfl) (fun _ _ _ h => h) (Or.inl ⟨by rfl, ?_⟩) (fun _ => hHeld) ?_
                    rotate_left
                    · intro w' _
                      go_simp
                      first | done | with_reducible rfl
                    try simp only [Act.put, List.setIfInBounds_toArray, List.set_cons_zero, List.set_cons_succ]
                    refine anyZ_pure (i := 2) (v := ?_) (some 73) rfl rfl (by kernel_rfl) (by kernel_rfl) (by kernel_rfl) (by kernel_rfl) (fun _ _ _ h => h) (Or.inl ⟨by rfl, ?_⟩) (fun _ => hHeld) ?_
                    rotate_left
                    · intro w' _
                      go_simp
                      first | done | with_reducible rfl
                    try simp only [Act.put, List.setIfInBounds_toArray, List.set_cons_zero, List.set_cons_succ]
                    refine anyZ_pure (i := 3) (v := ?_) (some 74) rfl rfl (by kernel_rfl) (by kernel_rfl) (by kernel_rfl) (by kernel_rfl) (fun _ _ _ h => h) (Or.inl ⟨by rfl, ?_⟩) (fun _ => hHeld) ?_
                    rotate_left
                    · intro w' _
                      go_simp
                      first | done | with_reducible rfl
                    try simp only [Act.put, List.setIfInBounds_toArray, List.set_cons_zero, List.set_cons_succ]
                    refine anyZ_pure (i := 4) (v := ?_) (some 75) rfl rfl (by kernel_rfl) (by kernel_rfl) (by kernel_rfl) (by kernel_rfl) (fun _ _ _ h => h) (Or.inl ⟨by rfl, ?_⟩) (fun _ => hHeld) ?_
                    rotate_left
                    · intro w' _
                      go_simp
                      first | done | with_reducible rfl
                    try simp only [Act.put, List.setIfInBounds_toArray, List.set_cons_zero, List.set_cons_succ]
                    refine anyZ_read (i := 5) (v := ?_) (some 76) [16] rfl rfl (by kernel_rfl) (by kernel_rfl) (by kernel_rfl) (by kernel_rfl) (by kernel_rfl) (by kernel_rfl) (fun _ _ _ h => h) (Or.inl ⟨by rfl, ?_⟩) hHeld ?_
                    rotate_left
                    · intro w' hSw
                      obtain ⟨x1, x2, x3⟩ := HC.out w' hSw
                      go_simp
                      first | done | with_reducible rfl
                    try simp only [Act.put, List.setIfInBounds_toArray, List.set_cons_zero, List.set_cons_succ]
                    refine anyZ_pure (i := 6) (v := ?_) (some 77) rfl rfl (by kernel_rfl) (by kernel_rfl) (by kernel_rfl) (by kernel_rfl) (fun _ _ _ h => h) (Or.inl ⟨by rfl, ?_⟩) (fun _ => hHeld) ?_
                    rotate_left
                    · intro w' _
                      go_simp
                      first | done | with_reducible rfl
                    try simp only [Act.put, List.setIfInBounds_toArray, List.set_cons_zero, List.set_cons_succ]
                    refine anyZ_pure (i := 7) (v := ?_) (some 78) rfl rfl (by kernel_rfl) (by kernel_rfl) (by kernel_rfl) (by kernel_rfl) (fun _ _ _ h => h) (Or.inl ⟨by rfl, ?_⟩) (fun _ => hHeld) ?_
                    rotate_left
                    · intro w' _
                      go_simp
                      first | done | with_reducible rfl
                    try simp only [Act.put, List.setIfInBounds_toArray, List.set_cons_zero, List.set_cons_succ]
                    refine anyZ_pure (i := 8) (v := ?_) (some 79) rfl rfl (by kernel_rfl) (by kernel_rfl) (by kernel_rfl) (by kernel_rfl) (fun _ _ _ h => h) (Or.inl ⟨by rfl, ?_⟩) (fun _ => hHeld) ?_
                    rotate_left
                    · intro w' _
                      go_simp
                      first | done | with_reducible rfl
                    try simp only [Act.put, List.setIfInBounds_toArray, List.set_cons_zero, List.set_cons_succ]
                    refine anyZ_pure (i := 9) (v := ?_) (some 80) rfl rfl (by kernel_rfl) (by kernel_rfl) (by kernel_rfl) (by kernel_rfl) (fun _ _ _ h => h) (Or.inl ⟨by rfl, ?_⟩) (fun _ => hHeld) ?_
                    rotate_left
                    · intro w' _
                      go_simp
                      first | done | with_reducible rfl
                    try simp only [Act.put, List.setIfInBounds_toArray, List.set_cons_zero, List.set_cons_succ]
                    refine anyZ_read (i := 10) (v := ?_) (some 81) [16] rfl rfl (by kernel_rfl) (by kernel_rfl) (by kernel_rfl) (by kernel_rfl) (by kernel_rfl) (by kernel_rfl) (fun _ _ _ h => h) (Or.inl ⟨by rfl, ?_⟩) hHeld ?_
                    rotate_left
                    · intro w' hSw
                      obtain ⟨x1, x2, x3⟩ := HC.out w' hSw
                      go_simp
                      first | done | with_reducible rfl
                    try simp only [Act.put, List.setIfInBounds_toArray, List.set_cons_zero, List.set_cons_succ]
                    refine anyZ_pure (i := 11) (v := ?_) (some 82) rfl rfl (by kernel_rfl) (by kernel_rfl) (by kernel_rfl) (by kernel_rfl) (fun _ _ _ h => h) (Or.inl ⟨by rfl, ?_⟩) (fun _ => hHeld) ?_
                    rotate_left
                    · intro w' _
                      go_simp
                      first | done | with_reducible rfl
                    try simp only [Act.put, List.setIfInBounds_toArray, List.set_cons_zero, List.set_cons_succ]
                    refine anyZ_pure (i := 12) (v := ?_) (some 83) rfl rfl (by kernel_rfl) (by kernel_rfl) (by kernel_rfl) (by kernel_rfl) (fun _ _ _ h => h) (Or.inl ⟨by rfl, ?_⟩) (fun _ => hHeld) ?_
                    rotate_left
                    · intro w' _
                      go_simp
                      first | done | with_reducible rfl
                    try simp only [Act.put, List.setIfInBounds_toArray, List.set_cons_zero, List.set_cons_succ]
                    refine anyZ_pure (i := 13) (v := ?_) (some 84) rfl rfl (by kernel_rfl) (by kernel_rfl) (by kernel_rfl) (by kernel_rfl) (fun _ _ _ h => h) (Or.inl ⟨by rfl, ?_⟩) (fun _ => hHeld) ?_
                    rotate_left
                    · intro w' _
                      go_simp
                      first | done | with_reducible rfl
                    try simp only [Act.put, List.setIfInBounds_toArray, List.set_cons_zero, List.set_cons_succ]
                    refine anyZ_pure (i := 14) (v := ?_) (some 85) rfl rfl (by kernel_rfl) (by kernel_rfl) (by kernel_rfl) (by kernel_rfl) (fun _ _ _ h => h) (Or.inl ⟨by rfl, ?_⟩) (fun _ => hHeld) ?_
                    rotate_left
                    · intro w' _
                      go_simp
                      first | done | with_reducible rfl
                    try simp only [Act.put, List.setIfInBounds_toArray, List.set_cons_zero, List.set_cons_succ]
                    refine anyZ_read (i := 15) (v := ?_) (some 86) [16] rfl rfl (by kernel_rfl) (by kernel_rfl) (by kernel_rfl) (by kernel_rfl) (by kernel_rfl) (by kernel_rfl) (fun _ _ _ h => h) (Or.inl ⟨by rfl, ?_⟩) hHeld ?_
                    rotate_left
                    · intro w' hSw
                      obtain ⟨x1, x2, x3⟩ := HC.out w' hSw
                      go_simp
                      first | done | with_reducible rfl
                    try simp only [Act.put, List.setIfInBounds_toArray, List.set_cons_zero, List.set_cons_succ]
                    refine anyZ_ready (rs := [16]) (by kernel_rfl) (by simp) ?_
                    refine AllZ.last rfl (by kernel_rfl) (fun K hK => ?_) AllZ.nil
                    go_simp
                    refine (CP.out _ hHeld).mono ?_; rintro e w5 ⟨rfl, F6, R5, _, _⟩
                    have HR5 := Lib.hid R5
                    clear R5 CP
                    try go_simp
                    refine hK.out _ _ ?_
                    clear hK K
                    try change anyZ _ _ _ _ _ _ _ _ (Act.put _ (some 87) _) _
                    try simp only [Act.put, List.setIfInBounds_toArray, List.set_cons_zero, List.set_cons_succ]
                    refine anyZ_done (by kernel_rfl) ?_ _
                    go_wp2_with fail
                    have CL := Lib.hid (HR5.out.lookC HC0.out HS0.out)
                    have CT := Lib.hid (fun (w' : World) (hf : Fr (fun _ => False) w5 w') => (HR5.out.on0 hf).topC HC0.out)
                    have HTR := Lib.hid (HR5.out.ok.top_rng c0)
                    obtain ⟨tp, htp⟩ : ∃ tp, t'.top c0 = tp := ⟨_, rfl⟩
                    rw [htp] at CT HTR HST
                    have w1 : IntKind.i64.wrap (tp - win) = tp - win := IntWalk.i64_in _ (by have := HTR.out; have := HW.out; omega)
                    clear htp HTR
                    rcases HST.out with ⟨b1, rfl, b2, b3, b4⟩ | ⟨b1, b2, b4⟩
                    · have d1 : decide (tp - win < s0) = true := decide_eq_true b1
                      rw [b2, b3] at CL
                      have HON := Lib.hid b4
                      clear b1 b2 b3 b4 HST
                      go_wp2_with fail
                      refine CL.out.mono ?_; rintro e w6 ⟨A6, c6, rfl, ho6, hf6, R6⟩
                      have HR6 := Lib.hid R6
                      have hst : (convert 30 9 (.slice A6 5 c6)).run Try.prog w6 = .ok (.string ⟨#[102, 105, 114, 115, 116]⟩) w6 := run_str8 (w := w6) Try.t8 Try.underlying5 Try.underlying9 c6 ho6.rd rfl
                      have HF6 := Lib.hid hf6.1
                      clear CL ho6 hf6 R6
                      rw [show firstB.length = 5 from rfl]
                      go_wp2_with fail
                      refine (CT.out w6 HF6.out).mono ?_; rintro e w7 ⟨rfl, rfl⟩
                      go_wp2
                      go_roundw
                      case rel => exact ⟨j + 1, false, by omega, by go_num, rfl, ⟨_, _, HR6.out, HON.out, HW5.out⟩⟩
                      case measure => simp [intOf]; omega
                    · have d1 : decide (tp - win < s0) = false := decide_eq_false (by omega)
                      rw [b2] at CL
                      have HON := Lib.hid b4
                      clear b1 b2 b4 HST
                      cases gn with
                      | false =>
                        go_wp2_with fail
                        refine CL.out.mono ?_; rintro e w6 ⟨A6, c6, rfl, ho6, hf6, R6⟩
                        have HR6 := Lib.hid R6
                        have HF6 := Lib.hid hf6.1
                        clear CL ho6 hf6 R6
                        go_wp2_with fail
                        refine (CT.out w6 HF6.out).mono ?_; rintro e w7 ⟨rfl, rfl⟩
                        go_wp2
                        go_roundw
                        case rel => exact ⟨j + 1, true, by omega, by go_num, rfl, ⟨_, _, HR6.out, HON.out, HW5.out⟩⟩
                        case measure => simp [intOf]; omega
                      | true =>
                        go_wp2_with fail
                        refine CL.out.mono ?_; rintro e w6 ⟨A6, c6, rfl, ho6, hf6, R6⟩
                        have HR6 := Lib.hid R6
                        have HF6 := Lib.hid hf6.1
                        clear CL ho6 hf6 R6
                        go_wp2_with fail
                        refine (CT.out w6 HF6.out).mono ?_; rintro e w7 ⟨rfl, rfl⟩
                        go_wp2
                        go_roundw
                        case rel => exact ⟨j + 1, true, by omega, by go_num, rfl, ⟨_, _, HR6.out, HON.out, HW5.out⟩⟩
                        case measure => simp [intOf]; omega
                  · obtain rfl : j = n := by omega
                    obtain ⟨t, F5, HR, _, _⟩ := hq.out
                    replace HR := Lib.hid HR.fr
                    clear hq H4 hlt hj
                    go_wp2
                    go_ret
                    exact ⟨rfl, HR.out⟩
end Go.Proofs.Ytdfkoehcmgcoiaa
