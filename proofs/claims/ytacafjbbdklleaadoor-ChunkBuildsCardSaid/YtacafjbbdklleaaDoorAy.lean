/- The reference's Add, where the piece is taken. -/
import Derived.Test.YtacafjbbdklleaaDoorAw
namespace Go.Proofs.YtacafjbbdklleaaDoor
open Go.RowKit

set_option maxRecDepth 100000 in
set_option maxHeartbeats 8000000 in
theorem refAdd_e1 (rb : Nat) (s : BSt) (p : Pc) (A : Option Addr) (n c : Nat) (D : Option Addr) (m k F : Nat) (w : World) (hb : RB w rb s (.slice A n c)) (hs : Sl8 w F D m k p.data) (hFrb : F ≤ rb) (hps : p.sum < 4294967296) (hmay : p.may) (h2 : s.id < p.id) (h3 : p.at_ = 0) :
    Calls Tryd.prog 18 #[.pointer (some ⟨rb, 0, none⟩), p.v (.slice D m k)] w (RAddE rb s (.slice A n c) p w) := by
  have HRB := Lib.hid hb
  have HS := Lib.hid hs
  have HM := Lib.hid hs.1
  have HN := Lib.hid hb.2.2.cap8.1
  have HMAY := Lib.hid hmay
  have HPS := Lib.hid hps
  have HNB := Lib.hid hb.1.len
  have HNB2 : Hid (∀ ad, D = some ad → 0 < p.data.length → ¬ ad.block = rb) := Lib.hid (fun ad e h0 e2 => by have := hs.2.2.2.2 ad e h0; omega)
  have HMB : Hid (m ≤ 1048576) := Lib.hid (by have h1 := hmay.2.2.1; have h2 := hmay.2.2.2.2.1; have h3 := hs.1; have h4 := hmay.2.2.2.1; omega)
  have hE1 := BSt.addE_new hmay h2 h3
  have HE := Lib.hid hE1.1
  have HPT := Lib.hid hE1.2
  have HID := Lib.hid hmay.1
  obtain ⟨sid, stot, ssum, sxs⟩ := s
  obtain ⟨pid, pat, ptot, psum, pxs⟩ := p
  obtain ⟨rt, hrt⟩ : ∃ rt, rtot ⟨sid, stot, ssum, sxs⟩ = rt := ⟨_, rfl⟩
  have KR0 := HRB.out.2.1
  rw [hrt] at KR0
  unfold Pc.v
  obtain ⟨m1, m2, m3, m4, m5, m6⟩ := hmay
  simp only at *
  rw [HM.out] at m5 m6
  obtain ⟨pb, hpb⟩ : ∃ pb, w.heap.size = pb := ⟨_, rfl⟩
  obtain ⟨W, hW⟩ : ∃ W, w.alloc (.cells #[.int .i64 pid, .int .i64 pat, .int .i64 ptot, .int .u32 psum, .slice D m k] 37) = W := ⟨_, rfl⟩
  have KP : Hid (Bk W pb 37 #[.int .i64 pid, .int .i64 pat, .int .i64 ptot, .int .u32 psum, .slice D m k]) := Lib.hid (by rw [← hW, ← hpb]; exact Bk.new _ _ _)
  have FW : Hid (Fr (fun _ => False) w W) := Lib.hid (by rw [← hW]; exact (Fr.refl _ _).alloc _)
  have KR : Hid (Bk W rb 45 #[.int .i64 sid, .int .i64 rt, .int .u32 ssum, .slice A n c]) := Lib.hid (KR0.fr FW.out (fun h => h))
  have HPE := Lib.hid hpb
  clear KR0 hb hs
  subst h3
  have g1 : decide (pid < sid) = false := decide_eq_false (by omega)
  have g2 : (sid == pid) = false := by rw [beq_eq_false_iff_ne]; omega
  have g5 : decide (sid < pid) = true := decide_eq_true h2
  have g6 : decide ((0 : Int) < 0) = false := rfl
  rcases Nat.eq_zero_or_pos m with h6 | h6
  · have g7 : decide (0 < m) = false := decide_eq_false (by omega)
    have g7i : decide ((0 : Int) < (m : Int)) = false := decide_eq_false (by omega)
    have HM00 := Lib.hid h6
    have w9 : IntKind.i64.wrap (m : Int) = (m : Int) := IntWalk.i64_in _ (by have := HMB.out; omega)
    have d1 : decide ((0 : Int) < 0) = false := decide_eq_false (by omega)
    have d2 : decide (ptot < 0) = false := decide_eq_false (by omega)
    have d3 : decide (1048576 < ptot) = false := decide_eq_false (by omega)
    have d4 : decide (ptot < 0) = false := decide_eq_false (by omega)
    have w1 : IntKind.i64.wrap (ptot - 0) = ptot - 0 := IntWalk.i64_in _ (by omega)
    have d5 : decide (ptot - 0 < (m : Int)) = false := decide_eq_false (by omega)
    have d8 : decide (pid < 0) = false := decide_eq_false (by omega)
    have w0 : IntKind.i64.wrap 0 = 0 := rfl
    have w1b : IntKind.i64.wrap ptot = ptot := IntWalk.i64_in _ (by omega)
    have d5b : decide (ptot < (m : Int)) = false := decide_eq_false (by omega)
    have d6 : (m == 0) = true := by rw [beq_iff_eq]; omega
    have d6i : ((m : Int) == 0) = true := by rw [beq_iff_eq]; omega
    have d7 : (ptot != 0) = false := by rw [bne_eq_false_iff_eq]; omega
    clear m1 m2 m3 m4 m5 m6 h2 hrt h6
    go_enter Tryd.func18, Tryd.ntmps18
    have p0 := KP.out.cell 0
    have p1 := KP.out.cell 1
    have p2 := KP.out.cell 2
    have p3 := KP.out.cell 3
    have p4 := KP.out.cell 4
    have r0 := KR.out.cell 0
    have r1 := KR.out.cell 1
    have r2 := KR.out.cell 2
    have r3 := KR.out.cell 3
    go_wp2_with fail
    clear hW hpb
    go_quiet (fail)
    have FQ0 : Hid (Fr (fun _ => False) W (W.drewN nq)) := Lib.hid ((Fr.refl _ _).drewN _)
    generalize W.drewN nq = W1 at *
    replace KP := Lib.hid (KP.out.fr FQ0.out (fun h => h))
    replace KR := Lib.hid (KR.out.fr FQ0.out (fun h => h))
    replace FW := Lib.hid (FW.out.trans FQ0.out (fun _ _ h => h))
    clear p0 p1 p2 p3 p4 r0 r1 r2 r3
    have p0 := KP.out.cell 0
    have p1 := KP.out.cell 1
    have p2 := KP.out.cell 2
    have p3 := KP.out.cell 3
    have p4 := KP.out.cell 4
    have r0 := KR.out.cell 0
    have r1 := KR.out.cell 1
    have r2 := KR.out.cell 2
    have r3 := KR.out.cell 3
    go_wp2_with fail
    go_quiet (fail)
    have FQ1 : Hid (Fr (fun _ => False) W1 (W1.drewN nq)) := Lib.hid ((Fr.refl _ _).drewN _)
    generalize W1.drewN nq = W2 at *
    replace KP := Lib.hid (KP.out.fr FQ1.out (fun h => h))
    replace KR := Lib.hid (KR.out.fr FQ1.out (fun h => h))
    replace FW := Lib.hid (FW.out.trans FQ1.out (fun _ _ h => h))
    clear p0 p1 p2 p3 p4 r0 r1 r2 r3
    have p0 := KP.out.cell 0
    have p1 := KP.out.cell 1
    have p2 := KP.out.cell 2
    have p3 := KP.out.cell 3
    have p4 := KP.out.cell 4
    have r0 := KR.out.cell 0
    have r1 := KR.out.cell 1
    have r2 := KR.out.cell 2
    have r3 := KR.out.cell 3
    go_wp2_with fail
    go_quiet (fail)
    have FQ2 : Hid (Fr (fun _ => False) W2 (W2.drewN nq)) := Lib.hid ((Fr.refl _ _).drewN _)
    generalize W2.drewN nq = W3 at *
    replace KP := Lib.hid (KP.out.fr FQ2.out (fun h => h))
    replace KR := Lib.hid (KR.out.fr FQ2.out (fun h => h))
    replace FW := Lib.hid (FW.out.trans FQ2.out (fun _ _ h => h))
    clear p0 p1 p2 p3 p4 r0 r1 r2 r3
    have p0 := KP.out.cell 0
    have p1 := KP.out.cell 1
    have p2 := KP.out.cell 2
    have p3 := KP.out.cell 3
    have p4 := KP.out.cell 4
    have r0 := KR.out.cell 0
    have r1 := KR.out.cell 1
    have r2 := KR.out.cell 2
    have r3 := KR.out.cell 3
    go_wp2_with fail
    go_quiet (fail)
    have FQ3 : Hid (Fr (fun _ => False) W3 (W3.drewN nq)) := Lib.hid ((Fr.refl _ _).drewN _)
    generalize W3.drewN nq = W4 at *
    replace KP := Lib.hid (KP.out.fr FQ3.out (fun h => h))
    replace KR := Lib.hid (KR.out.fr FQ3.out (fun h => h))
    replace FW := Lib.hid (FW.out.trans FQ3.out (fun _ _ h => h))
    clear p0 p1 p2 p3 p4 r0 r1 r2 r3
    have p0 := KP.out.cell 0
    have p1 := KP.out.cell 1
    have p2 := KP.out.cell 2
    have p3 := KP.out.cell 3
    have p4 := KP.out.cell 4
    have r0 := KR.out.cell 0
    have r1 := KR.out.cell 1
    have r2 := KR.out.cell 2
    have r3 := KR.out.cell 3
    obtain ⟨W5, hW5⟩ : ∃ W5, set4 W4 rb (.int .i64 pid) (.int .i64 ptot) (.int .u32 psum) (.slice none 0 0) = W5 := ⟨_, rfl⟩
    have KR' : Hid (Bk W5 rb 45 #[.int .i64 pid, .int .i64 ptot, .int .u32 psum, .slice none 0 0]) := Lib.hid (by rw [← hW5]; exact KR.out.set4 ..)
    have FS5 : Hid (Fr (fun x => x = rb) W4 W5) := Lib.hid (by rw [← hW5]; exact Fr.set4 (Fr.refl (fun x => x = rb) _) (fun _ => rfl) ..)
    have KP' := Lib.hid (KP.out.fr FS5.out (fun e => by have h1 := HRB.out.2.1.lt; have h2 := HPE.out; have e' : pb = rb := e; omega))
    have FWX : Hid (Fr (fun x => x = rb) w W5) := Lib.hid ((FW.out.mono (fun _ _ h => h.elim)).trans FS5.out (fun _ _ h => h))
    have rf0 := KR.out.frozen 0
    have rf1 := KR.out.frozen 1
    have rf2 := KR.out.frozen 2
    have rf3 := KR.out.frozen 3
    unfold set4 at hW5
    go_wp2_with fail
    clear p0 p1 p2 p3 p4 r0 r1 r2 r3
    clear rf0 rf1 rf2 rf3 hW5
    replace KR := KR'
    replace KP := KP'
    clear KR' KP'
    have p0 := KP.out.cell 0
    have p1 := KP.out.cell 1
    have p2 := KP.out.cell 2
    have p3 := KP.out.cell 3
    have p4 := KP.out.cell 4
    have r0 := KR.out.cell 0
    have r1 := KR.out.cell 1
    have r2 := KR.out.cell 2
    have r3 := KR.out.cell 3
    go_quiet (fail)
    have FQ5 : Hid (Fr (fun _ => False) W5 (W5.drewN nq)) := Lib.hid ((Fr.refl _ _).drewN _)
    generalize W5.drewN nq = W6 at *
    replace KP := Lib.hid (KP.out.fr FQ5.out (fun h => h))
    replace KR := Lib.hid (KR.out.fr FQ5.out (fun h => h))
    replace FWX := Lib.hid (FWX.out.trans FQ5.out (fun _ _ h => h.elim))
    clear p0 p1 p2 p3 p4 r0 r1 r2 r3
    have p0 := KP.out.cell 0
    have p1 := KP.out.cell 1
    have p2 := KP.out.cell 2
    have p3 := KP.out.cell 3
    have p4 := KP.out.cell 4
    have r0 := KR.out.cell 0
    have r1 := KR.out.cell 1
    have r2 := KR.out.cell 2
    have r3 := KR.out.cell 3
    go_wp2_with fail
    have HTX : Hid ((BSt.begin ⟨sid, stot, ssum, sxs⟩ ⟨pid, 0, ptot, psum, pxs⟩).put ⟨pid, 0, ptot, psum, pxs⟩ = ⟨pid, ptot, psum, []⟩) := Lib.hid (by
      rw [HPT.out]
      have : pxs = [] := List.eq_nil_of_length_eq_zero (by rw [HM.out]; exact HM00.out)
      rw [this])
    go_quiet (fail)
    go_wp2
    go_ret2
    exact RAddE.yes HE.out HTX.out HPS.out HRB.out.1 0 rfl (KR.out.drewN _) (Own8.nil _ _) (FWX.out.drewN _) (fun x hx => by simp [Value.ownBlock] at hx) HID.out
  · have g7 : decide (0 < m) = true := decide_eq_true h6
    have g7i : decide ((0 : Int) < (m : Int)) = true := decide_eq_true (by omega)
    have w9 : IntKind.i64.wrap (m : Int) = (m : Int) := IntWalk.i64_in _ (by have := HMB.out; omega)
    obtain ⟨A2, c2, hsl, _, _, _, hrd⟩ := run_fromB D m k 0 (by omega) HS.out.2.1 HS.out.2.2.1 HS.out.base
    obtain ⟨z, hz⟩ : ∃ z, m - 0 = z := ⟨_, rfl⟩
    rw [show ((0 : Nat) : Int) = 0 from rfl] at hsl
    rw [hz] at hsl
    have HZ := Lib.hid hz
    have HSL := Lib.hid hsl
    have HRD0 : Hid (∀ w', Fr (fun x => x = rb) w w' → Rd8 w' A2 (pxs.drop 0)) := Lib.hid (fun w' hf => hrd w' pxs HM.out (HS.out.2.2.2.1.fr hf (fun ad e h0 e2 => HNB2.out ad e h0 e2)))
    clear hsl hrd hz
    have d1 : decide (0 < 0) = false := decide_eq_false (by omega)
    have d2 : decide (ptot < 0) = false := decide_eq_false (by omega)
    have d3 : decide (1048576 < ptot) = false := decide_eq_false (by omega)
    have d4 : decide (ptot < 0) = false := decide_eq_false (by omega)
    have w1 : IntKind.i64.wrap (ptot - 0) = ptot - 0 := IntWalk.i64_in _ (by omega)
    have d5 : decide (ptot - 0 < (m : Int)) = false := decide_eq_false (by omega)
    have d8 : decide (pid < 0) = false := decide_eq_false (by omega)
    have w0 : IntKind.i64.wrap 0 = 0 := rfl
    have w1b : IntKind.i64.wrap ptot = ptot := IntWalk.i64_in _ (by omega)
    have d5b : decide (ptot < (m : Int)) = false := decide_eq_false (by omega)
    have d6 : (m == 0) = false := by rw [beq_eq_false_iff_ne]; omega
    have d6i : ((m : Int) == 0) = false := by rw [beq_eq_false_iff_ne]; omega
    clear m1 m2 m3 m4 m5 m6 h2 hrt h6
    go_enter Tryd.func18, Tryd.ntmps18
    have p0 := KP.out.cell 0
    have p1 := KP.out.cell 1
    have p2 := KP.out.cell 2
    have p3 := KP.out.cell 3
    have p4 := KP.out.cell 4
    have r0 := KR.out.cell 0
    have r1 := KR.out.cell 1
    have r2 := KR.out.cell 2
    have r3 := KR.out.cell 3
    go_wp2_with fail
    clear hW hpb
    go_quiet (fail)
    have FQ0 : Hid (Fr (fun _ => False) W (W.drewN nq)) := Lib.hid ((Fr.refl _ _).drewN _)
    generalize W.drewN nq = W1 at *
    replace KP := Lib.hid (KP.out.fr FQ0.out (fun h => h))
    replace KR := Lib.hid (KR.out.fr FQ0.out (fun h => h))
    replace FW := Lib.hid (FW.out.trans FQ0.out (fun _ _ h => h))
    clear p0 p1 p2 p3 p4 r0 r1 r2 r3
    have p0 := KP.out.cell 0
    have p1 := KP.out.cell 1
    have p2 := KP.out.cell 2
    have p3 := KP.out.cell 3
    have p4 := KP.out.cell 4
    have r0 := KR.out.cell 0
    have r1 := KR.out.cell 1
    have r2 := KR.out.cell 2
    have r3 := KR.out.cell 3
    go_wp2_with fail
    go_quiet (fail)
    have FQ1 : Hid (Fr (fun _ => False) W1 (W1.drewN nq)) := Lib.hid ((Fr.refl _ _).drewN _)
    generalize W1.drewN nq = W2 at *
    replace KP := Lib.hid (KP.out.fr FQ1.out (fun h => h))
    replace KR := Lib.hid (KR.out.fr FQ1.out (fun h => h))
    replace FW := Lib.hid (FW.out.trans FQ1.out (fun _ _ h => h))
    clear p0 p1 p2 p3 p4 r0 r1 r2 r3
    have p0 := KP.out.cell 0
    have p1 := KP.out.cell 1
    have p2 := KP.out.cell 2
    have p3 := KP.out.cell 3
    have p4 := KP.out.cell 4
    have r0 := KR.out.cell 0
    have r1 := KR.out.cell 1
    have r2 := KR.out.cell 2
    have r3 := KR.out.cell 3
    go_wp2_with fail
    go_quiet (fail)
    have FQ2 : Hid (Fr (fun _ => False) W2 (W2.drewN nq)) := Lib.hid ((Fr.refl _ _).drewN _)
    generalize W2.drewN nq = W3 at *
    replace KP := Lib.hid (KP.out.fr FQ2.out (fun h => h))
    replace KR := Lib.hid (KR.out.fr FQ2.out (fun h => h))
    replace FW := Lib.hid (FW.out.trans FQ2.out (fun _ _ h => h))
    clear p0 p1 p2 p3 p4 r0 r1 r2 r3
    have p0 := KP.out.cell 0
    have p1 := KP.out.cell 1
    have p2 := KP.out.cell 2
    have p3 := KP.out.cell 3
    have p4 := KP.out.cell 4
    have r0 := KR.out.cell 0
    have r1 := KR.out.cell 1
    have r2 := KR.out.cell 2
    have r3 := KR.out.cell 3
    go_wp2_with fail
    go_quiet (fail)
    have FQ3 : Hid (Fr (fun _ => False) W3 (W3.drewN nq)) := Lib.hid ((Fr.refl _ _).drewN _)
    generalize W3.drewN nq = W4 at *
    replace KP := Lib.hid (KP.out.fr FQ3.out (fun h => h))
    replace KR := Lib.hid (KR.out.fr FQ3.out (fun h => h))
    replace FW := Lib.hid (FW.out.trans FQ3.out (fun _ _ h => h))
    clear p0 p1 p2 p3 p4 r0 r1 r2 r3
    have p0 := KP.out.cell 0
    have p1 := KP.out.cell 1
    have p2 := KP.out.cell 2
    have p3 := KP.out.cell 3
    have p4 := KP.out.cell 4
    have r0 := KR.out.cell 0
    have r1 := KR.out.cell 1
    have r2 := KR.out.cell 2
    have r3 := KR.out.cell 3
    obtain ⟨W5, hW5⟩ : ∃ W5, set4 W4 rb (.int .i64 pid) (.int .i64 ptot) (.int .u32 psum) (.slice none 0 0) = W5 := ⟨_, rfl⟩
    have KR' : Hid (Bk W5 rb 45 #[.int .i64 pid, .int .i64 ptot, .int .u32 psum, .slice none 0 0]) := Lib.hid (by rw [← hW5]; exact KR.out.set4 ..)
    have FS5 : Hid (Fr (fun x => x = rb) W4 W5) := Lib.hid (by rw [← hW5]; exact Fr.set4 (Fr.refl (fun x => x = rb) _) (fun _ => rfl) ..)
    have KP' := Lib.hid (KP.out.fr FS5.out (fun e => by have h1 := HRB.out.2.1.lt; have h2 := HPE.out; have e' : pb = rb := e; omega))
    have FWX : Hid (Fr (fun x => x = rb) w W5) := Lib.hid ((FW.out.mono (fun _ _ h => h.elim)).trans FS5.out (fun _ _ h => h))
    have rf0 := KR.out.frozen 0
    have rf1 := KR.out.frozen 1
    have rf2 := KR.out.frozen 2
    have rf3 := KR.out.frozen 3
    unfold set4 at hW5
    go_wp2_with fail
    clear p0 p1 p2 p3 p4 r0 r1 r2 r3
    clear rf0 rf1 rf2 rf3 hW5
    replace KR := KR'
    replace KP := KP'
    clear KR' KP'
    have p0 := KP.out.cell 0
    have p1 := KP.out.cell 1
    have p2 := KP.out.cell 2
    have p3 := KP.out.cell 3
    have p4 := KP.out.cell 4
    have r0 := KR.out.cell 0
    have r1 := KR.out.cell 1
    have r2 := KR.out.cell 2
    have r3 := KR.out.cell 3
    go_quiet (fail)
    have FQ5 : Hid (Fr (fun _ => False) W5 (W5.drewN nq)) := Lib.hid ((Fr.refl _ _).drewN _)
    generalize W5.drewN nq = W6 at *
    replace KP := Lib.hid (KP.out.fr FQ5.out (fun h => h))
    replace KR := Lib.hid (KR.out.fr FQ5.out (fun h => h))
    replace FWX := Lib.hid (FWX.out.trans FQ5.out (fun _ _ h => h.elim))
    clear p0 p1 p2 p3 p4 r0 r1 r2 r3
    have p0 := KP.out.cell 0
    have p1 := KP.out.cell 1
    have p2 := KP.out.cell 2
    have p3 := KP.out.cell 3
    have p4 := KP.out.cell 4
    have r0 := KR.out.cell 0
    have r1 := KR.out.cell 1
    have r2 := KR.out.cell 2
    have r3 := KR.out.cell 3
    go_wp2_with fail
    have HRV : Hid (∀ w', Fr (fun _ => False) W6 w' → Rd8 w' none []) := Lib.hid (fun w' _ => Rd8.nil _ _)
    have HRD : Hid (∀ w', Fr (fun _ => False) W6 w' → Rd8 w' A2 (pxs.drop 0)) := Lib.hid (fun w' hf => HRD0.out w' (FWX.out.trans hf (fun _ _ h => h.elim)))
    have HBL : Hid (([] : List UInt8).length = 0) := Lib.hid rfl
    have HBB : Hid (([] : List UInt8).length ≤ 1048576) := Lib.hid (by simp)
    have HTX : Hid ((BSt.begin ⟨sid, stot, ssum, sxs⟩ ⟨pid, 0, ptot, psum, pxs⟩).put ⟨pid, 0, ptot, psum, pxs⟩ = ⟨pid, ptot, psum, [] ++ pxs.drop 0⟩) := Lib.hid (by rw [HPT.out]; simp)
    clear p0 p1 p2 p3 p4 r0 r1 r2 r3
    refine wp_region_Z [21] (fun w' => Fr (fun _ => False) W6 w') (by kernel_rfl) ((Fr.refl _ _).drew) (fun hHeld => ?_)
    refine anyZ_pure (i := 0) (v := ?_) (some 130) rfl rfl (by kernel_rfl) (by kernel_rfl) (by kernel_rfl) (by kernel_rfl) (fun _ _ _ h => h) (Or.inl ⟨by rfl, ?_⟩) (fun _ => hHeld) ?_
    rotate_left
    · intro w' _
      go_simp
      first | done | with_reducible rfl
    try simp only [Act.put, List.setIfInBounds_toArray, List.set_cons_zero, List.set_cons_succ]
    refine anyZ_pure (i := 2) (v := ?_) (some 132) rfl rfl (by kernel_rfl) (by kernel_rfl) (by kernel_rfl) (by kernel_rfl) (fun _ _ _ h => h) (Or.inl ⟨by rfl, ?_⟩) (fun _ => hHeld) ?_
    rotate_left
    · intro w' _
      go_simp
      first | done | with_reducible rfl
    try simp only [Act.put, List.setIfInBounds_toArray, List.set_cons_zero, List.set_cons_succ]
    refine anyZ_pure (i := 3) (v := ?_) (some 133) rfl rfl (by kernel_rfl) (by kernel_rfl) (by kernel_rfl) (by kernel_rfl) (fun _ _ _ h => h) (Or.inl ⟨by rfl, ?_⟩) (fun _ => hHeld) ?_
    rotate_left
    · intro w' _
      go_simp
      first | done | with_reducible rfl
    try simp only [Act.put, List.setIfInBounds_toArray, List.set_cons_zero, List.set_cons_succ]
    refine anyZ_pure (i := 4) (v := ?_) (some 134) rfl rfl (by kernel_rfl) (by kernel_rfl) (by kernel_rfl) (by kernel_rfl) (fun _ _ _ h => h) (Or.inl ⟨by rfl, ?_⟩) (fun _ => hHeld) ?_
    rotate_left
    · intro w' _
      go_simp
      first | done | with_reducible rfl
    try simp only [Act.put, List.setIfInBounds_toArray, List.set_cons_zero, List.set_cons_succ]
    refine anyZ_read (i := 5) (v := ?_) (some 135) [6, 18, 19, 20, 21] rfl rfl (by kernel_rfl) (by kernel_rfl) (by kernel_rfl) (by kernel_rfl) (by kernel_rfl) (by kernel_rfl) (fun _ _ _ h => h) (Or.inl ⟨by rfl, ?_⟩) hHeld ?_
    rotate_left
    · intro w' hSw
      have q3 := (KR.out.fr hSw (fun h => h)).cell 3
      go_simp
      first | done | with_reducible rfl
    try simp only [Act.put, List.setIfInBounds_toArray, List.set_cons_zero, List.set_cons_succ]
    refine anyZ_pure (i := 7) (v := ?_) (some 137) rfl rfl (by kernel_rfl) (by kernel_rfl) (by kernel_rfl) (by kernel_rfl) (fun _ _ _ h => h) (Or.inl ⟨by rfl, ?_⟩) (fun _ => hHeld) ?_
    rotate_left
    · intro w' _
      go_simp
      first | done | with_reducible rfl
    try simp only [Act.put, List.setIfInBounds_toArray, List.set_cons_zero, List.set_cons_succ]
    refine anyZ_read (i := 8) (v := ?_) (some 138) [17, 18, 19, 20, 21] rfl rfl (by kernel_rfl) (by kernel_rfl) (by kernel_rfl) (by kernel_rfl) (by kernel_rfl) (by kernel_rfl) (fun _ _ _ h => h) (Or.inl ⟨by rfl, ?_⟩) hHeld ?_
    rotate_left
    · intro w' hSw
      have q4 := (KP.out.fr hSw (fun h => h)).cell 4
      go_simp
      first | done | with_reducible rfl
    try simp only [Act.put, List.setIfInBounds_toArray, List.set_cons_zero, List.set_cons_succ]
    refine anyZ_pure (i := 9) (v := ?_) (some 139) rfl rfl (by kernel_rfl) (by kernel_rfl) (by kernel_rfl) (by kernel_rfl) (fun _ _ _ h => h) (Or.inl ⟨by rfl, ?_⟩) (fun _ => hHeld) ?_
    rotate_left
    · intro w' _
      go_simp
      first | done | with_reducible rfl
    try simp only [Act.put, List.setIfInBounds_toArray, List.set_cons_zero, List.set_cons_succ]
    refine anyZ_pure (i := 10) (v := ?_) (some 140) rfl rfl (by kernel_rfl) (by kernel_rfl) (by kernel_rfl) (by kernel_rfl) (fun _ _ _ h => h) (Or.inl ⟨by rfl, ?_⟩) (fun _ => hHeld) ?_
    rotate_left
    · intro w' _
      go_simp
      first | done | with_reducible rfl
    try simp only [Act.put, List.setIfInBounds_toArray, List.set_cons_zero, List.set_cons_succ]
    refine anyZ_pure (i := 11) (v := ?_) (some 141) rfl rfl (by kernel_rfl) (by kernel_rfl) (by kernel_rfl) (by kernel_rfl) (fun _ _ _ h => h) (Or.inl ⟨by rfl, ?_⟩) (fun _ => hHeld) ?_
    rotate_left
    · intro w' _
      go_simp
      first | done | with_reducible rfl
    try simp only [Act.put, List.setIfInBounds_toArray, List.set_cons_zero, List.set_cons_succ]
    refine anyZ_read (i := 12) (v := ?_) (some 142) [13, 16, 17, 18, 19, 20, 21] rfl rfl (by kernel_rfl) (by kernel_rfl) (by kernel_rfl) (by kernel_rfl) (by kernel_rfl) (by kernel_rfl) (fun _ _ _ h => h) (Or.inl ⟨by rfl, ?_⟩) hHeld ?_
    rotate_left
    · intro w' hSw
      have q3 := (KR.out.fr hSw (fun h => h)).cell 3
      go_simp
      first | done | with_reducible rfl
    try simp only [Act.put, List.setIfInBounds_toArray, List.set_cons_zero, List.set_cons_succ]
    refine anyZ_pure (i := 13) (v := ?_) (some 143) rfl rfl (by kernel_rfl) (by kernel_rfl) (by kernel_rfl) (by kernel_rfl) (fun _ _ _ h => h) (Or.inl ⟨by rfl, ?_⟩) (fun _ => hHeld) ?_
    rotate_left
    · intro w' _
      go_simp
      first | done | with_reducible rfl
    try simp only [Act.put, List.setIfInBounds_toArray, List.set_cons_zero, List.set_cons_succ]
    refine anyZ_pure (i := 14) (v := ?_) (some 144) rfl rfl (by kernel_rfl) (by kernel_rfl) (by kernel_rfl) (by kernel_rfl) (fun _ _ _ h => h) (Or.inl ⟨by rfl, ?_⟩) (fun _ => hHeld) ?_
    rotate_left
    · intro w' _
      go_simp
      first | done | with_reducible rfl
    try simp only [Act.put, List.setIfInBounds_toArray, List.set_cons_zero, List.set_cons_succ]
    refine anyZ_read (i := 15) (v := ?_) (some 145) [16, 17, 18, 19, 20, 21] rfl rfl (by kernel_rfl) (by kernel_rfl) (by kernel_rfl) (by kernel_rfl) (by kernel_rfl) (by kernel_rfl) (fun _ _ _ h => h) (Or.inl ⟨by rfl, ?_⟩) hHeld ?_
    rotate_left
    · intro w' hSw
      have q1 := (KP.out.fr hSw (fun h => h)).cell 1
      go_simp
      first | done | with_reducible rfl
    try simp only [Act.put, List.setIfInBounds_toArray, List.set_cons_zero, List.set_cons_succ]
    refine anyZ_pure (i := 16) (v := ?_) (some 146) rfl rfl (by kernel_rfl) (by kernel_rfl) (by kernel_rfl) (by kernel_rfl) (fun _ _ _ h => h) (Or.inl ⟨by rfl, ?_⟩) (fun _ => hHeld) ?_
    rotate_left
    · intro w' _
      go_simp
      first | done | with_reducible rfl
    try simp only [Act.put, List.setIfInBounds_toArray, List.set_cons_zero, List.set_cons_succ]
    refine anyZ_pure (i := 17) (v := ?_) (some 147) rfl rfl (by kernel_rfl) (by kernel_rfl) (by kernel_rfl) (by kernel_rfl) (fun _ _ _ h => h) (Or.inl ⟨by rfl, ?_⟩) (fun _ => hHeld) ?_
    rotate_left
    · intro w' _
      have HSLw := HSL.out w'
      go_simp
      first | done | with_reducible rfl
    try simp only [Act.put, List.setIfInBounds_toArray, List.set_cons_zero, List.set_cons_succ]
    refine anyZ_ready (rs := [1]) (by kernel_rfl) (by simp) ?_
    refine AllZ.step rfl (fun K hK => ?_) AllZ.nil
    go_simp
    have ho0 : Own8 (W6.alloc (.cells #[] 5)).drew 5 (.slice (some ⟨W6.heap.size, 0, none⟩) 0 0) [] := Own8.fresh W6 5 #[] 0 rfl (by decide)
    refine hK.out _ _ (hHeld.alloc _) (fun hHeld => ?_)
    clear hK K
    try change anyZ _ _ _ _ _ _ _ _ (Act.put _ (some 131) _) _
    try simp only [Act.put, List.setIfInBounds_toArray, List.set_cons_zero, List.set_cons_succ]
    refine anyZ_ready (rs := [6]) (by kernel_rfl) (by simp) ?_
    refine AllZ.step rfl (fun K hK => ?_) AllZ.nil
    refine stepOf_append8s rfl (.tmp 131) (.tmp 135) Tryd.t8 rfl (.slice (some ⟨W6.heap.size, 0, none⟩) 0 0) [] rfl ho0 none 0 0 ([]) rfl HBL.out (HRV.out _ hHeld) (by have := HBL.out; have := HBB.out; first | (simp; omega) | simp) ?_
    intro A1 c1 w1 ho1 hf1 hm1
    have hwn : ∀ k, (Value.slice (some ⟨W6.heap.size, 0, none⟩) 0 0).ownBlock = some k → W6.heap.size ≤ k := fun k hk => Nat.le_of_eq (by injection hk)
    generalize hLL : ([] : List UInt8).length + ([]).length = LL at *
    have HLL := Lib.hid hLL
    clear hLL
    have hfr1 : Fresh W6 w1 (.slice A1 LL c1) := Fresh.step (v1 := .slice (some ⟨W6.heap.size, 0, none⟩) 0 0) ⟨hHeld, hwn⟩ hf1 hm1
    rw [List.nil_append] at ho1
    refine hK.out _ _ (hfr1.1) (fun hHeld => ?_)
    clear hK K
    try change anyZ _ _ _ _ _ _ _ _ (Act.put _ (some 136) _) _
    try simp only [Act.put, List.setIfInBounds_toArray, List.set_cons_zero, List.set_cons_succ]
    refine anyZ_ready (rs := [18]) (by kernel_rfl) (by simp) ?_
    refine AllZ.step rfl (fun K hK => ?_) AllZ.nil
    refine stepOf_append8s rfl (.tmp 136) (.tmp 147) Tryd.t8 rfl (.slice A1 LL c1) ([]) rfl ho1 A2 z c2 (pxs.drop 0) rfl (by rw [List.length_drop, HM.out]; exact HZ.out) (HRD.out _ hHeld) (by have := HBL.out; have := HBB.out; have := HM.out; have := HMB.out; simp only [List.length_drop]; omega) ?_
    intro A9 c9 w9 ho9 hf9 hm9
    generalize hL9 : ([]).length + (pxs.drop 0).length = L9 at *
    have HL9 := Lib.hid hL9
    clear hL9
    have hfr9 : Fresh W6 w9 (.slice A9 L9 c9) := hfr1.step hf9 hm9
    have HFR9 := Lib.hid hfr9
    have HO9 := Lib.hid ho9
    refine hK.out _ _ (hfr9.1) (fun hHeld => ?_)
    clear hK K
    try change anyZ _ _ _ _ _ _ _ _ (Act.put _ (some 148) _) _
    try simp only [Act.put, List.setIfInBounds_toArray, List.set_cons_zero, List.set_cons_succ]
    refine anyZ_pure (i := 19) (v := ?_) (some 149) rfl rfl (by kernel_rfl) (by kernel_rfl) (by kernel_rfl) (by kernel_rfl) (fun _ _ _ h => h) (Or.inl ⟨by rfl, ?_⟩) (fun _ => hHeld) ?_
    rotate_left
    · intro w' _
      go_simp
      first | done | with_reducible rfl
    try simp only [Act.put, List.setIfInBounds_toArray, List.set_cons_zero, List.set_cons_succ]
    refine anyZ_pure (i := 20) (v := ?_) (some 150) rfl rfl (by kernel_rfl) (by kernel_rfl) (by kernel_rfl) (by kernel_rfl) (fun _ _ _ h => h) (Or.inl ⟨by rfl, ?_⟩) (fun _ => hHeld) ?_
    rotate_left
    · intro w' _
      go_simp
      first | done | with_reducible rfl
    try simp only [Act.put, List.setIfInBounds_toArray, List.set_cons_zero, List.set_cons_succ]
    refine anyZ_ready (rs := [21]) (by kernel_rfl) (by simp) ?_
    refine AllZ.last rfl (by kernel_rfl) (fun K hK => ?_) AllZ.nil
    have K9 := Lib.hid (KR.out.fr HFR9.out.1 (fun h => h))
    have x3 := K9.out.cell 3
    have xf := K9.out.frozen 3
    obtain ⟨W8, hW8⟩ : ∃ W8, w9.setCell ⟨rb, 3, none⟩ (.slice A9 L9 c9) = W8 := ⟨_, rfl⟩
    go_simp
    refine hK.out _ _ ?_
    clear hK K
    try change anyZ _ _ _ _ _ _ _ _ (Act.put _ none _) _
    try simp only [Act.put, List.setIfInBounds_toArray, List.set_cons_zero, List.set_cons_succ]
    refine anyZ_done (by kernel_rfl) ?_ _
    clear hHeld x3 xf ho1 hfr1 ho9 hf9 hm9 hfr9 ho0 hf1 hm1 hwn
    have N1 : Hid (Bk W8 rb 45 #[.int .i64 pid, .int .i64 ptot, .int .u32 psum, .slice A9 L9 c9]) := Lib.hid (by rw [← hW8]; exact K9.out.set 3 _)
    have FS : Hid (Fr (fun x => x = rb) w9 W8) := Lib.hid (by rw [← hW8]; exact Fr.setCell (Fr.refl (fun x => x = rb) w9) (p := ⟨rb, 3, none⟩) (fun _ => rfl) _)
    have N2 := Lib.hid (HO9.out.fr FS.out (fun x hx e => HO9.out.ne K9.out (by decide) (e ▸ hx)))
    have FF := Lib.hid ((FWX.out.trans (HFR9.out.1.mono (fun _ _ h => h.elim) : Fr (fun x => x = rb) W6 w9) (fun _ _ h => h)).trans FS.out (fun _ _ h => h))
    have HNW : Hid (∀ x, (Value.slice A9 L9 c9).ownBlock = some x → w.heap.size ≤ x) := Lib.hid (fun x hx => by have h1 := HFR9.out.2 x hx; have h2 := FWX.out.size; omega)
    clear hW8
    have y0 := N1.out.cell 0
    have y1 := N1.out.cell 1
    have y2 := N1.out.cell 2
    have y3 := N1.out.cell 3
    go_wp2_with fail
    go_quiet (fail)
    go_wp2
    go_ret2
    exact RAddE.yes HE.out HTX.out HPS.out HRB.out.1 L9 (by rw [List.length_append]; exact HL9.out) (N1.out.drewN _) (N2.out.fr (S := fun _ => False) ((Fr.refl _ _).drewN _) (fun _ _ h => h)) (FF.out.drewN _) (fun x hx => .inr (HNW.out x hx)) HID.out
set_option maxRecDepth 100000 in
set_option maxHeartbeats 8000000 in
theorem refAdd_e2 (rb : Nat) (s : BSt) (p : Pc) (A : Option Addr) (n c : Nat) (D : Option Addr) (m k F : Nat) (w : World) (hb : RB w rb s (.slice A n c)) (hs : Sl8 w F D m k p.data) (hFrb : F ≤ rb) (hps : p.sum < 4294967296) (hmay : p.may) (h2 : p.id = s.id) (h3 : p.total = s.total) (h3' : p.sum = s.sum) (h4 : p.at_ ≤ (s.data.length : Int)) :
    Calls Tryd.prog 18 #[.pointer (some ⟨rb, 0, none⟩), p.v (.slice D m k)] w (RAddE rb s (.slice A n c) p w) := by
  have HRB := Lib.hid hb
  have HS := Lib.hid hs
  have HM := Lib.hid hs.1
  have HN := Lib.hid hb.2.2.cap8.1
  have HMAY := Lib.hid hmay
  have HPS := Lib.hid hps
  have HNB := Lib.hid hb.1.len
  have HNB2 : Hid (∀ ad, D = some ad → 0 < p.data.length → ¬ ad.block = rb) := Lib.hid (fun ad e h0 e2 => by have := hs.2.2.2.2 ad e h0; omega)
  have HMB : Hid (m ≤ 1048576) := Lib.hid (by have h1 := hmay.2.2.1; have h2 := hmay.2.2.2.2.1; have h3 := hs.1; have h4 := hmay.2.2.2.1; omega)
  have hE1 := BSt.addE_on hmay h2 h3 h3' h4
  have HE := Lib.hid hE1.1
  have HPT := Lib.hid hE1.2
  have HID : Hid (0 ≤ s.id) := Lib.hid (by have := hmay.1; omega)
  have hrs := BSt.rtot_at hmay h2
  obtain ⟨sid, stot, ssum, sxs⟩ := s
  obtain ⟨pid, pat, ptot, psum, pxs⟩ := p
  obtain ⟨rt, hrt⟩ : ∃ rt, rtot ⟨sid, stot, ssum, sxs⟩ = rt := ⟨_, rfl⟩
  have KR0 := HRB.out.2.1
  rw [hrt] at KR0
  unfold Pc.v
  obtain ⟨m1, m2, m3, m4, m5, m6⟩ := hmay
  simp only at *
  rw [HM.out] at m5 m6
  obtain ⟨pb, hpb⟩ : ∃ pb, w.heap.size = pb := ⟨_, rfl⟩
  obtain ⟨W, hW⟩ : ∃ W, w.alloc (.cells #[.int .i64 pid, .int .i64 pat, .int .i64 ptot, .int .u32 psum, .slice D m k] 37) = W := ⟨_, rfl⟩
  have KP : Hid (Bk W pb 37 #[.int .i64 pid, .int .i64 pat, .int .i64 ptot, .int .u32 psum, .slice D m k]) := Lib.hid (by rw [← hW, ← hpb]; exact Bk.new _ _ _)
  have FW : Hid (Fr (fun _ => False) w W) := Lib.hid (by rw [← hW]; exact (Fr.refl _ _).alloc _)
  have KR : Hid (Bk W rb 45 #[.int .i64 sid, .int .i64 rt, .int .u32 ssum, .slice A n c]) := Lib.hid (KR0.fr FW.out (fun h => h))
  have HPE := Lib.hid hpb
  clear KR0 hb hs
  rw [hrt] at hrs
  subst hrs
  obtain ⟨q, rfl⟩ : ∃ q : Nat, pat = (q : Int) := ⟨pat.toNat, by omega⟩
  rw [← HN.out] at h4
  have hqn : q ≤ n := by omega
  have g6 : decide ((n : Int) < (q : Int)) = false := decide_eq_false (by omega)
  have g6n : decide (n < q) = false := decide_eq_false (by omega)
  have hnb : n ≤ 1048576 := by have h9 := HNB.out; have h8 := HN.out; omega
  have w9 : IntKind.i64.wrap ((q : Int) + (m : Int)) = (q : Int) + (m : Int) := IntWalk.i64_in _ (by have := HMB.out; omega)
  have g1 : decide (pid < sid) = false := decide_eq_false (by omega)
  have g2 : (sid == pid) = true := by rw [beq_iff_eq]; omega
  have g3 : (rt != ptot) = false := by rw [bne_eq_false_iff_eq]; omega
  have g4 : ((ssum : Int) != (psum : Int)) = false := by rw [bne_eq_false_iff_eq]; omega
  have g5 : decide (sid < pid) = false := decide_eq_false (by omega)
  have d1 : decide ((q : Int) < 0) = false := decide_eq_false (by omega)
  have d2 : decide (ptot < 0) = false := decide_eq_false (by omega)
  have d3 : decide (1048576 < ptot) = false := decide_eq_false (by omega)
  have d4 : decide (ptot < (q : Int)) = false := decide_eq_false (by omega)
  have w1 : IntKind.i64.wrap (ptot - (q : Int)) = ptot - (q : Int) := IntWalk.i64_in _ (by omega)
  have d5 : decide (ptot - (q : Int) < (m : Int)) = false := decide_eq_false (by omega)
  have d8 : decide (pid < 0) = false := decide_eq_false (by omega)
  by_cases hgo : n < q + m
  · have g7 : decide (n < q + m) = true := decide_eq_true hgo
    have g7i : decide ((n : Int) < (q : Int) + (m : Int)) = true := decide_eq_true (by omega)
    obtain ⟨fr, hfr⟩ : ∃ fr : Nat, n - q = fr := ⟨_, rfl⟩
    have w11 : IntKind.i64.wrap ((n : Int) - (q : Int)) = (fr : Int) := by rw [IntWalk.i64_in _ (by omega)]; omega
    have HFR0 := Lib.hid hfr
    obtain ⟨A2, c2, hsl, _, _, _, hrd⟩ := run_fromB D m k fr (by omega) HS.out.2.1 HS.out.2.2.1 HS.out.base
    obtain ⟨z, hz⟩ : ∃ z, m - fr = z := ⟨_, rfl⟩
    rw [hz] at hsl
    have HZ := Lib.hid hz
    have HSL := Lib.hid hsl
    have HRD0 : Hid (∀ w', Fr (fun x => x = rb) w w' → Rd8 w' A2 (pxs.drop fr)) := Lib.hid (fun w' hf => hrd w' pxs HM.out (HS.out.2.2.2.1.fr hf (fun ad e h0 e2 => HNB2.out ad e h0 e2)))
    clear hsl hrd hz
    clear hfr
    rcases Nat.eq_zero_or_pos m with h6 | h6
    · exfalso
      omega
    · clear hgo
      have d6 : (m == 0) = false := by rw [beq_eq_false_iff_ne]; omega
      have d6i : ((m : Int) == 0) = false := by rw [beq_eq_false_iff_ne]; omega
      clear m1 m2 m3 m4 m5 m6 h2 hrt h6 h3 h3' h4 hqn hnb
      go_enter Tryd.func18, Tryd.ntmps18
      have p0 := KP.out.cell 0
      have p1 := KP.out.cell 1
      have p2 := KP.out.cell 2
      have p3 := KP.out.cell 3
      have p4 := KP.out.cell 4
      have r0 := KR.out.cell 0
      have r1 := KR.out.cell 1
      have r2 := KR.out.cell 2
      have r3 := KR.out.cell 3
      go_wp2_with fail
      clear hW hpb
      go_quiet (fail)
      have FQ0 : Hid (Fr (fun _ => False) W (W.drewN nq)) := Lib.hid ((Fr.refl _ _).drewN _)
      generalize W.drewN nq = W1 at *
      replace KP := Lib.hid (KP.out.fr FQ0.out (fun h => h))
      replace KR := Lib.hid (KR.out.fr FQ0.out (fun h => h))
      replace FW := Lib.hid (FW.out.trans FQ0.out (fun _ _ h => h))
      clear p0 p1 p2 p3 p4 r0 r1 r2 r3
      have p0 := KP.out.cell 0
      have p1 := KP.out.cell 1
      have p2 := KP.out.cell 2
      have p3 := KP.out.cell 3
      have p4 := KP.out.cell 4
      have r0 := KR.out.cell 0
      have r1 := KR.out.cell 1
      have r2 := KR.out.cell 2
      have r3 := KR.out.cell 3
      go_wp2_with fail
      go_quiet (fail)
      have FQ1 : Hid (Fr (fun _ => False) W1 (W1.drewN nq)) := Lib.hid ((Fr.refl _ _).drewN _)
      generalize W1.drewN nq = W2 at *
      replace KP := Lib.hid (KP.out.fr FQ1.out (fun h => h))
      replace KR := Lib.hid (KR.out.fr FQ1.out (fun h => h))
      replace FW := Lib.hid (FW.out.trans FQ1.out (fun _ _ h => h))
      clear p0 p1 p2 p3 p4 r0 r1 r2 r3
      have p0 := KP.out.cell 0
      have p1 := KP.out.cell 1
      have p2 := KP.out.cell 2
      have p3 := KP.out.cell 3
      have p4 := KP.out.cell 4
      have r0 := KR.out.cell 0
      have r1 := KR.out.cell 1
      have r2 := KR.out.cell 2
      have r3 := KR.out.cell 3
      go_wp2_with fail
      go_quiet (fail)
      have FQ2 : Hid (Fr (fun _ => False) W2 (W2.drewN nq)) := Lib.hid ((Fr.refl _ _).drewN _)
      generalize W2.drewN nq = W3 at *
      replace KP := Lib.hid (KP.out.fr FQ2.out (fun h => h))
      replace KR := Lib.hid (KR.out.fr FQ2.out (fun h => h))
      replace FW := Lib.hid (FW.out.trans FQ2.out (fun _ _ h => h))
      clear p0 p1 p2 p3 p4 r0 r1 r2 r3
      have p0 := KP.out.cell 0
      have p1 := KP.out.cell 1
      have p2 := KP.out.cell 2
      have p3 := KP.out.cell 3
      have p4 := KP.out.cell 4
      have r0 := KR.out.cell 0
      have r1 := KR.out.cell 1
      have r2 := KR.out.cell 2
      have r3 := KR.out.cell 3
      go_wp2_with fail
      go_quiet (fail)
      have FQ3 : Hid (Fr (fun _ => False) W3 (W3.drewN nq)) := Lib.hid ((Fr.refl _ _).drewN _)
      generalize W3.drewN nq = W4 at *
      replace KP := Lib.hid (KP.out.fr FQ3.out (fun h => h))
      replace KR := Lib.hid (KR.out.fr FQ3.out (fun h => h))
      replace FW := Lib.hid (FW.out.trans FQ3.out (fun _ _ h => h))
      clear p0 p1 p2 p3 p4 r0 r1 r2 r3
      have p0 := KP.out.cell 0
      have p1 := KP.out.cell 1
      have p2 := KP.out.cell 2
      have p3 := KP.out.cell 3
      have p4 := KP.out.cell 4
      have r0 := KR.out.cell 0
      have r1 := KR.out.cell 1
      have r2 := KR.out.cell 2
      have r3 := KR.out.cell 3
      go_wp2_with fail
      go_quiet (fail)
      have FQ4 : Hid (Fr (fun _ => False) W4 (W4.drewN nq)) := Lib.hid ((Fr.refl _ _).drewN _)
      generalize W4.drewN nq = W5 at *
      replace KP := Lib.hid (KP.out.fr FQ4.out (fun h => h))
      replace KR := Lib.hid (KR.out.fr FQ4.out (fun h => h))
      replace FW := Lib.hid (FW.out.trans FQ4.out (fun _ _ h => h))
      clear p0 p1 p2 p3 p4 r0 r1 r2 r3
      have p0 := KP.out.cell 0
      have p1 := KP.out.cell 1
      have p2 := KP.out.cell 2
      have p3 := KP.out.cell 3
      have p4 := KP.out.cell 4
      have r0 := KR.out.cell 0
      have r1 := KR.out.cell 1
      have r2 := KR.out.cell 2
      have r3 := KR.out.cell 3
      go_wp2_with fail
      have HOV : Hid (∀ w', Fr (fun _ => False) w w' → Own8 w' 5 (.slice A n c) sxs) := Lib.hid (fun w' hf => HRB.out.2.2.fr hf (fun _ _ h => h))
      have FWX : Hid (Fr (fun x => x = rb) w W5) := Lib.hid (FW.out.mono (fun _ _ h => h.elim))
      have HRV : Hid (∀ w', Fr (fun _ => False) W5 w' → Rd8 w' A sxs) := Lib.hid (fun w' hf => (HOV.out w' (FW.out.trans hf (fun _ _ h => h))).rd)
      have HRD : Hid (∀ w', Fr (fun _ => False) W5 w' → Rd8 w' A2 (pxs.drop fr)) := Lib.hid (fun w' hf => HRD0.out w' (FWX.out.trans hf (fun _ _ h => h.elim)))
      have HBL : Hid (sxs.length = n) := Lib.hid HN.out.symm
      have HBB : Hid (sxs.length ≤ 1048576) := Lib.hid HNB.out
      have HTX : Hid ((BSt.begin ⟨sid, rt, ssum, sxs⟩ ⟨pid, (q : Int), ptot, psum, pxs⟩).put ⟨pid, (q : Int), ptot, psum, pxs⟩ = ⟨sid, rt, ssum, sxs ++ pxs.drop fr⟩) := Lib.hid (by rw [HPT.out, Int.toNat_natCast, ← HN.out, HFR0.out])
      clear p0 p1 p2 p3 p4 r0 r1 r2 r3
      refine wp_region_Z [21] (fun w' => Fr (fun _ => False) W5 w') (by kernel_rfl) ((Fr.refl _ _).drew) (fun hHeld => ?_)
      refine anyZ_pure (i := 0) (v := ?_) (some 130) rfl rfl (by kernel_rfl) (by kernel_rfl) (by kernel_rfl) (by kernel_rfl) (fun _ _ _ h => h) (Or.inl ⟨by rfl, ?_⟩) (fun _ => hHeld) ?_
      rotate_left
      · intro w' _
        go_simp
        first | done | with_reducible rfl
      try simp only [Act.put, List.setIfInBounds_toArray, List.set_cons_zero, List.set_cons_succ]
      refine anyZ_pure (i := 2) (v := ?_) (some 132) rfl rfl (by kernel_rfl) (by kernel_rfl) (by kernel_rfl) (by kernel_rfl) (fun _ _ _ h => h) (Or.inl ⟨by rfl, ?_⟩) (fun _ => hHeld) ?_
      rotate_left
      · intro w' _
        go_simp
        first | done | with_reducible rfl
      try simp only [Act.put, List.setIfInBounds_toArray, List.set_cons_zero, List.set_cons_succ]
      refine anyZ_pure (i := 3) (v := ?_) (some 133) rfl rfl (by kernel_rfl) (by kernel_rfl) (by kernel_rfl) (by kernel_rfl) (fun _ _ _ h => h) (Or.inl ⟨by rfl, ?_⟩) (fun _ => hHeld) ?_
      rotate_left
      · intro w' _
        go_simp
        first | done | with_reducible rfl
      try simp only [Act.put, List.setIfInBounds_toArray, List.set_cons_zero, List.set_cons_succ]
      refine anyZ_pure (i := 4) (v := ?_) (some 134) rfl rfl (by kernel_rfl) (by kernel_rfl) (by kernel_rfl) (by kernel_rfl) (fun _ _ _ h => h) (Or.inl ⟨by rfl, ?_⟩) (fun _ => hHeld) ?_
      rotate_left
      · intro w' _
        go_simp
        first | done | with_reducible rfl
      try simp only [Act.put, List.setIfInBounds_toArray, List.set_cons_zero, List.set_cons_succ]
      refine anyZ_read (i := 5) (v := ?_) (some 135) [6, 18, 19, 20, 21] rfl rfl (by kernel_rfl) (by kernel_rfl) (by kernel_rfl) (by kernel_rfl) (by kernel_rfl) (by kernel_rfl) (fun _ _ _ h => h) (Or.inl ⟨by rfl, ?_⟩) hHeld ?_
      rotate_left
      · intro w' hSw
        have q3 := (KR.out.fr hSw (fun h => h)).cell 3
        go_simp
        first | done | with_reducible rfl
      try simp only [Act.put, List.setIfInBounds_toArray, List.set_cons_zero, List.set_cons_succ]
      refine anyZ_pure (i := 7) (v := ?_) (some 137) rfl rfl (by kernel_rfl) (by kernel_rfl) (by kernel_rfl) (by kernel_rfl) (fun _ _ _ h => h) (Or.inl ⟨by rfl, ?_⟩) (fun _ => hHeld) ?_
      rotate_left
      · intro w' _
        go_simp
        first | done | with_reducible rfl
      try simp only [Act.put, List.setIfInBounds_toArray, List.set_cons_zero, List.set_cons_succ]
      refine anyZ_read (i := 8) (v := ?_) (some 138) [17, 18, 19, 20, 21] rfl rfl (by kernel_rfl) (by kernel_rfl) (by kernel_rfl) (by kernel_rfl) (by kernel_rfl) (by kernel_rfl) (fun _ _ _ h => h) (Or.inl ⟨by rfl, ?_⟩) hHeld ?_
      rotate_left
      · intro w' hSw
        have q4 := (KP.out.fr hSw (fun h => h)).cell 4
        go_simp
        first | done | with_reducible rfl
      try simp only [Act.put, List.setIfInBounds_toArray, List.set_cons_zero, List.set_cons_succ]
      refine anyZ_pure (i := 9) (v := ?_) (some 139) rfl rfl (by kernel_rfl) (by kernel_rfl) (by kernel_rfl) (by kernel_rfl) (fun _ _ _ h => h) (Or.inl ⟨by rfl, ?_⟩) (fun _ => hHeld) ?_
      rotate_left
      · intro w' _
        go_simp
        first | done | with_reducible rfl
      try simp only [Act.put, List.setIfInBounds_toArray, List.set_cons_zero, List.set_cons_succ]
      refine anyZ_pure (i := 10) (v := ?_) (some 140) rfl rfl (by kernel_rfl) (by kernel_rfl) (by kernel_rfl) (by kernel_rfl) (fun _ _ _ h => h) (Or.inl ⟨by rfl, ?_⟩) (fun _ => hHeld) ?_
      rotate_left
      · intro w' _
        go_simp
        first | done | with_reducible rfl
      try simp only [Act.put, List.setIfInBounds_toArray, List.set_cons_zero, List.set_cons_succ]
      refine anyZ_pure (i := 11) (v := ?_) (some 141) rfl rfl (by kernel_rfl) (by kernel_rfl) (by kernel_rfl) (by kernel_rfl) (fun _ _ _ h => h) (Or.inl ⟨by rfl, ?_⟩) (fun _ => hHeld) ?_
      rotate_left
      · intro w' _
        go_simp
        first | done | with_reducible rfl
      try simp only [Act.put, List.setIfInBounds_toArray, List.set_cons_zero, List.set_cons_succ]
      refine anyZ_read (i := 12) (v := ?_) (some 142) [13, 16, 17, 18, 19, 20, 21] rfl rfl (by kernel_rfl) (by kernel_rfl) (by kernel_rfl) (by kernel_rfl) (by kernel_rfl) (by kernel_rfl) (fun _ _ _ h => h) (Or.inl ⟨by rfl, ?_⟩) hHeld ?_
      rotate_left
      · intro w' hSw
        have q3 := (KR.out.fr hSw (fun h => h)).cell 3
        go_simp
        first | done | with_reducible rfl
      try simp only [Act.put, List.setIfInBounds_toArray, List.set_cons_zero, List.set_cons_succ]
      refine anyZ_pure (i := 13) (v := ?_) (some 143) rfl rfl (by kernel_rfl) (by kernel_rfl) (by kernel_rfl) (by kernel_rfl) (fun _ _ _ h => h) (Or.inl ⟨by rfl, ?_⟩) (fun _ => hHeld) ?_
      rotate_left
      · intro w' _
        go_simp
        first | done | with_reducible rfl
      try simp only [Act.put, List.setIfInBounds_toArray, List.set_cons_zero, List.set_cons_succ]
      refine anyZ_pure (i := 14) (v := ?_) (some 144) rfl rfl (by kernel_rfl) (by kernel_rfl) (by kernel_rfl) (by kernel_rfl) (fun _ _ _ h => h) (Or.inl ⟨by rfl, ?_⟩) (fun _ => hHeld) ?_
      rotate_left
      · intro w' _
        go_simp
        first | done | with_reducible rfl
      try simp only [Act.put, List.setIfInBounds_toArray, List.set_cons_zero, List.set_cons_succ]
      refine anyZ_read (i := 15) (v := ?_) (some 145) [16, 17, 18, 19, 20, 21] rfl rfl (by kernel_rfl) (by kernel_rfl) (by kernel_rfl) (by kernel_rfl) (by kernel_rfl) (by kernel_rfl) (fun _ _ _ h => h) (Or.inl ⟨by rfl, ?_⟩) hHeld ?_
      rotate_left
      · intro w' hSw
        have q1 := (KP.out.fr hSw (fun h => h)).cell 1
        go_simp
        first | done | with_reducible rfl
      try simp only [Act.put, List.setIfInBounds_toArray, List.set_cons_zero, List.set_cons_succ]
      refine anyZ_pure (i := 16) (v := ?_) (some 146) rfl rfl (by kernel_rfl) (by kernel_rfl) (by kernel_rfl) (by kernel_rfl) (fun _ _ _ h => h) (Or.inl ⟨by rfl, ?_⟩) (fun _ => hHeld) ?_
      rotate_left
      · intro w' _
        go_simp
        first | done | with_reducible rfl
      try simp only [Act.put, List.setIfInBounds_toArray, List.set_cons_zero, List.set_cons_succ]
      refine anyZ_pure (i := 17) (v := ?_) (some 147) rfl rfl (by kernel_rfl) (by kernel_rfl) (by kernel_rfl) (by kernel_rfl) (fun _ _ _ h => h) (Or.inl ⟨by rfl, ?_⟩) (fun _ => hHeld) ?_
      rotate_left
      · intro w' _
        have HSLw := HSL.out w'
        go_simp
        first | done | with_reducible rfl
      try simp only [Act.put, List.setIfInBounds_toArray, List.set_cons_zero, List.set_cons_succ]
      refine anyZ_ready (rs := [1]) (by kernel_rfl) (by simp) ?_
      refine AllZ.step rfl (fun K hK => ?_) AllZ.nil
      go_simp
      have ho0 : Own8 (W5.alloc (.cells #[] 5)).drew 5 (.slice (some ⟨W5.heap.size, 0, none⟩) 0 0) [] := Own8.fresh W5 5 #[] 0 rfl (by decide)
      refine hK.out _ _ (hHeld.alloc _) (fun hHeld => ?_)
      clear hK K
      try change anyZ _ _ _ _ _ _ _ _ (Act.put _ (some 131) _) _
      try simp only [Act.put, List.setIfInBounds_toArray, List.set_cons_zero, List.set_cons_succ]
      refine anyZ_ready (rs := [6]) (by kernel_rfl) (by simp) ?_
      refine AllZ.step rfl (fun K hK => ?_) AllZ.nil
      refine stepOf_append8s rfl (.tmp 131) (.tmp 135) Tryd.t8 rfl (.slice (some ⟨W5.heap.size, 0, none⟩) 0 0) [] rfl ho0 A n c (sxs) rfl HBL.out (HRV.out _ hHeld) (by have := HBL.out; have := HBB.out; first | (simp; omega) | simp) ?_
      intro A1 c1 w1 ho1 hf1 hm1
      have hwn : ∀ k, (Value.slice (some ⟨W5.heap.size, 0, none⟩) 0 0).ownBlock = some k → W5.heap.size ≤ k := fun k hk => Nat.le_of_eq (by injection hk)
      generalize hLL : ([] : List UInt8).length + (sxs).length = LL at *
      have HLL := Lib.hid hLL
      clear hLL
      have hfr1 : Fresh W5 w1 (.slice A1 LL c1) := Fresh.step (v1 := .slice (some ⟨W5.heap.size, 0, none⟩) 0 0) ⟨hHeld, hwn⟩ hf1 hm1
      rw [List.nil_append] at ho1
      refine hK.out _ _ (hfr1.1) (fun hHeld => ?_)
      clear hK K
      try change anyZ _ _ _ _ _ _ _ _ (Act.put _ (some 136) _) _
      try simp only [Act.put, List.setIfInBounds_toArray, List.set_cons_zero, List.set_cons_succ]
      refine anyZ_ready (rs := [18]) (by kernel_rfl) (by simp) ?_
      refine AllZ.step rfl (fun K hK => ?_) AllZ.nil
      refine stepOf_append8s rfl (.tmp 136) (.tmp 147) Tryd.t8 rfl (.slice A1 LL c1) (sxs) rfl ho1 A2 z c2 (pxs.drop fr) rfl (by rw [List.length_drop, HM.out]; exact HZ.out) (HRD.out _ hHeld) (by have := HBL.out; have := HBB.out; have := HM.out; have := HMB.out; simp only [List.length_drop]; omega) ?_
      intro A9 c9 w9 ho9 hf9 hm9
      generalize hL9 : (sxs).length + (pxs.drop fr).length = L9 at *
      have HL9 := Lib.hid hL9
      clear hL9
      have hfr9 : Fresh W5 w9 (.slice A9 L9 c9) := hfr1.step hf9 hm9
      have HFR9 := Lib.hid hfr9
      have HO9 := Lib.hid ho9
      refine hK.out _ _ (hfr9.1) (fun hHeld => ?_)
      clear hK K
      try change anyZ _ _ _ _ _ _ _ _ (Act.put _ (some 148) _) _
      try simp only [Act.put, List.setIfInBounds_toArray, List.set_cons_zero, List.set_cons_succ]
      refine anyZ_pure (i := 19) (v := ?_) (some 149) rfl rfl (by kernel_rfl) (by kernel_rfl) (by kernel_rfl) (by kernel_rfl) (fun _ _ _ h => h) (Or.inl ⟨by rfl, ?_⟩) (fun _ => hHeld) ?_
      rotate_left
      · intro w' _
        go_simp
        first | done | with_reducible rfl
      try simp only [Act.put, List.setIfInBounds_toArray, List.set_cons_zero, List.set_cons_succ]
      refine anyZ_pure (i := 20) (v := ?_) (some 150) rfl rfl (by kernel_rfl) (by kernel_rfl) (by kernel_rfl) (by kernel_rfl) (fun _ _ _ h => h) (Or.inl ⟨by rfl, ?_⟩) (fun _ => hHeld) ?_
      rotate_left
      · intro w' _
        go_simp
        first | done | with_reducible rfl
      try simp only [Act.put, List.setIfInBounds_toArray, List.set_cons_zero, List.set_cons_succ]
      refine anyZ_ready (rs := [21]) (by kernel_rfl) (by simp) ?_
      refine AllZ.last rfl (by kernel_rfl) (fun K hK => ?_) AllZ.nil
      have K9 := Lib.hid (KR.out.fr HFR9.out.1 (fun h => h))
      have x3 := K9.out.cell 3
      have xf := K9.out.frozen 3
      obtain ⟨W8, hW8⟩ : ∃ W8, w9.setCell ⟨rb, 3, none⟩ (.slice A9 L9 c9) = W8 := ⟨_, rfl⟩
      go_simp
      refine hK.out _ _ ?_
      clear hK K
      try change anyZ _ _ _ _ _ _ _ _ (Act.put _ none _) _
      try simp only [Act.put, List.setIfInBounds_toArray, List.set_cons_zero, List.set_cons_succ]
      refine anyZ_done (by kernel_rfl) ?_ _
      clear hHeld x3 xf ho1 hfr1 ho9 hf9 hm9 hfr9 ho0 hf1 hm1 hwn
      have N1 : Hid (Bk W8 rb 45 #[.int .i64 sid, .int .i64 rt, .int .u32 ssum, .slice A9 L9 c9]) := Lib.hid (by rw [← hW8]; exact K9.out.set 3 _)
      have FS : Hid (Fr (fun x => x = rb) w9 W8) := Lib.hid (by rw [← hW8]; exact Fr.setCell (Fr.refl (fun x => x = rb) w9) (p := ⟨rb, 3, none⟩) (fun _ => rfl) _)
      have N2 := Lib.hid (HO9.out.fr FS.out (fun x hx e => HO9.out.ne K9.out (by decide) (e ▸ hx)))
      have FF := Lib.hid ((FWX.out.trans (HFR9.out.1.mono (fun _ _ h => h.elim) : Fr (fun x => x = rb) W5 w9) (fun _ _ h => h)).trans FS.out (fun _ _ h => h))
      have HNW : Hid (∀ x, (Value.slice A9 L9 c9).ownBlock = some x → w.heap.size ≤ x) := Lib.hid (fun x hx => by have h1 := HFR9.out.2 x hx; have h2 := FWX.out.size; omega)
      clear hW8
      have y0 := N1.out.cell 0
      have y1 := N1.out.cell 1
      have y2 := N1.out.cell 2
      have y3 := N1.out.cell 3
      go_wp2_with fail
      go_quiet (fail)
      go_wp2
      go_ret2
      exact RAddE.yes HE.out HTX.out HPS.out HRB.out.1 L9 (by rw [List.length_append]; exact HL9.out) (N1.out.drewN _) (N2.out.fr (S := fun _ => False) ((Fr.refl _ _).drewN _) (fun _ _ h => h)) (FF.out.drewN _) (fun x hx => .inr (HNW.out x hx)) HID.out
  · have g7 : decide (n < q + m) = false := decide_eq_false hgo
    have g7i : decide ((n : Int) < (q : Int) + (m : Int)) = false := decide_eq_false (by omega)
    have HFR0 : Hid (m ≤ n - q) := Lib.hid (by omega)
    clear hgo
    rcases Nat.eq_zero_or_pos m with h6 | h6
    · have d6 : (m == 0) = true := by rw [beq_iff_eq]; omega
      have d6i : ((m : Int) == 0) = true := by rw [beq_iff_eq]; omega
      have d7 : (ptot != 0) = false := by rw [bne_eq_false_iff_eq]; omega
      clear m1 m2 m3 m4 m5 m6 h2 hrt h6 h3 h3' h4 hqn hnb
      go_enter Tryd.func18, Tryd.ntmps18
      have p0 := KP.out.cell 0
      have p1 := KP.out.cell 1
      have p2 := KP.out.cell 2
      have p3 := KP.out.cell 3
      have p4 := KP.out.cell 4
      have r0 := KR.out.cell 0
      have r1 := KR.out.cell 1
      have r2 := KR.out.cell 2
      have r3 := KR.out.cell 3
      go_wp2_with fail
      clear hW hpb
      go_quiet (fail)
      have FQ0 : Hid (Fr (fun _ => False) W (W.drewN nq)) := Lib.hid ((Fr.refl _ _).drewN _)
      generalize W.drewN nq = W1 at *
      replace KP := Lib.hid (KP.out.fr FQ0.out (fun h => h))
      replace KR := Lib.hid (KR.out.fr FQ0.out (fun h => h))
      replace FW := Lib.hid (FW.out.trans FQ0.out (fun _ _ h => h))
      clear p0 p1 p2 p3 p4 r0 r1 r2 r3
      have p0 := KP.out.cell 0
      have p1 := KP.out.cell 1
      have p2 := KP.out.cell 2
      have p3 := KP.out.cell 3
      have p4 := KP.out.cell 4
      have r0 := KR.out.cell 0
      have r1 := KR.out.cell 1
      have r2 := KR.out.cell 2
      have r3 := KR.out.cell 3
      go_wp2_with fail
      go_quiet (fail)
      have FQ1 : Hid (Fr (fun _ => False) W1 (W1.drewN nq)) := Lib.hid ((Fr.refl _ _).drewN _)
      generalize W1.drewN nq = W2 at *
      replace KP := Lib.hid (KP.out.fr FQ1.out (fun h => h))
      replace KR := Lib.hid (KR.out.fr FQ1.out (fun h => h))
      replace FW := Lib.hid (FW.out.trans FQ1.out (fun _ _ h => h))
      clear p0 p1 p2 p3 p4 r0 r1 r2 r3
      have p0 := KP.out.cell 0
      have p1 := KP.out.cell 1
      have p2 := KP.out.cell 2
      have p3 := KP.out.cell 3
      have p4 := KP.out.cell 4
      have r0 := KR.out.cell 0
      have r1 := KR.out.cell 1
      have r2 := KR.out.cell 2
      have r3 := KR.out.cell 3
      go_wp2_with fail
      go_quiet (fail)
      have FQ2 : Hid (Fr (fun _ => False) W2 (W2.drewN nq)) := Lib.hid ((Fr.refl _ _).drewN _)
      generalize W2.drewN nq = W3 at *
      replace KP := Lib.hid (KP.out.fr FQ2.out (fun h => h))
      replace KR := Lib.hid (KR.out.fr FQ2.out (fun h => h))
      replace FW := Lib.hid (FW.out.trans FQ2.out (fun _ _ h => h))
      clear p0 p1 p2 p3 p4 r0 r1 r2 r3
      have p0 := KP.out.cell 0
      have p1 := KP.out.cell 1
      have p2 := KP.out.cell 2
      have p3 := KP.out.cell 3
      have p4 := KP.out.cell 4
      have r0 := KR.out.cell 0
      have r1 := KR.out.cell 1
      have r2 := KR.out.cell 2
      have r3 := KR.out.cell 3
      go_wp2_with fail
      go_quiet (fail)
      have FQ3 : Hid (Fr (fun _ => False) W3 (W3.drewN nq)) := Lib.hid ((Fr.refl _ _).drewN _)
      generalize W3.drewN nq = W4 at *
      replace KP := Lib.hid (KP.out.fr FQ3.out (fun h => h))
      replace KR := Lib.hid (KR.out.fr FQ3.out (fun h => h))
      replace FW := Lib.hid (FW.out.trans FQ3.out (fun _ _ h => h))
      clear p0 p1 p2 p3 p4 r0 r1 r2 r3
      have p0 := KP.out.cell 0
      have p1 := KP.out.cell 1
      have p2 := KP.out.cell 2
      have p3 := KP.out.cell 3
      have p4 := KP.out.cell 4
      have r0 := KR.out.cell 0
      have r1 := KR.out.cell 1
      have r2 := KR.out.cell 2
      have r3 := KR.out.cell 3
      go_wp2_with fail
      go_quiet (fail)
      have FQ4 : Hid (Fr (fun _ => False) W4 (W4.drewN nq)) := Lib.hid ((Fr.refl _ _).drewN _)
      generalize W4.drewN nq = W5 at *
      replace KP := Lib.hid (KP.out.fr FQ4.out (fun h => h))
      replace KR := Lib.hid (KR.out.fr FQ4.out (fun h => h))
      replace FW := Lib.hid (FW.out.trans FQ4.out (fun _ _ h => h))
      clear p0 p1 p2 p3 p4 r0 r1 r2 r3
      have p0 := KP.out.cell 0
      have p1 := KP.out.cell 1
      have p2 := KP.out.cell 2
      have p3 := KP.out.cell 3
      have p4 := KP.out.cell 4
      have r0 := KR.out.cell 0
      have r1 := KR.out.cell 1
      have r2 := KR.out.cell 2
      have r3 := KR.out.cell 3
      go_wp2_with fail
      have HOV : Hid (∀ w', Fr (fun _ => False) w w' → Own8 w' 5 (.slice A n c) sxs) := Lib.hid (fun w' hf => HRB.out.2.2.fr hf (fun _ _ h => h))
      have HTX : Hid ((BSt.begin ⟨sid, rt, ssum, sxs⟩ ⟨pid, (q : Int), ptot, psum, pxs⟩).put ⟨pid, (q : Int), ptot, psum, pxs⟩ = ⟨sid, rt, ssum, sxs⟩) := Lib.hid (by
        rw [HPT.out, Int.toNat_natCast, ← HN.out, List.drop_of_length_le (by rw [HM.out]; exact HFR0.out), List.append_nil])
      go_quiet (fail)
      go_wp2
      go_ret2
      exact RAddE.yes HE.out HTX.out HPS.out HRB.out.1 n HN.out.symm (KR.out.drewN _) ((HOV.out _ FW.out).fr (S := fun _ => False) ((Fr.refl _ _).drewN _) (fun _ _ h => h)) ((FW.out.drewN _).mono (fun _ _ h => h.elim)) (fun x hx => .inl hx) HID.out
    · have d6 : (m == 0) = false := by rw [beq_eq_false_iff_ne]; omega
      have d6i : ((m : Int) == 0) = false := by rw [beq_eq_false_iff_ne]; omega
      clear m1 m2 m3 m4 m5 m6 h2 hrt h6 h3 h3' h4 hqn hnb
      go_enter Tryd.func18, Tryd.ntmps18
      have p0 := KP.out.cell 0
      have p1 := KP.out.cell 1
      have p2 := KP.out.cell 2
      have p3 := KP.out.cell 3
      have p4 := KP.out.cell 4
      have r0 := KR.out.cell 0
      have r1 := KR.out.cell 1
      have r2 := KR.out.cell 2
      have r3 := KR.out.cell 3
      go_wp2_with fail
      clear hW hpb
      go_quiet (fail)
      have FQ0 : Hid (Fr (fun _ => False) W (W.drewN nq)) := Lib.hid ((Fr.refl _ _).drewN _)
      generalize W.drewN nq = W1 at *
      replace KP := Lib.hid (KP.out.fr FQ0.out (fun h => h))
      replace KR := Lib.hid (KR.out.fr FQ0.out (fun h => h))
      replace FW := Lib.hid (FW.out.trans FQ0.out (fun _ _ h => h))
      clear p0 p1 p2 p3 p4 r0 r1 r2 r3
      have p0 := KP.out.cell 0
      have p1 := KP.out.cell 1
      have p2 := KP.out.cell 2
      have p3 := KP.out.cell 3
      have p4 := KP.out.cell 4
      have r0 := KR.out.cell 0
      have r1 := KR.out.cell 1
      have r2 := KR.out.cell 2
      have r3 := KR.out.cell 3
      go_wp2_with fail
      go_quiet (fail)
      have FQ1 : Hid (Fr (fun _ => False) W1 (W1.drewN nq)) := Lib.hid ((Fr.refl _ _).drewN _)
      generalize W1.drewN nq = W2 at *
      replace KP := Lib.hid (KP.out.fr FQ1.out (fun h => h))
      replace KR := Lib.hid (KR.out.fr FQ1.out (fun h => h))
      replace FW := Lib.hid (FW.out.trans FQ1.out (fun _ _ h => h))
      clear p0 p1 p2 p3 p4 r0 r1 r2 r3
      have p0 := KP.out.cell 0
      have p1 := KP.out.cell 1
      have p2 := KP.out.cell 2
      have p3 := KP.out.cell 3
      have p4 := KP.out.cell 4
      have r0 := KR.out.cell 0
      have r1 := KR.out.cell 1
      have r2 := KR.out.cell 2
      have r3 := KR.out.cell 3
      go_wp2_with fail
      go_quiet (fail)
      have FQ2 : Hid (Fr (fun _ => False) W2 (W2.drewN nq)) := Lib.hid ((Fr.refl _ _).drewN _)
      generalize W2.drewN nq = W3 at *
      replace KP := Lib.hid (KP.out.fr FQ2.out (fun h => h))
      replace KR := Lib.hid (KR.out.fr FQ2.out (fun h => h))
      replace FW := Lib.hid (FW.out.trans FQ2.out (fun _ _ h => h))
      clear p0 p1 p2 p3 p4 r0 r1 r2 r3
      have p0 := KP.out.cell 0
      have p1 := KP.out.cell 1
      have p2 := KP.out.cell 2
      have p3 := KP.out.cell 3
      have p4 := KP.out.cell 4
      have r0 := KR.out.cell 0
      have r1 := KR.out.cell 1
      have r2 := KR.out.cell 2
      have r3 := KR.out.cell 3
      go_wp2_with fail
      go_quiet (fail)
      have FQ3 : Hid (Fr (fun _ => False) W3 (W3.drewN nq)) := Lib.hid ((Fr.refl _ _).drewN _)
      generalize W3.drewN nq = W4 at *
      replace KP := Lib.hid (KP.out.fr FQ3.out (fun h => h))
      replace KR := Lib.hid (KR.out.fr FQ3.out (fun h => h))
      replace FW := Lib.hid (FW.out.trans FQ3.out (fun _ _ h => h))
      clear p0 p1 p2 p3 p4 r0 r1 r2 r3
      have p0 := KP.out.cell 0
      have p1 := KP.out.cell 1
      have p2 := KP.out.cell 2
      have p3 := KP.out.cell 3
      have p4 := KP.out.cell 4
      have r0 := KR.out.cell 0
      have r1 := KR.out.cell 1
      have r2 := KR.out.cell 2
      have r3 := KR.out.cell 3
      go_wp2_with fail
      go_quiet (fail)
      have FQ4 : Hid (Fr (fun _ => False) W4 (W4.drewN nq)) := Lib.hid ((Fr.refl _ _).drewN _)
      generalize W4.drewN nq = W5 at *
      replace KP := Lib.hid (KP.out.fr FQ4.out (fun h => h))
      replace KR := Lib.hid (KR.out.fr FQ4.out (fun h => h))
      replace FW := Lib.hid (FW.out.trans FQ4.out (fun _ _ h => h))
      clear p0 p1 p2 p3 p4 r0 r1 r2 r3
      have p0 := KP.out.cell 0
      have p1 := KP.out.cell 1
      have p2 := KP.out.cell 2
      have p3 := KP.out.cell 3
      have p4 := KP.out.cell 4
      have r0 := KR.out.cell 0
      have r1 := KR.out.cell 1
      have r2 := KR.out.cell 2
      have r3 := KR.out.cell 3
      go_wp2_with fail
      have HOV : Hid (∀ w', Fr (fun _ => False) w w' → Own8 w' 5 (.slice A n c) sxs) := Lib.hid (fun w' hf => HRB.out.2.2.fr hf (fun _ _ h => h))
      have HTX : Hid ((BSt.begin ⟨sid, rt, ssum, sxs⟩ ⟨pid, (q : Int), ptot, psum, pxs⟩).put ⟨pid, (q : Int), ptot, psum, pxs⟩ = ⟨sid, rt, ssum, sxs⟩) := Lib.hid (by
        rw [HPT.out, Int.toNat_natCast, ← HN.out, List.drop_of_length_le (by rw [HM.out]; exact HFR0.out), List.append_nil])
      go_quiet (fail)
      go_wp2
      go_ret2
      exact RAddE.yes HE.out HTX.out HPS.out HRB.out.1 n HN.out.symm (KR.out.drewN _) ((HOV.out _ FW.out).fr (S := fun _ => False) ((Fr.refl _ _).drewN _) (fun _ _ h => h)) ((FW.out.drewN _).mono (fun _ _ h => h.elim)) (fun x hx => .inl hx) HID.out

theorem refAdd_any (rb : Nat) (s : BSt) (p : Pc) (A : Option Addr) (n c : Nat) (D : Option Addr) (m k F : Nat) (w : World) (hb : RB w rb s (.slice A n c)) (hs : Sl8 w F D m k p.data) (hFrb : F ≤ rb) (hmb : (m : Int) ≤ 140737488355328) (hps : p.sum < 4294967296) :
    Calls Tryd.prog 18 #[.pointer (some ⟨rb, 0, none⟩), p.v (.slice D m k)] w (RAddE rb s (.slice A n c) p w) := by
  by_cases hmay : p.may
  · rcases Int.lt_trichotomy p.id s.id with h2 | h2 | h2
    · exact refAdd_b rb s p A n c D m k F w hb hs hps hmay h2
    · by_cases h3 : p.total = s.total
      · by_cases h3' : p.sum = s.sum
        · by_cases h4 : p.at_ ≤ (s.data.length : Int)
          · exact refAdd_e2 rb s p A n c D m k F w hb hs hFrb hps hmay h2 h3 h3' h4
          · exact refAdd_d2 rb s p A n c D m k F w hb hs hps hmay h2 h3 h3' (by omega)
        · exact refAdd_c rb s p A n c D m k F w hb hs hps hmay h2 (.inr h3')
      · exact refAdd_c rb s p A n c D m k F w hb hs hps hmay h2 (.inl h3)
    · by_cases h3 : p.at_ = 0
      · exact refAdd_e1 rb s p A n c D m k F w hb hs hFrb hps hmay h2 h3
      · exact refAdd_d1 rb s p A n c D m k F w hb hs hps hmay h2 (by have := hmay.2.2.2.1; omega)
  · exact refAdd_notmay rb s p A n c D m k w hb hs.1 hmb hmay
end Go.Proofs.YtacafjbbdklleaaDoor
