/- The reference's builder: Add. -/
import Derived.Test.YtacafjbbdklleaaDoorAl
namespace Go.Proofs.YtacafjbbdklleaaDoor
open Go.RowKit

def rtot (s : BSt) : Int := if s.id < 0 then 0 else s.total
/-- The reference's builder at block b, its bytes at v. -/
def RB (w : World) (b : Nat) (s : BSt) (v : Value) : Prop :=
  s.Ok ∧ Bk w b 45 #[.int .i64 s.id, .int .i64 (rtot s), .int .u32 s.sum, v] ∧ Own8 w 5 v s.data
theorem RB.fr {S : Nat → Prop} {w w' : World} {b : Nat} {s : BSt} {v : Value} (h : RB w b s v) (hf : Fr S w w') (h1 : ¬ S b) (h2 : ∀ k, v.ownBlock = some k → ¬ S k) : RB w' b s v :=
  ⟨h.1, h.2.1.fr hf h1, h.2.2.fr hf h2⟩
theorem RB.fr0 {w w' : World} {b : Nat} {s : BSt} {v : Value} (h : RB w b s v) (hf : Fr (fun _ => False) w w') : RB w' b s v := h.fr hf (fun h => h) (fun _ _ h => h)
def set4 (w : World) (g : Nat) (a b c d : Value) : World := (((w.setCell ⟨g, 0, none⟩ a).setCell ⟨g, 1, none⟩ b).setCell ⟨g, 2, none⟩ c).setCell ⟨g, 3, none⟩ d
theorem Bk.set4 {w : World} {g : Nat} {t : TypeId} {x0 x1 x2 x3 : Value} (h : Bk w g t #[x0, x1, x2, x3]) (a b c d : Value) : Bk (Go.Proofs.YtacafjbbdklleaaDoor.set4 w g a b c d) g t #[a, b, c, d] :=
  (((h.set 0 a).set 1 b).set 2 c).set 3 d
theorem Fr.set4 {S : Nat → Prop} {w0 w : World} {g : Nat} (h : Fr S w0 w) (hg : g < w0.heap.size → S g) (a b c d : Value) : Fr S w0 (Go.Proofs.YtacafjbbdklleaaDoor.set4 w g a b c d) :=
  Fr.setCell (Fr.setCell (Fr.setCell (Fr.setCell h (p := ⟨g, 0, none⟩) hg _) (p := ⟨g, 1, none⟩) hg _) (p := ⟨g, 2, none⟩) hg _) (p := ⟨g, 3, none⟩) hg _
/-- What the reference's Add makes. -/
def RAddE (b : Nat) (s : BSt) (v : Value) (p : Pc) (w : World) (e : Ending) (w' : World) : Prop :=
  ∃ v', e = .returned (.tuple #[.bool (s.addB p), .int .i64 (s.addE p)]) ∧ RB w' b (s.add p) v' ∧ Fr (fun x => x = b) w w' ∧ ∀ x, v'.ownBlock = some x → v.ownBlock = some x ∨ w.heap.size ≤ x
theorem RAddE.no {b : Nat} {s : BSt} {v : Value} {p : Pc} {w w' : World} {E : Int} (hE : s.addE p = E) (h0 : ¬ E = 0) (hb : RB w b s v) (hf : Fr (fun _ => False) w w') : RAddE b s v p w (.returned (.tuple #[.bool false, .int .i64 E])) w' := by
  subst hE
  refine ⟨v, ?_, ?_, hf.mono (fun _ _ h => h.elim), fun x hx => .inl hx⟩
  · unfold BSt.addB; rw [if_neg h0]
  · unfold BSt.add; rw [if_neg h0]; exact hb.fr0 hf
theorem BSt.rtot_at {s : BSt} {p : Pc} (hm : p.may) (h : p.id = s.id) : rtot s = s.total := by unfold rtot; rw [if_neg (by have := hm.1; omega)]
/-- How Add ends where it takes the piece. -/
theorem RAddE.yes {b : Nat} {s : BSt} {v v' : Value} {p : Pc} {w w' : World} {t : BSt} (hE : s.addE p = 0) (ht : (s.begin p).put p = t) (hps : p.sum < 4294967296) (hok : s.Ok) (L : Nat) (hL : t.data.length = L)
    (hb : Bk w' b 45 #[.int .i64 t.id, .int .i64 t.total, .int .u32 t.sum, v']) (ho : Own8 w' 5 v' t.data) (hf : Fr (fun x => x = b) w w') (hn : ∀ x, v'.ownBlock = some x → v.ownBlock = some x ∨ w.heap.size ≤ x) (ht0 : 0 ≤ t.id) :
    RAddE b s v p w (.returned (.tuple #[.bool ((L : Int) == t.total), .int .i64 0])) w' := by
  have hadd : s.add p = t := by unfold BSt.add; rw [if_pos hE, ht]
  refine ⟨v', ?_, ⟨hadd ▸ BSt.add_ok hok hps, ?_, ?_⟩, hf, hn⟩
  · have hB : s.addB p = ((L : Int) == t.total) := by unfold BSt.addB BSt.whole; rw [if_pos hE, hadd, ← hL]; rfl
    rw [hB, hE]
  · rw [hadd]; unfold rtot; rw [if_neg (by omega)]; exact hb
  · rw [hadd]; exact ho

set_option maxRecDepth 100000 in
set_option maxHeartbeats 8000000 in
theorem refAdd_notmay (rb : Nat) (s : BSt) (p : Pc) (A : Option Addr) (n c : Nat) (D : Option Addr) (m k : Nat) (w : World) (hb : RB w rb s (.slice A n c)) (hm : p.data.length = m) (hmb : (m : Int) ≤ 140737488355328) (hmay : ¬ p.may) :
    Calls Tryd.prog 18 #[.pointer (some ⟨rb, 0, none⟩), p.v (.slice D m k)] w (RAddE rb s (.slice A n c) p w) := by
  have HE : Hid (s.addE p = 1) := Lib.hid (BSt.addE_1 hmay)
  have HRB := Lib.hid hb
  have HNM : Hid ((0 ≤ p.total ∧ p.total ≤ 1048576 ∧ 0 ≤ p.at_ ∧ p.at_ ≤ p.total - (m : Int)) → (0 < m ∨ p.total = 0) → p.id < 0) := Lib.hid (fun h1 h2 => by
    unfold Pc.may at hmay
    rw [hm] at hmay
    rcases Int.lt_or_le p.id 0 with h | h
    · exact h
    · exact absurd ⟨h, h1.1, h1.2.1, h1.2.2.1, h1.2.2.2, h2⟩ hmay)
  clear hb hmay
  obtain ⟨sid, stot, ssum, sxs⟩ := s
  obtain ⟨pid, pat, ptot, psum, pxs⟩ := p
  obtain ⟨rt, hrt⟩ : ∃ rt, rtot ⟨sid, stot, ssum, sxs⟩ = rt := ⟨_, rfl⟩
  have KR0 := HRB.out.2.1
  rw [hrt] at KR0
  unfold Pc.v
  simp only at *
  obtain ⟨pb, hpb⟩ : ∃ pb, w.heap.size = pb := ⟨_, rfl⟩
  obtain ⟨W, hW⟩ : ∃ W, w.alloc (.cells #[.int .i64 pid, .int .i64 pat, .int .i64 ptot, .int .u32 psum, .slice D m k] 37) = W := ⟨_, rfl⟩
  have KP : Hid (Bk W pb 37 #[.int .i64 pid, .int .i64 pat, .int .i64 ptot, .int .u32 psum, .slice D m k]) := Lib.hid (by rw [← hW, ← hpb]; exact Bk.new _ _ _)
  have FW : Hid (Fr (fun _ => False) w W) := Lib.hid (by rw [← hW]; exact (Fr.refl _ _).alloc _)
  have KR : Hid (Bk W rb 45 #[.int .i64 sid, .int .i64 rt, .int .u32 ssum, .slice A n c]) := Lib.hid (KR0.fr FW.out (fun h => h))
  clear KR0 hm hrt
  by_cases h1 : pat < 0
  · have d1 : decide (pat < 0) = true := decide_eq_true h1
    go_enter Tryd.func18, Tryd.ntmps18
    have p0 := KP.out.cell 0
    have p1 := KP.out.cell 1
    have p2 := KP.out.cell 2
    have p3 := KP.out.cell 3
    have p4 := KP.out.cell 4
    have r0 := KR.out.cell 0
    have r1 := KR.out.cell 1
    have r2 := KR.out.cell 2
    have r3 := KR.out.cell 3
    go_wp2
    go_ret2
    exact RAddE.no HE.out (by decide) HRB.out FW.out
  · have d1 : decide (pat < 0) = false := decide_eq_false h1
    by_cases h2 : ptot < 0
    · have d2 : decide (ptot < 0) = true := decide_eq_true h2
      go_enter Tryd.func18, Tryd.ntmps18
      have p0 := KP.out.cell 0
      have p1 := KP.out.cell 1
      have p2 := KP.out.cell 2
      have p3 := KP.out.cell 3
      have p4 := KP.out.cell 4
      have r0 := KR.out.cell 0
      have r1 := KR.out.cell 1
      have r2 := KR.out.cell 2
      have r3 := KR.out.cell 3
      go_wp2
      go_ret2
      exact RAddE.no HE.out (by decide) HRB.out FW.out
    · have d2 : decide (ptot < 0) = false := decide_eq_false h2
      by_cases h3 : 1048576 < ptot
      · have d3 : decide (1048576 < ptot) = true := decide_eq_true h3
        go_enter Tryd.func18, Tryd.ntmps18
        have p0 := KP.out.cell 0
        have p1 := KP.out.cell 1
        have p2 := KP.out.cell 2
        have p3 := KP.out.cell 3
        have p4 := KP.out.cell 4
        have r0 := KR.out.cell 0
        have r1 := KR.out.cell 1
        have r2 := KR.out.cell 2
        have r3 := KR.out.cell 3
        go_wp2
        go_ret2
        exact RAddE.no HE.out (by decide) HRB.out FW.out
      · have d3 : decide (1048576 < ptot) = false := decide_eq_false h3
        by_cases h4 : ptot < pat
        · have d4 : decide (ptot < pat) = true := decide_eq_true h4
          go_enter Tryd.func18, Tryd.ntmps18
          have p0 := KP.out.cell 0
          have p1 := KP.out.cell 1
          have p2 := KP.out.cell 2
          have p3 := KP.out.cell 3
          have p4 := KP.out.cell 4
          have r0 := KR.out.cell 0
          have r1 := KR.out.cell 1
          have r2 := KR.out.cell 2
          have r3 := KR.out.cell 3
          go_wp2
          go_ret2
          exact RAddE.no HE.out (by decide) HRB.out FW.out
        · have d4 : decide (ptot < pat) = false := decide_eq_false h4
          have w1 : IntKind.i64.wrap (ptot - pat) = ptot - pat := IntWalk.i64_in _ (by omega)
          by_cases h5 : ptot - pat < (m : Int)
          · have d5 : decide (ptot - pat < (m : Int)) = true := decide_eq_true h5
            go_enter Tryd.func18, Tryd.ntmps18
            have p0 := KP.out.cell 0
            have p1 := KP.out.cell 1
            have p2 := KP.out.cell 2
            have p3 := KP.out.cell 3
            have p4 := KP.out.cell 4
            have r0 := KR.out.cell 0
            have r1 := KR.out.cell 1
            have r2 := KR.out.cell 2
            have r3 := KR.out.cell 3
            go_wp2
            go_ret2
            exact RAddE.no HE.out (by decide) HRB.out FW.out
          · have d5 : decide (ptot - pat < (m : Int)) = false := decide_eq_false h5
            by_cases h6 : m = 0
            · have d6 : (m == 0) = true := by rw [beq_iff_eq]; exact h6
              have d6i : ((m : Int) == 0) = true := by rw [beq_iff_eq]; omega
              have HM0 := Lib.hid h6
              by_cases h7 : ptot = 0
              · have d7 : (ptot != 0) = false := by rw [bne_eq_false_iff_eq]; exact h7
                have d8 : decide (pid < 0) = true := decide_eq_true (HNM.out (by omega) (.inr h7))
                clear h7 h6
                go_enter Tryd.func18, Tryd.ntmps18
                have p0 := KP.out.cell 0
                have p1 := KP.out.cell 1
                have p2 := KP.out.cell 2
                have p3 := KP.out.cell 3
                have p4 := KP.out.cell 4
                have r0 := KR.out.cell 0
                have r1 := KR.out.cell 1
                have r2 := KR.out.cell 2
                have r3 := KR.out.cell 3
                go_wp2
                go_ret2
                exact RAddE.no HE.out (by decide) HRB.out FW.out
              · have d7 : (ptot != 0) = true := by rw [bne_iff_ne]; exact h7
                clear h6
                go_enter Tryd.func18, Tryd.ntmps18
                have p0 := KP.out.cell 0
                have p1 := KP.out.cell 1
                have p2 := KP.out.cell 2
                have p3 := KP.out.cell 3
                have p4 := KP.out.cell 4
                have r0 := KR.out.cell 0
                have r1 := KR.out.cell 1
                have r2 := KR.out.cell 2
                have r3 := KR.out.cell 3
                go_wp2
                go_ret2
                exact RAddE.no HE.out (by decide) HRB.out FW.out
            · have d6 : (m == 0) = false := by rw [beq_eq_false_iff_ne]; exact h6
              have d6i : ((m : Int) == 0) = false := by rw [beq_eq_false_iff_ne]; omega
              have d8 : decide (pid < 0) = true := decide_eq_true (HNM.out (by omega) (.inl (by omega)))
              go_enter Tryd.func18, Tryd.ntmps18
              have p0 := KP.out.cell 0
              have p1 := KP.out.cell 1
              have p2 := KP.out.cell 2
              have p3 := KP.out.cell 3
              have p4 := KP.out.cell 4
              have r0 := KR.out.cell 0
              have r1 := KR.out.cell 1
              have r2 := KR.out.cell 2
              have r3 := KR.out.cell 3
              go_wp2
              go_ret2
              exact RAddE.no HE.out (by decide) HRB.out FW.out
set_option maxRecDepth 100000 in
set_option maxHeartbeats 8000000 in
theorem refAdd_b (rb : Nat) (s : BSt) (p : Pc) (A : Option Addr) (n c : Nat) (D : Option Addr) (m k F : Nat) (w : World) (hb : RB w rb s (.slice A n c)) (hs : Sl8 w F D m k p.data) (hps : p.sum < 4294967296) (hmay : p.may) (h2 : p.id < s.id) :
    Calls Tryd.prog 18 #[.pointer (some ⟨rb, 0, none⟩), p.v (.slice D m k)] w (RAddE rb s (.slice A n c) p w) := by
  have HRB := Lib.hid hb
  have HS := Lib.hid hs
  have HM := Lib.hid hs.1
  have HN := Lib.hid hb.2.2.cap8.1
  have HMAY := Lib.hid hmay
  have HPS := Lib.hid hps
  have HNB := Lib.hid hb.1.len
  have HE : Hid (s.addE p = 6) := Lib.hid (BSt.addE_6 hmay h2)
  obtain ⟨sid, stot, ssum, sxs⟩ := s
  obtain ⟨pid, pat, ptot, psum, pxs⟩ := p
  obtain ⟨rt, hrt⟩ : ∃ rt, rtot ⟨sid, stot, ssum, sxs⟩ = rt := ⟨_, rfl⟩
  have KR0 := HRB.out.2.1
  rw [hrt] at KR0
  unfold Pc.v
  obtain ⟨m1, m2, m3, m4, m5, m6⟩ := hmay
  simp only at *
  rw [HM.out] at m5 m6
  obtain ⟨pb, hpb⟩ : ∃ pb, w.heap.size = pb := ⟨_, rfl⟩
  obtain ⟨W, hW⟩ : ∃ W, w.alloc (.cells #[.int .i64 pid, .int .i64 pat, .int .i64 ptot, .int .u32 psum, .slice D m k] 37) = W := ⟨_, rfl⟩
  have KP : Hid (Bk W pb 37 #[.int .i64 pid, .int .i64 pat, .int .i64 ptot, .int .u32 psum, .slice D m k]) := Lib.hid (by rw [← hW, ← hpb]; exact Bk.new _ _ _)
  have FW : Hid (Fr (fun _ => False) w W) := Lib.hid (by rw [← hW]; exact (Fr.refl _ _).alloc _)
  have KR : Hid (Bk W rb 45 #[.int .i64 sid, .int .i64 rt, .int .u32 ssum, .slice A n c]) := Lib.hid (KR0.fr FW.out (fun h => h))
  have HPE := Lib.hid hpb
  clear KR0 hb hs
  have g1 : decide (pid < sid) = true := decide_eq_true h2
  have d1 : decide (pat < 0) = false := decide_eq_false (by omega)
  have d2 : decide (ptot < 0) = false := decide_eq_false (by omega)
  have d3 : decide (1048576 < ptot) = false := decide_eq_false (by omega)
  have d4 : decide (ptot < pat) = false := decide_eq_false (by omega)
  have w1 : IntKind.i64.wrap (ptot - pat) = ptot - pat := IntWalk.i64_in _ (by omega)
  have d5 : decide (ptot - pat < (m : Int)) = false := decide_eq_false (by omega)
  have d8 : decide (pid < 0) = false := decide_eq_false (by omega)
  rcases Nat.eq_zero_or_pos m with h6 | h6
  · have d6 : (m == 0) = true := by rw [beq_iff_eq]; omega
    have d6i : ((m : Int) == 0) = true := by rw [beq_iff_eq]; omega
    have d7 : (ptot != 0) = false := by rw [bne_eq_false_iff_eq]; omega
    clear m1 m2 m3 m4 m5 m6 h6 h2 hrt
    go_enter Tryd.func18, Tryd.ntmps18
    have p0 := KP.out.cell 0
    have p1 := KP.out.cell 1
    have p2 := KP.out.cell 2
    have p3 := KP.out.cell 3
    have p4 := KP.out.cell 4
    have r0 := KR.out.cell 0
    have r1 := KR.out.cell 1
    have r2 := KR.out.cell 2
    have r3 := KR.out.cell 3
    go_wp2_with fail
    clear hW hpb
    go_quiet (fail)
    have FQ0 : Hid (Fr (fun _ => False) W (W.drewN nq)) := Lib.hid ((Fr.refl _ _).drewN _)
    generalize W.drewN nq = W1 at *
    replace KP := Lib.hid (KP.out.fr FQ0.out (fun h => h))
    replace KR := Lib.hid (KR.out.fr FQ0.out (fun h => h))
    replace FW := Lib.hid (FW.out.trans FQ0.out (fun _ _ h => h))
    clear p0 p1 p2 p3 p4 r0 r1 r2 r3
    have p0 := KP.out.cell 0
    have p1 := KP.out.cell 1
    have p2 := KP.out.cell 2
    have p3 := KP.out.cell 3
    have p4 := KP.out.cell 4
    have r0 := KR.out.cell 0
    have r1 := KR.out.cell 1
    have r2 := KR.out.cell 2
    have r3 := KR.out.cell 3
    go_wp2_with fail
    go_ret2
    exact RAddE.no HE.out (by decide) HRB.out FW.out
  · have d6 : (m == 0) = false := by rw [beq_eq_false_iff_ne]; omega
    have d6i : ((m : Int) == 0) = false := by rw [beq_eq_false_iff_ne]; omega
    clear m1 m2 m3 m4 m5 m6 h6 h2 hrt
    go_enter Tryd.func18, Tryd.ntmps18
    have p0 := KP.out.cell 0
    have p1 := KP.out.cell 1
    have p2 := KP.out.cell 2
    have p3 := KP.out.cell 3
    have p4 := KP.out.cell 4
    have r0 := KR.out.cell 0
    have r1 := KR.out.cell 1
    have r2 := KR.out.cell 2
    have r3 := KR.out.cell 3
    go_wp2_with fail
    clear hW hpb
    go_quiet (fail)
    have FQ0 : Hid (Fr (fun _ => False) W (W.drewN nq)) := Lib.hid ((Fr.refl _ _).drewN _)
    generalize W.drewN nq = W1 at *
    replace KP := Lib.hid (KP.out.fr FQ0.out (fun h => h))
    replace KR := Lib.hid (KR.out.fr FQ0.out (fun h => h))
    replace FW := Lib.hid (FW.out.trans FQ0.out (fun _ _ h => h))
    clear p0 p1 p2 p3 p4 r0 r1 r2 r3
    have p0 := KP.out.cell 0
    have p1 := KP.out.cell 1
    have p2 := KP.out.cell 2
    have p3 := KP.out.cell 3
    have p4 := KP.out.cell 4
    have r0 := KR.out.cell 0
    have r1 := KR.out.cell 1
    have r2 := KR.out.cell 2
    have r3 := KR.out.cell 3
    go_wp2_with fail
    go_ret2
    exact RAddE.no HE.out (by decide) HRB.out FW.out
set_option maxRecDepth 100000 in
set_option maxHeartbeats 8000000 in
theorem refAdd_c (rb : Nat) (s : BSt) (p : Pc) (A : Option Addr) (n c : Nat) (D : Option Addr) (m k F : Nat) (w : World) (hb : RB w rb s (.slice A n c)) (hs : Sl8 w F D m k p.data) (hps : p.sum < 4294967296) (hmay : p.may) (h2 : p.id = s.id) (h3 : p.total ≠ s.total ∨ p.sum ≠ s.sum) :
    Calls Tryd.prog 18 #[.pointer (some ⟨rb, 0, none⟩), p.v (.slice D m k)] w (RAddE rb s (.slice A n c) p w) := by
  have HRB := Lib.hid hb
  have HS := Lib.hid hs
  have HM := Lib.hid hs.1
  have HN := Lib.hid hb.2.2.cap8.1
  have HMAY := Lib.hid hmay
  have HPS := Lib.hid hps
  have HNB := Lib.hid hb.1.len
  have HE : Hid (s.addE p = 8) := Lib.hid (BSt.addE_8 hmay h2 h3)
  have hrs := BSt.rtot_at hmay h2
  obtain ⟨sid, stot, ssum, sxs⟩ := s
  obtain ⟨pid, pat, ptot, psum, pxs⟩ := p
  obtain ⟨rt, hrt⟩ : ∃ rt, rtot ⟨sid, stot, ssum, sxs⟩ = rt := ⟨_, rfl⟩
  have KR0 := HRB.out.2.1
  rw [hrt] at KR0
  unfold Pc.v
  obtain ⟨m1, m2, m3, m4, m5, m6⟩ := hmay
  simp only at *
  rw [HM.out] at m5 m6
  obtain ⟨pb, hpb⟩ : ∃ pb, w.heap.size = pb := ⟨_, rfl⟩
  obtain ⟨W, hW⟩ : ∃ W, w.alloc (.cells #[.int .i64 pid, .int .i64 pat, .int .i64 ptot, .int .u32 psum, .slice D m k] 37) = W := ⟨_, rfl⟩
  have KP : Hid (Bk W pb 37 #[.int .i64 pid, .int .i64 pat, .int .i64 ptot, .int .u32 psum, .slice D m k]) := Lib.hid (by rw [← hW, ← hpb]; exact Bk.new _ _ _)
  have FW : Hid (Fr (fun _ => False) w W) := Lib.hid (by rw [← hW]; exact (Fr.refl _ _).alloc _)
  have KR : Hid (Bk W rb 45 #[.int .i64 sid, .int .i64 rt, .int .u32 ssum, .slice A n c]) := Lib.hid (KR0.fr FW.out (fun h => h))
  have HPE := Lib.hid hpb
  clear KR0 hb hs
  rw [hrt] at hrs
  subst hrs
  have g1 : decide (pid < sid) = false := decide_eq_false (by omega)
  have g2 : (sid == pid) = true := by rw [beq_iff_eq]; omega
  have d1 : decide (pat < 0) = false := decide_eq_false (by omega)
  have d2 : decide (ptot < 0) = false := decide_eq_false (by omega)
  have d3 : decide (1048576 < ptot) = false := decide_eq_false (by omega)
  have d4 : decide (ptot < pat) = false := decide_eq_false (by omega)
  have w1 : IntKind.i64.wrap (ptot - pat) = ptot - pat := IntWalk.i64_in _ (by omega)
  have d5 : decide (ptot - pat < (m : Int)) = false := decide_eq_false (by omega)
  have d8 : decide (pid < 0) = false := decide_eq_false (by omega)
  by_cases h4 : rt = ptot
  · have g3 : (rt != ptot) = false := by rw [bne_eq_false_iff_eq]; exact h4
    have g4 : ((ssum : Int) != (psum : Int)) = true := by rw [bne_iff_ne]; rcases h3 with h | h; exact absurd h4.symm h; omega
    rcases Nat.eq_zero_or_pos m with h6 | h6
    · have d6 : (m == 0) = true := by rw [beq_iff_eq]; omega
      have d6i : ((m : Int) == 0) = true := by rw [beq_iff_eq]; omega
      have d7 : (ptot != 0) = false := by rw [bne_eq_false_iff_eq]; omega
      clear m1 m2 m3 m4 m5 m6 h6 h2 hrt h3 h4
      go_enter Tryd.func18, Tryd.ntmps18
      have p0 := KP.out.cell 0
      have p1 := KP.out.cell 1
      have p2 := KP.out.cell 2
      have p3 := KP.out.cell 3
      have p4 := KP.out.cell 4
      have r0 := KR.out.cell 0
      have r1 := KR.out.cell 1
      have r2 := KR.out.cell 2
      have r3 := KR.out.cell 3
      go_wp2_with fail
      clear hW hpb
      go_quiet (fail)
      have FQ0 : Hid (Fr (fun _ => False) W (W.drewN nq)) := Lib.hid ((Fr.refl _ _).drewN _)
      generalize W.drewN nq = W1 at *
      replace KP := Lib.hid (KP.out.fr FQ0.out (fun h => h))
      replace KR := Lib.hid (KR.out.fr FQ0.out (fun h => h))
      replace FW := Lib.hid (FW.out.trans FQ0.out (fun _ _ h => h))
      clear p0 p1 p2 p3 p4 r0 r1 r2 r3
      have p0 := KP.out.cell 0
      have p1 := KP.out.cell 1
      have p2 := KP.out.cell 2
      have p3 := KP.out.cell 3
      have p4 := KP.out.cell 4
      have r0 := KR.out.cell 0
      have r1 := KR.out.cell 1
      have r2 := KR.out.cell 2
      have r3 := KR.out.cell 3
      go_wp2_with fail
      go_quiet (fail)
      have FQ1 : Hid (Fr (fun _ => False) W1 (W1.drewN nq)) := Lib.hid ((Fr.refl _ _).drewN _)
      generalize W1.drewN nq = W2 at *
      replace KP := Lib.hid (KP.out.fr FQ1.out (fun h => h))
      replace KR := Lib.hid (KR.out.fr FQ1.out (fun h => h))
      replace FW := Lib.hid (FW.out.trans FQ1.out (fun _ _ h => h))
      clear p0 p1 p2 p3 p4 r0 r1 r2 r3
      have p0 := KP.out.cell 0
      have p1 := KP.out.cell 1
      have p2 := KP.out.cell 2
      have p3 := KP.out.cell 3
      have p4 := KP.out.cell 4
      have r0 := KR.out.cell 0
      have r1 := KR.out.cell 1
      have r2 := KR.out.cell 2
      have r3 := KR.out.cell 3
      go_wp2_with fail
      go_ret2
      exact RAddE.no HE.out (by decide) HRB.out FW.out
    · have d6 : (m == 0) = false := by rw [beq_eq_false_iff_ne]; omega
      have d6i : ((m : Int) == 0) = false := by rw [beq_eq_false_iff_ne]; omega
      clear m1 m2 m3 m4 m5 m6 h6 h2 hrt h3 h4
      go_enter Tryd.func18, Tryd.ntmps18
      have p0 := KP.out.cell 0
      have p1 := KP.out.cell 1
      have p2 := KP.out.cell 2
      have p3 := KP.out.cell 3
      have p4 := KP.out.cell 4
      have r0 := KR.out.cell 0
      have r1 := KR.out.cell 1
      have r2 := KR.out.cell 2
      have r3 := KR.out.cell 3
      go_wp2_with fail
      clear hW hpb
      go_quiet (fail)
      have FQ0 : Hid (Fr (fun _ => False) W (W.drewN nq)) := Lib.hid ((Fr.refl _ _).drewN _)
      generalize W.drewN nq = W1 at *
      replace KP := Lib.hid (KP.out.fr FQ0.out (fun h => h))
      replace KR := Lib.hid (KR.out.fr FQ0.out (fun h => h))
      replace FW := Lib.hid (FW.out.trans FQ0.out (fun _ _ h => h))
      clear p0 p1 p2 p3 p4 r0 r1 r2 r3
      have p0 := KP.out.cell 0
      have p1 := KP.out.cell 1
      have p2 := KP.out.cell 2
      have p3 := KP.out.cell 3
      have p4 := KP.out.cell 4
      have r0 := KR.out.cell 0
      have r1 := KR.out.cell 1
      have r2 := KR.out.cell 2
      have r3 := KR.out.cell 3
      go_wp2_with fail
      go_quiet (fail)
      have FQ1 : Hid (Fr (fun _ => False) W1 (W1.drewN nq)) := Lib.hid ((Fr.refl _ _).drewN _)
      generalize W1.drewN nq = W2 at *
      replace KP := Lib.hid (KP.out.fr FQ1.out (fun h => h))
      replace KR := Lib.hid (KR.out.fr FQ1.out (fun h => h))
      replace FW := Lib.hid (FW.out.trans FQ1.out (fun _ _ h => h))
      clear p0 p1 p2 p3 p4 r0 r1 r2 r3
      have p0 := KP.out.cell 0
      have p1 := KP.out.cell 1
      have p2 := KP.out.cell 2
      have p3 := KP.out.cell 3
      have p4 := KP.out.cell 4
      have r0 := KR.out.cell 0
      have r1 := KR.out.cell 1
      have r2 := KR.out.cell 2
      have r3 := KR.out.cell 3
      go_wp2_with fail
      go_ret2
      exact RAddE.no HE.out (by decide) HRB.out FW.out
  · have g3 : (rt != ptot) = true := by rw [bne_iff_ne]; exact h4
    rcases Nat.eq_zero_or_pos m with h6 | h6
    · have d6 : (m == 0) = true := by rw [beq_iff_eq]; omega
      have d6i : ((m : Int) == 0) = true := by rw [beq_iff_eq]; omega
      have d7 : (ptot != 0) = false := by rw [bne_eq_false_iff_eq]; omega
      clear m1 m2 m3 m4 m5 m6 h6 h2 hrt h3 h4
      go_enter Tryd.func18, Tryd.ntmps18
      have p0 := KP.out.cell 0
      have p1 := KP.out.cell 1
      have p2 := KP.out.cell 2
      have p3 := KP.out.cell 3
      have p4 := KP.out.cell 4
      have r0 := KR.out.cell 0
      have r1 := KR.out.cell 1
      have r2 := KR.out.cell 2
      have r3 := KR.out.cell 3
      go_wp2_with fail
      clear hW hpb
      go_quiet (fail)
      have FQ0 : Hid (Fr (fun _ => False) W (W.drewN nq)) := Lib.hid ((Fr.refl _ _).drewN _)
      generalize W.drewN nq = W1 at *
      replace KP := Lib.hid (KP.out.fr FQ0.out (fun h => h))
      replace KR := Lib.hid (KR.out.fr FQ0.out (fun h => h))
      replace FW := Lib.hid (FW.out.trans FQ0.out (fun _ _ h => h))
      clear p0 p1 p2 p3 p4 r0 r1 r2 r3
      have p0 := KP.out.cell 0
      have p1 := KP.out.cell 1
      have p2 := KP.out.cell 2
      have p3 := KP.out.cell 3
      have p4 := KP.out.cell 4
      have r0 := KR.out.cell 0
      have r1 := KR.out.cell 1
      have r2 := KR.out.cell 2
      have r3 := KR.out.cell 3
      go_wp2_with fail
      go_quiet (fail)
      have FQ1 : Hid (Fr (fun _ => False) W1 (W1.drewN nq)) := Lib.hid ((Fr.refl _ _).drewN _)
      generalize W1.drewN nq = W2 at *
      replace KP := Lib.hid (KP.out.fr FQ1.out (fun h => h))
      replace KR := Lib.hid (KR.out.fr FQ1.out (fun h => h))
      replace FW := Lib.hid (FW.out.trans FQ1.out (fun _ _ h => h))
      clear p0 p1 p2 p3 p4 r0 r1 r2 r3
      have p0 := KP.out.cell 0
      have p1 := KP.out.cell 1
      have p2 := KP.out.cell 2
      have p3 := KP.out.cell 3
      have p4 := KP.out.cell 4
      have r0 := KR.out.cell 0
      have r1 := KR.out.cell 1
      have r2 := KR.out.cell 2
      have r3 := KR.out.cell 3
      go_wp2_with fail
      go_ret2
      exact RAddE.no HE.out (by decide) HRB.out FW.out
    · have d6 : (m == 0) = false := by rw [beq_eq_false_iff_ne]; omega
      have d6i : ((m : Int) == 0) = false := by rw [beq_eq_false_iff_ne]; omega
      clear m1 m2 m3 m4 m5 m6 h6 h2 hrt h3 h4
      go_enter Tryd.func18, Tryd.ntmps18
      have p0 := KP.out.cell 0
      have p1 := KP.out.cell 1
      have p2 := KP.out.cell 2
      have p3 := KP.out.cell 3
      have p4 := KP.out.cell 4
      have r0 := KR.out.cell 0
      have r1 := KR.out.cell 1
      have r2 := KR.out.cell 2
      have r3 := KR.out.cell 3
      go_wp2_with fail
      clear hW hpb
      go_quiet (fail)
      have FQ0 : Hid (Fr (fun _ => False) W (W.drewN nq)) := Lib.hid ((Fr.refl _ _).drewN _)
      generalize W.drewN nq = W1 at *
      replace KP := Lib.hid (KP.out.fr FQ0.out (fun h => h))
      replace KR := Lib.hid (KR.out.fr FQ0.out (fun h => h))
      replace FW := Lib.hid (FW.out.trans FQ0.out (fun _ _ h => h))
      clear p0 p1 p2 p3 p4 r0 r1 r2 r3
      have p0 := KP.out.cell 0
      have p1 := KP.out.cell 1
      have p2 := KP.out.cell 2
      have p3 := KP.out.cell 3
      have p4 := KP.out.cell 4
      have r0 := KR.out.cell 0
      have r1 := KR.out.cell 1
      have r2 := KR.out.cell 2
      have r3 := KR.out.cell 3
      go_wp2_with fail
      go_quiet (fail)
      have FQ1 : Hid (Fr (fun _ => False) W1 (W1.drewN nq)) := Lib.hid ((Fr.refl _ _).drewN _)
      generalize W1.drewN nq = W2 at *
      replace KP := Lib.hid (KP.out.fr FQ1.out (fun h => h))
      replace KR := Lib.hid (KR.out.fr FQ1.out (fun h => h))
      replace FW := Lib.hid (FW.out.trans FQ1.out (fun _ _ h => h))
      clear p0 p1 p2 p3 p4 r0 r1 r2 r3
      have p0 := KP.out.cell 0
      have p1 := KP.out.cell 1
      have p2 := KP.out.cell 2
      have p3 := KP.out.cell 3
      have p4 := KP.out.cell 4
      have r0 := KR.out.cell 0
      have r1 := KR.out.cell 1
      have r2 := KR.out.cell 2
      have r3 := KR.out.cell 3
      go_wp2_with fail
      go_ret2
      exact RAddE.no HE.out (by decide) HRB.out FW.out
set_option maxRecDepth 100000 in
set_option maxHeartbeats 8000000 in
theorem refAdd_d1 (rb : Nat) (s : BSt) (p : Pc) (A : Option Addr) (n c : Nat) (D : Option Addr) (m k F : Nat) (w : World) (hb : RB w rb s (.slice A n c)) (hs : Sl8 w F D m k p.data) (hps : p.sum < 4294967296) (hmay : p.may) (h2 : s.id < p.id) (h3 : 0 < p.at_) :
    Calls Tryd.prog 18 #[.pointer (some ⟨rb, 0, none⟩), p.v (.slice D m k)] w (RAddE rb s (.slice A n c) p w) := by
  have HRB := Lib.hid hb
  have HS := Lib.hid hs
  have HM := Lib.hid hs.1
  have HN := Lib.hid hb.2.2.cap8.1
  have HMAY := Lib.hid hmay
  have HPS := Lib.hid hps
  have HNB := Lib.hid hb.1.len
  have HE : Hid (s.addE p = 6) := Lib.hid (BSt.addE_f hmay h2 h3)
  obtain ⟨sid, stot, ssum, sxs⟩ := s
  obtain ⟨pid, pat, ptot, psum, pxs⟩ := p
  obtain ⟨rt, hrt⟩ : ∃ rt, rtot ⟨sid, stot, ssum, sxs⟩ = rt := ⟨_, rfl⟩
  have KR0 := HRB.out.2.1
  rw [hrt] at KR0
  unfold Pc.v
  obtain ⟨m1, m2, m3, m4, m5, m6⟩ := hmay
  simp only at *
  rw [HM.out] at m5 m6
  obtain ⟨pb, hpb⟩ : ∃ pb, w.heap.size = pb := ⟨_, rfl⟩
  obtain ⟨W, hW⟩ : ∃ W, w.alloc (.cells #[.int .i64 pid, .int .i64 pat, .int .i64 ptot, .int .u32 psum, .slice D m k] 37) = W := ⟨_, rfl⟩
  have KP : Hid (Bk W pb 37 #[.int .i64 pid, .int .i64 pat, .int .i64 ptot, .int .u32 psum, .slice D m k]) := Lib.hid (by rw [← hW, ← hpb]; exact Bk.new _ _ _)
  have FW : Hid (Fr (fun _ => False) w W) := Lib.hid (by rw [← hW]; exact (Fr.refl _ _).alloc _)
  have KR : Hid (Bk W rb 45 #[.int .i64 sid, .int .i64 rt, .int .u32 ssum, .slice A n c]) := Lib.hid (KR0.fr FW.out (fun h => h))
  have HPE := Lib.hid hpb
  clear KR0 hb hs
  have g1 : decide (pid < sid) = false := decide_eq_false (by omega)
  have g2 : (sid == pid) = false := by rw [beq_eq_false_iff_ne]; omega
  have g5 : decide (sid < pid) = true := decide_eq_true h2
  have g6 : decide (0 < pat) = true := decide_eq_true h3
  have d1 : decide (pat < 0) = false := decide_eq_false (by omega)
  have d2 : decide (ptot < 0) = false := decide_eq_false (by omega)
  have d3 : decide (1048576 < ptot) = false := decide_eq_false (by omega)
  have d4 : decide (ptot < pat) = false := decide_eq_false (by omega)
  have w1 : IntKind.i64.wrap (ptot - pat) = ptot - pat := IntWalk.i64_in _ (by omega)
  have d5 : decide (ptot - pat < (m : Int)) = false := decide_eq_false (by omega)
  have d8 : decide (pid < 0) = false := decide_eq_false (by omega)
  rcases Nat.eq_zero_or_pos m with h6 | h6
  · have d6 : (m == 0) = true := by rw [beq_iff_eq]; omega
    have d6i : ((m : Int) == 0) = true := by rw [beq_iff_eq]; omega
    have d7 : (ptot != 0) = false := by rw [bne_eq_false_iff_eq]; omega
    clear m1 m2 m3 m4 m5 m6 h6 h2 hrt h3
    go_enter Tryd.func18, Tryd.ntmps18
    have p0 := KP.out.cell 0
    have p1 := KP.out.cell 1
    have p2 := KP.out.cell 2
    have p3 := KP.out.cell 3
    have p4 := KP.out.cell 4
    have r0 := KR.out.cell 0
    have r1 := KR.out.cell 1
    have r2 := KR.out.cell 2
    have r3 := KR.out.cell 3
    go_wp2_with fail
    clear hW hpb
    go_quiet (fail)
    have FQ0 : Hid (Fr (fun _ => False) W (W.drewN nq)) := Lib.hid ((Fr.refl _ _).drewN _)
    generalize W.drewN nq = W1 at *
    replace KP := Lib.hid (KP.out.fr FQ0.out (fun h => h))
    replace KR := Lib.hid (KR.out.fr FQ0.out (fun h => h))
    replace FW := Lib.hid (FW.out.trans FQ0.out (fun _ _ h => h))
    clear p0 p1 p2 p3 p4 r0 r1 r2 r3
    have p0 := KP.out.cell 0
    have p1 := KP.out.cell 1
    have p2 := KP.out.cell 2
    have p3 := KP.out.cell 3
    have p4 := KP.out.cell 4
    have r0 := KR.out.cell 0
    have r1 := KR.out.cell 1
    have r2 := KR.out.cell 2
    have r3 := KR.out.cell 3
    go_wp2_with fail
    go_quiet (fail)
    have FQ1 : Hid (Fr (fun _ => False) W1 (W1.drewN nq)) := Lib.hid ((Fr.refl _ _).drewN _)
    generalize W1.drewN nq = W2 at *
    replace KP := Lib.hid (KP.out.fr FQ1.out (fun h => h))
    replace KR := Lib.hid (KR.out.fr FQ1.out (fun h => h))
    replace FW := Lib.hid (FW.out.trans FQ1.out (fun _ _ h => h))
    clear p0 p1 p2 p3 p4 r0 r1 r2 r3
    have p0 := KP.out.cell 0
    have p1 := KP.out.cell 1
    have p2 := KP.out.cell 2
    have p3 := KP.out.cell 3
    have p4 := KP.out.cell 4
    have r0 := KR.out.cell 0
    have r1 := KR.out.cell 1
    have r2 := KR.out.cell 2
    have r3 := KR.out.cell 3
    go_wp2_with fail
    go_quiet (fail)
    have FQ2 : Hid (Fr (fun _ => False) W2 (W2.drewN nq)) := Lib.hid ((Fr.refl _ _).drewN _)
    generalize W2.drewN nq = W3 at *
    replace KP := Lib.hid (KP.out.fr FQ2.out (fun h => h))
    replace KR := Lib.hid (KR.out.fr FQ2.out (fun h => h))
    replace FW := Lib.hid (FW.out.trans FQ2.out (fun _ _ h => h))
    clear p0 p1 p2 p3 p4 r0 r1 r2 r3
    have p0 := KP.out.cell 0
    have p1 := KP.out.cell 1
    have p2 := KP.out.cell 2
    have p3 := KP.out.cell 3
    have p4 := KP.out.cell 4
    have r0 := KR.out.cell 0
    have r1 := KR.out.cell 1
    have r2 := KR.out.cell 2
    have r3 := KR.out.cell 3
    go_wp2_with fail
    go_ret2
    exact RAddE.no HE.out (by decide) HRB.out FW.out
  · have d6 : (m == 0) = false := by rw [beq_eq_false_iff_ne]; omega
    have d6i : ((m : Int) == 0) = false := by rw [beq_eq_false_iff_ne]; omega
    clear m1 m2 m3 m4 m5 m6 h6 h2 hrt h3
    go_enter Tryd.func18, Tryd.ntmps18
    have p0 := KP.out.cell 0
    have p1 := KP.out.cell 1
    have p2 := KP.out.cell 2
    have p3 := KP.out.cell 3
    have p4 := KP.out.cell 4
    have r0 := KR.out.cell 0
    have r1 := KR.out.cell 1
    have r2 := KR.out.cell 2
    have r3 := KR.out.cell 3
    go_wp2_with fail
    clear hW hpb
    go_quiet (fail)
    have FQ0 : Hid (Fr (fun _ => False) W (W.drewN nq)) := Lib.hid ((Fr.refl _ _).drewN _)
    generalize W.drewN nq = W1 at *
    replace KP := Lib.hid (KP.out.fr FQ0.out (fun h => h))
    replace KR := Lib.hid (KR.out.fr FQ0.out (fun h => h))
    replace FW := Lib.hid (FW.out.trans FQ0.out (fun _ _ h => h))
    clear p0 p1 p2 p3 p4 r0 r1 r2 r3
    have p0 := KP.out.cell 0
    have p1 := KP.out.cell 1
    have p2 := KP.out.cell 2
    have p3 := KP.out.cell 3
    have p4 := KP.out.cell 4
    have r0 := KR.out.cell 0
    have r1 := KR.out.cell 1
    have r2 := KR.out.cell 2
    have r3 := KR.out.cell 3
    go_wp2_with fail
    go_quiet (fail)
    have FQ1 : Hid (Fr (fun _ => False) W1 (W1.drewN nq)) := Lib.hid ((Fr.refl _ _).drewN _)
    generalize W1.drewN nq = W2 at *
    replace KP := Lib.hid (KP.out.fr FQ1.out (fun h => h))
    replace KR := Lib.hid (KR.out.fr FQ1.out (fun h => h))
    replace FW := Lib.hid (FW.out.trans FQ1.out (fun _ _ h => h))
    clear p0 p1 p2 p3 p4 r0 r1 r2 r3
    have p0 := KP.out.cell 0
    have p1 := KP.out.cell 1
    have p2 := KP.out.cell 2
    have p3 := KP.out.cell 3
    have p4 := KP.out.cell 4
    have r0 := KR.out.cell 0
    have r1 := KR.out.cell 1
    have r2 := KR.out.cell 2
    have r3 := KR.out.cell 3
    go_wp2_with fail
    go_quiet (fail)
    have FQ2 : Hid (Fr (fun _ => False) W2 (W2.drewN nq)) := Lib.hid ((Fr.refl _ _).drewN _)
    generalize W2.drewN nq = W3 at *
    replace KP := Lib.hid (KP.out.fr FQ2.out (fun h => h))
    replace KR := Lib.hid (KR.out.fr FQ2.out (fun h => h))
    replace FW := Lib.hid (FW.out.trans FQ2.out (fun _ _ h => h))
    clear p0 p1 p2 p3 p4 r0 r1 r2 r3
    have p0 := KP.out.cell 0
    have p1 := KP.out.cell 1
    have p2 := KP.out.cell 2
    have p3 := KP.out.cell 3
    have p4 := KP.out.cell 4
    have r0 := KR.out.cell 0
    have r1 := KR.out.cell 1
    have r2 := KR.out.cell 2
    have r3 := KR.out.cell 3
    go_wp2_with fail
    go_ret2
    exact RAddE.no HE.out (by decide) HRB.out FW.out
set_option maxRecDepth 100000 in
set_option maxHeartbeats 8000000 in
theorem refAdd_d2 (rb : Nat) (s : BSt) (p : Pc) (A : Option Addr) (n c : Nat) (D : Option Addr) (m k F : Nat) (w : World) (hb : RB w rb s (.slice A n c)) (hs : Sl8 w F D m k p.data) (hps : p.sum < 4294967296) (hmay : p.may) (h2 : p.id = s.id) (h3 : p.total = s.total) (h3' : p.sum = s.sum) (h4 : (s.data.length : Int) < p.at_) :
    Calls Tryd.prog 18 #[.pointer (some ⟨rb, 0, none⟩), p.v (.slice D m k)] w (RAddE rb s (.slice A n c) p w) := by
  have HRB := Lib.hid hb
  have HS := Lib.hid hs
  have HM := Lib.hid hs.1
  have HN := Lib.hid hb.2.2.cap8.1
  have HMAY := Lib.hid hmay
  have HPS := Lib.hid hps
  have HNB := Lib.hid hb.1.len
  have HE : Hid (s.addE p = 6) := Lib.hid (BSt.addE_g hmay h2 h3 h3' h4)
  have hrs := BSt.rtot_at hmay h2
  obtain ⟨sid, stot, ssum, sxs⟩ := s
  obtain ⟨pid, pat, ptot, psum, pxs⟩ := p
  obtain ⟨rt, hrt⟩ : ∃ rt, rtot ⟨sid, stot, ssum, sxs⟩ = rt := ⟨_, rfl⟩
  have KR0 := HRB.out.2.1
  rw [hrt] at KR0
  unfold Pc.v
  obtain ⟨m1, m2, m3, m4, m5, m6⟩ := hmay
  simp only at *
  rw [HM.out] at m5 m6
  obtain ⟨pb, hpb⟩ : ∃ pb, w.heap.size = pb := ⟨_, rfl⟩
  obtain ⟨W, hW⟩ : ∃ W, w.alloc (.cells #[.int .i64 pid, .int .i64 pat, .int .i64 ptot, .int .u32 psum, .slice D m k] 37) = W := ⟨_, rfl⟩
  have KP : Hid (Bk W pb 37 #[.int .i64 pid, .int .i64 pat, .int .i64 ptot, .int .u32 psum, .slice D m k]) := Lib.hid (by rw [← hW, ← hpb]; exact Bk.new _ _ _)
  have FW : Hid (Fr (fun _ => False) w W) := Lib.hid (by rw [← hW]; exact (Fr.refl _ _).alloc _)
  have KR : Hid (Bk W rb 45 #[.int .i64 sid, .int .i64 rt, .int .u32 ssum, .slice A n c]) := Lib.hid (KR0.fr FW.out (fun h => h))
  have HPE := Lib.hid hpb
  clear KR0 hb hs
  rw [hrt] at hrs
  subst hrs
  rw [← HN.out] at h4
  have g1 : decide (pid < sid) = false := decide_eq_false (by omega)
  have g2 : (sid == pid) = true := by rw [beq_iff_eq]; omega
  have g3 : (rt != ptot) = false := by rw [bne_eq_false_iff_eq]; omega
  have g4 : ((ssum : Int) != (psum : Int)) = false := by rw [bne_eq_false_iff_eq]; omega
  have g5 : decide (sid < pid) = false := decide_eq_false (by omega)
  have g6 : decide ((n : Int) < pat) = true := decide_eq_true h4
  have d1 : decide (pat < 0) = false := decide_eq_false (by omega)
  have d2 : decide (ptot < 0) = false := decide_eq_false (by omega)
  have d3 : decide (1048576 < ptot) = false := decide_eq_false (by omega)
  have d4 : decide (ptot < pat) = false := decide_eq_false (by omega)
  have w1 : IntKind.i64.wrap (ptot - pat) = ptot - pat := IntWalk.i64_in _ (by omega)
  have d5 : decide (ptot - pat < (m : Int)) = false := decide_eq_false (by omega)
  have d8 : decide (pid < 0) = false := decide_eq_false (by omega)
  rcases Nat.eq_zero_or_pos m with h6 | h6
  · have d6 : (m == 0) = true := by rw [beq_iff_eq]; omega
    have d6i : ((m : Int) == 0) = true := by rw [beq_iff_eq]; omega
    have d7 : (ptot != 0) = false := by rw [bne_eq_false_iff_eq]; omega
    clear m1 m2 m3 m4 m5 m6 h6 h2 hrt h3 h3' h4
    go_enter Tryd.func18, Tryd.ntmps18
    have p0 := KP.out.cell 0
    have p1 := KP.out.cell 1
    have p2 := KP.out.cell 2
    have p3 := KP.out.cell 3
    have p4 := KP.out.cell 4
    have r0 := KR.out.cell 0
    have r1 := KR.out.cell 1
    have r2 := KR.out.cell 2
    have r3 := KR.out.cell 3
    go_wp2_with fail
    clear hW hpb
    go_quiet (fail)
    have FQ0 : Hid (Fr (fun _ => False) W (W.drewN nq)) := Lib.hid ((Fr.refl _ _).drewN _)
    generalize W.drewN nq = W1 at *
    replace KP := Lib.hid (KP.out.fr FQ0.out (fun h => h))
    replace KR := Lib.hid (KR.out.fr FQ0.out (fun h => h))
    replace FW := Lib.hid (FW.out.trans FQ0.out (fun _ _ h => h))
    clear p0 p1 p2 p3 p4 r0 r1 r2 r3
    have p0 := KP.out.cell 0
    have p1 := KP.out.cell 1
    have p2 := KP.out.cell 2
    have p3 := KP.out.cell 3
    have p4 := KP.out.cell 4
    have r0 := KR.out.cell 0
    have r1 := KR.out.cell 1
    have r2 := KR.out.cell 2
    have r3 := KR.out.cell 3
    go_wp2_with fail
    go_quiet (fail)
    have FQ1 : Hid (Fr (fun _ => False) W1 (W1.drewN nq)) := Lib.hid ((Fr.refl _ _).drewN _)
    generalize W1.drewN nq = W2 at *
    replace KP := Lib.hid (KP.out.fr FQ1.out (fun h => h))
    replace KR := Lib.hid (KR.out.fr FQ1.out (fun h => h))
    replace FW := Lib.hid (FW.out.trans FQ1.out (fun _ _ h => h))
    clear p0 p1 p2 p3 p4 r0 r1 r2 r3
    have p0 := KP.out.cell 0
    have p1 := KP.out.cell 1
    have p2 := KP.out.cell 2
    have p3 := KP.out.cell 3
    have p4 := KP.out.cell 4
    have r0 := KR.out.cell 0
    have r1 := KR.out.cell 1
    have r2 := KR.out.cell 2
    have r3 := KR.out.cell 3
    go_wp2_with fail
    go_quiet (fail)
    have FQ2 : Hid (Fr (fun _ => False) W2 (W2.drewN nq)) := Lib.hid ((Fr.refl _ _).drewN _)
    generalize W2.drewN nq = W3 at *
    replace KP := Lib.hid (KP.out.fr FQ2.out (fun h => h))
    replace KR := Lib.hid (KR.out.fr FQ2.out (fun h => h))
    replace FW := Lib.hid (FW.out.trans FQ2.out (fun _ _ h => h))
    clear p0 p1 p2 p3 p4 r0 r1 r2 r3
    have p0 := KP.out.cell 0
    have p1 := KP.out.cell 1
    have p2 := KP.out.cell 2
    have p3 := KP.out.cell 3
    have p4 := KP.out.cell 4
    have r0 := KR.out.cell 0
    have r1 := KR.out.cell 1
    have r2 := KR.out.cell 2
    have r3 := KR.out.cell 3
    go_wp2_with fail
    go_ret2
    exact RAddE.no HE.out (by decide) HRB.out FW.out
  · have d6 : (m == 0) = false := by rw [beq_eq_false_iff_ne]; omega
    have d6i : ((m : Int) == 0) = false := by rw [beq_eq_false_iff_ne]; omega
    clear m1 m2 m3 m4 m5 m6 h6 h2 hrt h3 h3' h4
    go_enter Tryd.func18, Tryd.ntmps18
    have p0 := KP.out.cell 0
    have p1 := KP.out.cell 1
    have p2 := KP.out.cell 2
    have p3 := KP.out.cell 3
    have p4 := KP.out.cell 4
    have r0 := KR.out.cell 0
    have r1 := KR.out.cell 1
    have r2 := KR.out.cell 2
    have r3 := KR.out.cell 3
    go_wp2_with fail
    clear hW hpb
    go_quiet (fail)
    have FQ0 : Hid (Fr (fun _ => False) W (W.drewN nq)) := Lib.hid ((Fr.refl _ _).drewN _)
    generalize W.drewN nq = W1 at *
    replace KP := Lib.hid (KP.out.fr FQ0.out (fun h => h))
    replace KR := Lib.hid (KR.out.fr FQ0.out (fun h => h))
    replace FW := Lib.hid (FW.out.trans FQ0.out (fun _ _ h => h))
    clear p0 p1 p2 p3 p4 r0 r1 r2 r3
    have p0 := KP.out.cell 0
    have p1 := KP.out.cell 1
    have p2 := KP.out.cell 2
    have p3 := KP.out.cell 3
    have p4 := KP.out.cell 4
    have r0 := KR.out.cell 0
    have r1 := KR.out.cell 1
    have r2 := KR.out.cell 2
    have r3 := KR.out.cell 3
    go_wp2_with fail
    go_quiet (fail)
    have FQ1 : Hid (Fr (fun _ => False) W1 (W1.drewN nq)) := Lib.hid ((Fr.refl _ _).drewN _)
    generalize W1.drewN nq = W2 at *
    replace KP := Lib.hid (KP.out.fr FQ1.out (fun h => h))
    replace KR := Lib.hid (KR.out.fr FQ1.out (fun h => h))
    replace FW := Lib.hid (FW.out.trans FQ1.out (fun _ _ h => h))
    clear p0 p1 p2 p3 p4 r0 r1 r2 r3
    have p0 := KP.out.cell 0
    have p1 := KP.out.cell 1
    have p2 := KP.out.cell 2
    have p3 := KP.out.cell 3
    have p4 := KP.out.cell 4
    have r0 := KR.out.cell 0
    have r1 := KR.out.cell 1
    have r2 := KR.out.cell 2
    have r3 := KR.out.cell 3
    go_wp2_with fail
    go_quiet (fail)
    have FQ2 : Hid (Fr (fun _ => False) W2 (W2.drewN nq)) := Lib.hid ((Fr.refl _ _).drewN _)
    generalize W2.drewN nq = W3 at *
    replace KP := Lib.hid (KP.out.fr FQ2.out (fun h => h))
    replace KR := Lib.hid (KR.out.fr FQ2.out (fun h => h))
    replace FW := Lib.hid (FW.out.trans FQ2.out (fun _ _ h => h))
    clear p0 p1 p2 p3 p4 r0 r1 r2 r3
    have p0 := KP.out.cell 0
    have p1 := KP.out.cell 1
    have p2 := KP.out.cell 2
    have p3 := KP.out.cell 3
    have p4 := KP.out.cell 4
    have r0 := KR.out.cell 0
    have r1 := KR.out.cell 1
    have r2 := KR.out.cell 2
    have r3 := KR.out.cell 3
    go_wp2_with fail
    go_ret2
    exact RAddE.no HE.out (by decide) HRB.out FW.out
end Go.Proofs.YtacafjbbdklleaaDoor
