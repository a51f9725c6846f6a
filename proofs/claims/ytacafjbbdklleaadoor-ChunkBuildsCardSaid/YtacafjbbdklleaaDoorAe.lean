/- chunk: join. -/
import Derived.Test.YtacafjbbdklleaaDoorAd
namespace Go.Proofs.YtacafjbbdklleaaDoor
open Go.RowKit

theorem BSt.addE_1 {s : BSt} {p : Pc} (h : ¬ p.may) : s.addE p = 1 := by unfold BSt.addE; rw [if_pos h]
theorem BSt.addE_6 {s : BSt} {p : Pc} (h : p.may) (h2 : p.id < s.id) : s.addE p = 6 := by unfold BSt.addE; rw [if_neg (fun k => k h), if_pos h2]
theorem BSt.addE_8 {s : BSt} {p : Pc} (h : p.may) (h2 : p.id = s.id) (h3 : p.total ≠ s.total ∨ p.sum ≠ s.sum) : s.addE p = 8 := by unfold BSt.addE; rw [if_neg (fun k => k h), if_neg (by omega), if_pos ⟨h2, h3⟩]
theorem BSt.addE_f {s : BSt} {p : Pc} (h : p.may) (h2 : s.id < p.id) (h4 : 0 < p.at_) : s.addE p = 6 := by
  unfold BSt.addE; rw [if_neg (fun k => k h), if_neg (by omega), if_neg (fun k => by have := k.1; omega), if_pos]
  unfold BSt.begin; rw [if_pos h2]; simpa using h4
theorem BSt.addE_g {s : BSt} {p : Pc} (h : p.may) (h2 : p.id = s.id) (h3 : p.total = s.total) (h3' : p.sum = s.sum) (h4 : (s.data.length : Int) < p.at_) : s.addE p = 6 := by
  unfold BSt.addE; rw [if_neg (fun k => k h), if_neg (by omega), if_neg (fun k => by rcases k.2 with k | k <;> contradiction), if_pos]
  unfold BSt.begin; rw [if_neg (by omega)]; exact h4
theorem BSt.addE_new {s : BSt} {p : Pc} (h : p.may) (h2 : s.id < p.id) (h4 : p.at_ = 0) : s.addE p = 0 ∧ (s.begin p).put p = ⟨p.id, p.total, p.sum, p.data⟩ := by
  have hb : s.begin p = ⟨p.id, p.total, p.sum, []⟩ := by unfold BSt.begin; rw [if_pos h2]
  constructor
  · unfold BSt.addE; rw [if_neg (fun k => k h), if_neg (by omega), if_neg (fun k => by have := k.1; omega), if_neg]
    rw [hb]; simp; omega
  · rw [hb]; unfold BSt.put; simp
theorem BSt.addE_on {s : BSt} {p : Pc} (h : p.may) (h2 : p.id = s.id) (h3 : p.total = s.total) (h3' : p.sum = s.sum) (h4 : p.at_ ≤ (s.data.length : Int)) : s.addE p = 0 ∧ (s.begin p).put p = ⟨s.id, s.total, s.sum, s.data ++ p.data.drop (s.data.length - p.at_.toNat)⟩ := by
  have hb : s.begin p = s := by unfold BSt.begin; rw [if_neg (by omega)]
  constructor
  · unfold BSt.addE; rw [if_neg (fun k => k h), if_neg (by omega), if_neg (fun k => by rcases k.2 with k | k <;> contradiction), if_neg]
    rw [hb]; omega
  · rw [hb]; rfl

set_option maxRecDepth 100000 in
set_option maxHeartbeats 4000000 in
theorem join_no (s : BSt) (p : Pc) (A : Option Addr) (n c : Nat) (D : Option Addr) (m k : Nat) (w : World) (hn : s.data.length = n) (hm : p.data.length = m) (hmb : (m : Int) ≤ 140737488355328) (hE : ¬ s.addE p = 0) :
    Calls Tryd.prog 33 #[s.v (.slice A n c), p.v (.slice D m k)] w fun e w' => e = .returned (.tuple #[.agg #[.int .i64 0, .int .i64 0, .int .i64 0, .int .u32 0, .slice none 0 0], .int .i64 (s.addE p)]) ∧ Fr (fun _ => False) w w' := by
  have CM := Lib.hid (fun w' => mayBe_any p D m k w' hm hmb)
  by_cases hmay : p.may
  · rw [decide_eq_true hmay] at CM
    have hmay0 := hmay.2.2.2.1
    by_cases h1 : p.id < s.id
    · have HE : Hid (s.addE p = 6) := Lib.hid (BSt.addE_6 hmay h1)
      rw [HE.out]
      have d1 : decide (p.id < s.id) = true := decide_eq_true h1
      clear h1
      obtain ⟨sid, stot, ssum, sxs⟩ := s
      obtain ⟨pid, pat, ptot, psum, pxs⟩ := p
      unfold BSt.v Pc.v
      simp only at *
      obtain ⟨b, hb⟩ : ∃ b, w.heap.size = b := ⟨_, rfl⟩
      obtain ⟨W, hW⟩ : ∃ W, ((w.alloc (.cells #[.int .i64 sid, .int .i64 0, .int .i64 stot, .int .u32 ssum, .slice A n c] 36)).alloc (.cells #[.int .i64 pid, .int .i64 pat, .int .i64 ptot, .int .u32 psum, .slice D m k] 36)).alloc (.cells #[.int .i64 0, .int .i64 0, .int .i64 0, .int .u32 0, .slice none 0 0] 36) = W := ⟨_, rfl⟩
      have K1 : Hid (Bk W b 36 #[.int .i64 sid, .int .i64 0, .int .i64 stot, .int .u32 ssum, .slice A n c]) := Lib.hid (by
        rw [← hW, ← hb]
        exact ((Bk.new w _ _).alloc _).alloc _)
      have K2 : Hid (Bk W (b + 1) 36 #[.int .i64 pid, .int .i64 pat, .int .i64 ptot, .int .u32 psum, .slice D m k]) := Lib.hid (by
        rw [← hW, ← hb]
        have := (Bk.new (w.alloc (.cells #[.int .i64 sid, .int .i64 0, .int .i64 stot, .int .u32 ssum, .slice A n c] 36)) 36 #[.int .i64 pid, .int .i64 pat, .int .i64 ptot, .int .u32 psum, .slice D m k]).alloc (.cells #[.int .i64 0, .int .i64 0, .int .i64 0, .int .u32 0, .slice none 0 0] 36)
        simpa using this)
      have K3 : Hid (Bk W (b + 1 + 1) 36 #[.int .i64 0, .int .i64 0, .int .i64 0, .int .u32 0, .slice none 0 0]) := Lib.hid (by
        rw [← hW, ← hb]
        have := Bk.new ((w.alloc (.cells #[.int .i64 sid, .int .i64 0, .int .i64 stot, .int .u32 ssum, .slice A n c] 36)).alloc (.cells #[.int .i64 pid, .int .i64 pat, .int .i64 ptot, .int .u32 psum, .slice D m k] 36)) 36 #[.int .i64 0, .int .i64 0, .int .i64 0, .int .u32 0, .slice none 0 0]
        simpa using this)
      have FW : Hid (Fr (fun _ => False) w W) := Lib.hid (by rw [← hW]; exact (((Fr.refl _ _).alloc _).alloc _).alloc _)
      have HB := Lib.hid hb
      clear hE hmay hmay0 hn hm HE
      go_enter Tryd.func33, Tryd.ntmps33
      have p0 := K2.out.cell 0
      have p1 := K2.out.cell 1
      have p2 := K2.out.cell 2
      have p3 := K2.out.cell 3
      have p4 := K2.out.cell 4
      go_wp2_with fail
      clear p0 p1 p2 p3 p4
      refine (CM.out _).mono ?_; rintro e w1 ⟨rfl, hf1⟩
      have F1 := Lib.hid (FW.out.trans hf1 (fun _ _ h => h))
      have L1 := Lib.hid (K1.out.fr hf1 (fun h => h))
      have L2 := Lib.hid (K2.out.fr hf1 (fun h => h))
      have L3 := Lib.hid (K3.out.fr hf1 (fun h => h))
      clear hf1 K1 K2 K3 FW hW hb CM
      have a0 := L1.out.cell 0
      have a2 := L1.out.cell 2
      have a3 := L1.out.cell 3
      have a4 := L1.out.cell 4
      have p0 := L2.out.cell 0
      have p1 := L2.out.cell 1
      have p2 := L2.out.cell 2
      have p3 := L2.out.cell 3
      have p4 := L2.out.cell 4
      have G2 : Hid (Bk (set5 w1 (b + 1 + 1) (.int .i64 0) (.int .i64 0) (.int .i64 0) (.int .u32 0) (.slice none 0 0)) (b + 1 + 1) 36 #[.int .i64 0, .int .i64 0, .int .i64 0, .int .u32 0, .slice none 0 0] ∧ Fr (fun _ => False) w (set5 w1 (b + 1 + 1) (.int .i64 0) (.int .i64 0) (.int .i64 0) (.int .u32 0) (.slice none 0 0))) :=
        Lib.hid ⟨L3.out.set5 .., Fr.set5 F1.out (fun h => by have := HB.out; omega) ..⟩
      have z0 := L3.out.cell 0
      have z1 := L3.out.cell 1
      have z2 := L3.out.cell 2
      have z3 := L3.out.cell 3
      have z4 := L3.out.cell 4
      have zf0 := L3.out.frozen 0
      have zf1 := L3.out.frozen 1
      have zf2 := L3.out.frozen 2
      have zf3 := L3.out.frozen 3
      have zf4 := L3.out.frozen 4
      go_wp2
      change bodyPost _ _ _ _ _ (set5 w1 (b + 1 + 1) (.int .i64 0) (.int .i64 0) (.int .i64 0) (.int .u32 0) (.slice none 0 0))
      have G2' := G2.out
      generalize set5 w1 (b + 1 + 1) (.int .i64 0) (.int .i64 0) (.int .i64 0) (.int .u32 0) (.slice none 0 0) = w5 at *
      have q0 := G2'.1.cell 0
      have q1 := G2'.1.cell 1
      have q2 := G2'.1.cell 2
      have q3 := G2'.1.cell 3
      have q4 := G2'.1.cell 4
      refine bodyPost_ret (v := .tuple #[.agg #[.int .i64 0, .int .i64 0, .int .i64 0, .int .u32 0, .slice none 0 0], .int .i64 6]) (by simp [results, Tryd.results33, go_sem, q0, q1, q2, q3, q4]) rfl ⟨rfl, G2'.2⟩
    · by_cases h2 : s.id < p.id
      · have h5 : 0 < p.at_ := by
          rcases Int.lt_trichotomy p.at_ 0 with h | h | h
          · omega
          · exact absurd (BSt.addE_new hmay h2 h).1 hE
          · exact h
        have HE : Hid (s.addE p = 6) := Lib.hid (BSt.addE_f hmay h2 h5)
        rw [HE.out]
        have d1 : decide (p.id < s.id) = false := decide_eq_false (by omega)
        have d2 : decide (s.id < p.id) = true := decide_eq_true h2
        have d5 : decide ((0 : Int) < p.at_) = true := decide_eq_true h5
        clear h1 h2 h5
        obtain ⟨sid, stot, ssum, sxs⟩ := s
        obtain ⟨pid, pat, ptot, psum, pxs⟩ := p
        unfold BSt.v Pc.v
        simp only at *
        obtain ⟨b, hb⟩ : ∃ b, w.heap.size = b := ⟨_, rfl⟩
        obtain ⟨W, hW⟩ : ∃ W, ((w.alloc (.cells #[.int .i64 sid, .int .i64 0, .int .i64 stot, .int .u32 ssum, .slice A n c] 36)).alloc (.cells #[.int .i64 pid, .int .i64 pat, .int .i64 ptot, .int .u32 psum, .slice D m k] 36)).alloc (.cells #[.int .i64 0, .int .i64 0, .int .i64 0, .int .u32 0, .slice none 0 0] 36) = W := ⟨_, rfl⟩
        have K1 : Hid (Bk W b 36 #[.int .i64 sid, .int .i64 0, .int .i64 stot, .int .u32 ssum, .slice A n c]) := Lib.hid (by
          rw [← hW, ← hb]
          exact ((Bk.new w _ _).alloc _).alloc _)
        have K2 : Hid (Bk W (b + 1) 36 #[.int .i64 pid, .int .i64 pat, .int .i64 ptot, .int .u32 psum, .slice D m k]) := Lib.hid (by
          rw [← hW, ← hb]
          have := (Bk.new (w.alloc (.cells #[.int .i64 sid, .int .i64 0, .int .i64 stot, .int .u32 ssum, .slice A n c] 36)) 36 #[.int .i64 pid, .int .i64 pat, .int .i64 ptot, .int .u32 psum, .slice D m k]).alloc (.cells #[.int .i64 0, .int .i64 0, .int .i64 0, .int .u32 0, .slice none 0 0] 36)
          simpa using this)
        have K3 : Hid (Bk W (b + 1 + 1) 36 #[.int .i64 0, .int .i64 0, .int .i64 0, .int .u32 0, .slice none 0 0]) := Lib.hid (by
          rw [← hW, ← hb]
          have := Bk.new ((w.alloc (.cells #[.int .i64 sid, .int .i64 0, .int .i64 stot, .int .u32 ssum, .slice A n c] 36)).alloc (.cells #[.int .i64 pid, .int .i64 pat, .int .i64 ptot, .int .u32 psum, .slice D m k] 36)) 36 #[.int .i64 0, .int .i64 0, .int .i64 0, .int .u32 0, .slice none 0 0]
          simpa using this)
        have FW : Hid (Fr (fun _ => False) w W) := Lib.hid (by rw [← hW]; exact (((Fr.refl _ _).alloc _).alloc _).alloc _)
        have HB := Lib.hid hb
        clear hE hmay hmay0 hn hm HE
        go_enter Tryd.func33, Tryd.ntmps33
        have p0 := K2.out.cell 0
        have p1 := K2.out.cell 1
        have p2 := K2.out.cell 2
        have p3 := K2.out.cell 3
        have p4 := K2.out.cell 4
        go_wp2_with fail
        clear p0 p1 p2 p3 p4
        refine (CM.out _).mono ?_; rintro e w1 ⟨rfl, hf1⟩
        have F1 := Lib.hid (FW.out.trans hf1 (fun _ _ h => h))
        have L1 := Lib.hid (K1.out.fr hf1 (fun h => h))
        have L2 := Lib.hid (K2.out.fr hf1 (fun h => h))
        have L3 := Lib.hid (K3.out.fr hf1 (fun h => h))
        clear hf1 K1 K2 K3 FW hW hb CM
        have a0 := L1.out.cell 0
        have a2 := L1.out.cell 2
        have a3 := L1.out.cell 3
        have a4 := L1.out.cell 4
        have p0 := L2.out.cell 0
        have p1 := L2.out.cell 1
        have p2 := L2.out.cell 2
        have p3 := L2.out.cell 3
        have p4 := L2.out.cell 4
        have a1 := L1.out.cell 1
        have af0 := L1.out.frozen 0
        have af1 := L1.out.frozen 1
        have af2 := L1.out.frozen 2
        have af3 := L1.out.frozen 3
        have af4 := L1.out.frozen 4
        obtain ⟨W2, hW2⟩ : ∃ W2, set5 w1 b (.int .i64 pid) (.int .i64 0) (.int .i64 ptot) (.int .u32 psum) (.slice none 0 0) = W2 := ⟨_, rfl⟩
        have M1 : Hid (Bk W2 b 36 #[.int .i64 pid, .int .i64 0, .int .i64 ptot, .int .u32 psum, .slice none 0 0]) := Lib.hid (by rw [← hW2]; exact L1.out.set5 ..)
        have M2 : Hid (Bk W2 (b + 1) 36 #[.int .i64 pid, .int .i64 pat, .int .i64 ptot, .int .u32 psum, .slice D m k]) := Lib.hid (by rw [← hW2]; exact L2.out.fr (Fr.set5 (S := fun x => x = b) (Fr.refl _ _) (fun _ => rfl) ..) (by omega))
        have M3 : Hid (Bk W2 (b + 1 + 1) 36 #[.int .i64 0, .int .i64 0, .int .i64 0, .int .u32 0, .slice none 0 0]) := Lib.hid (by rw [← hW2]; exact L3.out.fr (Fr.set5 (S := fun x => x = b) (Fr.refl _ _) (fun _ => rfl) ..) (by omega))
        have F2 : Hid (Fr (fun _ => False) w W2) := Lib.hid (by rw [← hW2]; exact Fr.set5 F1.out (fun h => by have := HB.out; omega) ..)
        unfold set5 at hW2
        have m0 := M1.out.cell 0
        have m1 := M1.out.cell 1
        have m2 := M1.out.cell 2
        have m3 := M1.out.cell 3
        have m4 := M1.out.cell 4
        have r0 := M2.out.cell 0
        have r1 := M2.out.cell 1
        have r2 := M2.out.cell 2
        have r3 := M2.out.cell 3
        have r4 := M2.out.cell 4
        have G2 : Hid (Bk (set5 W2 (b + 1 + 1) (.int .i64 0) (.int .i64 0) (.int .i64 0) (.int .u32 0) (.slice none 0 0)) (b + 1 + 1) 36 #[.int .i64 0, .int .i64 0, .int .i64 0, .int .u32 0, .slice none 0 0] ∧ Fr (fun _ => False) w (set5 W2 (b + 1 + 1) (.int .i64 0) (.int .i64 0) (.int .i64 0) (.int .u32 0) (.slice none 0 0))) :=
          Lib.hid ⟨M3.out.set5 .., Fr.set5 F2.out (fun h => by have := HB.out; omega) ..⟩
        have z0 := M3.out.cell 0
        have z1 := M3.out.cell 1
        have z2 := M3.out.cell 2
        have z3 := M3.out.cell 3
        have z4 := M3.out.cell 4
        have zf0 := M3.out.frozen 0
        have zf1 := M3.out.frozen 1
        have zf2 := M3.out.frozen 2
        have zf3 := M3.out.frozen 3
        have zf4 := M3.out.frozen 4
        go_wp2
        change bodyPost _ _ _ _ _ (set5 W2 (b + 1 + 1) (.int .i64 0) (.int .i64 0) (.int .i64 0) (.int .u32 0) (.slice none 0 0))
        have G2' := G2.out
        generalize set5 W2 (b + 1 + 1) (.int .i64 0) (.int .i64 0) (.int .i64 0) (.int .u32 0) (.slice none 0 0) = w5 at *
        have q0 := G2'.1.cell 0
        have q1 := G2'.1.cell 1
        have q2 := G2'.1.cell 2
        have q3 := G2'.1.cell 3
        have q4 := G2'.1.cell 4
        refine bodyPost_ret (v := .tuple #[.agg #[.int .i64 0, .int .i64 0, .int .i64 0, .int .u32 0, .slice none 0 0], .int .i64 6]) (by simp [results, Tryd.results33, go_sem, q0, q1, q2, q3, q4]) rfl ⟨rfl, G2'.2⟩
      · replace h2 : p.id = s.id := by omega
        by_cases h3 : p.total = s.total
        · by_cases h4 : p.sum = s.sum
          · have h5 : (s.data.length : Int) < p.at_ := by
              rcases Int.lt_or_le (s.data.length : Int) p.at_ with h | h
              · exact h
              · exact absurd (BSt.addE_on hmay h2 h3 h4 h).1 hE
            have HE : Hid (s.addE p = 6) := Lib.hid (BSt.addE_g hmay h2 h3 h4 h5)
            rw [HE.out]
            have d1 : decide (p.id < s.id) = false := decide_eq_false (by omega)
            have d2 : decide (s.id < p.id) = false := decide_eq_false (by omega)
            have d3 : (p.total != s.total) = false := by rw [bne_eq_false_iff_eq]; omega
            have d4 : ((p.sum : Int) != (s.sum : Int)) = false := by rw [bne_eq_false_iff_eq]; omega
            rw [hn] at h5
            have d5 : decide ((n : Int) < p.at_) = true := decide_eq_true h5
            clear h1 h2 h3 h4 h5
            obtain ⟨sid, stot, ssum, sxs⟩ := s
            obtain ⟨pid, pat, ptot, psum, pxs⟩ := p
            unfold BSt.v Pc.v
            simp only at *
            obtain ⟨b, hb⟩ : ∃ b, w.heap.size = b := ⟨_, rfl⟩
            obtain ⟨W, hW⟩ : ∃ W, ((w.alloc (.cells #[.int .i64 sid, .int .i64 0, .int .i64 stot, .int .u32 ssum, .slice A n c] 36)).alloc (.cells #[.int .i64 pid, .int .i64 pat, .int .i64 ptot, .int .u32 psum, .slice D m k] 36)).alloc (.cells #[.int .i64 0, .int .i64 0, .int .i64 0, .int .u32 0, .slice none 0 0] 36) = W := ⟨_, rfl⟩
            have K1 : Hid (Bk W b 36 #[.int .i64 sid, .int .i64 0, .int .i64 stot, .int .u32 ssum, .slice A n c]) := Lib.hid (by
              rw [← hW, ← hb]
              exact ((Bk.new w _ _).alloc _).alloc _)
            have K2 : Hid (Bk W (b + 1) 36 #[.int .i64 pid, .int .i64 pat, .int .i64 ptot, .int .u32 psum, .slice D m k]) := Lib.hid (by
              rw [← hW, ← hb]
              have := (Bk.new (w.alloc (.cells #[.int .i64 sid, .int .i64 0, .int .i64 stot, .int .u32 ssum, .slice A n c] 36)) 36 #[.int .i64 pid, .int .i64 pat, .int .i64 ptot, .int .u32 psum, .slice D m k]).alloc (.cells #[.int .i64 0, .int .i64 0, .int .i64 0, .int .u32 0, .slice none 0 0] 36)
              simpa using this)
            have K3 : Hid (Bk W (b + 1 + 1) 36 #[.int .i64 0, .int .i64 0, .int .i64 0, .int .u32 0, .slice none 0 0]) := Lib.hid (by
              rw [← hW, ← hb]
              have := Bk.new ((w.alloc (.cells #[.int .i64 sid, .int .i64 0, .int .i64 stot, .int .u32 ssum, .slice A n c] 36)).alloc (.cells #[.int .i64 pid, .int .i64 pat, .int .i64 ptot, .int .u32 psum, .slice D m k] 36)) 36 #[.int .i64 0, .int .i64 0, .int .i64 0, .int .u32 0, .slice none 0 0]
              simpa using this)
            have FW : Hid (Fr (fun _ => False) w W) := Lib.hid (by rw [← hW]; exact (((Fr.refl _ _).alloc _).alloc _).alloc _)
            have HB := Lib.hid hb
            clear hE hmay hmay0 hn hm HE
            go_enter Tryd.func33, Tryd.ntmps33
            have p0 := K2.out.cell 0
            have p1 := K2.out.cell 1
            have p2 := K2.out.cell 2
            have p3 := K2.out.cell 3
            have p4 := K2.out.cell 4
            go_wp2_with fail
            clear p0 p1 p2 p3 p4
            refine (CM.out _).mono ?_; rintro e w1 ⟨rfl, hf1⟩
            have F1 := Lib.hid (FW.out.trans hf1 (fun _ _ h => h))
            have L1 := Lib.hid (K1.out.fr hf1 (fun h => h))
            have L2 := Lib.hid (K2.out.fr hf1 (fun h => h))
            have L3 := Lib.hid (K3.out.fr hf1 (fun h => h))
            clear hf1 K1 K2 K3 FW hW hb CM
            have a0 := L1.out.cell 0
            have a2 := L1.out.cell 2
            have a3 := L1.out.cell 3
            have a4 := L1.out.cell 4
            have p0 := L2.out.cell 0
            have p1 := L2.out.cell 1
            have p2 := L2.out.cell 2
            have p3 := L2.out.cell 3
            have p4 := L2.out.cell 4
            have G2 : Hid (Bk (set5 w1 (b + 1 + 1) (.int .i64 0) (.int .i64 0) (.int .i64 0) (.int .u32 0) (.slice none 0 0)) (b + 1 + 1) 36 #[.int .i64 0, .int .i64 0, .int .i64 0, .int .u32 0, .slice none 0 0] ∧ Fr (fun _ => False) w (set5 w1 (b + 1 + 1) (.int .i64 0) (.int .i64 0) (.int .i64 0) (.int .u32 0) (.slice none 0 0))) :=
              Lib.hid ⟨L3.out.set5 .., Fr.set5 F1.out (fun h => by have := HB.out; omega) ..⟩
            have z0 := L3.out.cell 0
            have z1 := L3.out.cell 1
            have z2 := L3.out.cell 2
            have z3 := L3.out.cell 3
            have z4 := L3.out.cell 4
            have zf0 := L3.out.frozen 0
            have zf1 := L3.out.frozen 1
            have zf2 := L3.out.frozen 2
            have zf3 := L3.out.frozen 3
            have zf4 := L3.out.frozen 4
            go_wp2
            change bodyPost _ _ _ _ _ (set5 w1 (b + 1 + 1) (.int .i64 0) (.int .i64 0) (.int .i64 0) (.int .u32 0) (.slice none 0 0))
            have G2' := G2.out
            generalize set5 w1 (b + 1 + 1) (.int .i64 0) (.int .i64 0) (.int .i64 0) (.int .u32 0) (.slice none 0 0) = w5 at *
            have q0 := G2'.1.cell 0
            have q1 := G2'.1.cell 1
            have q2 := G2'.1.cell 2
            have q3 := G2'.1.cell 3
            have q4 := G2'.1.cell 4
            refine bodyPost_ret (v := .tuple #[.agg #[.int .i64 0, .int .i64 0, .int .i64 0, .int .u32 0, .slice none 0 0], .int .i64 6]) (by simp [results, Tryd.results33, go_sem, q0, q1, q2, q3, q4]) rfl ⟨rfl, G2'.2⟩
          · have HE : Hid (s.addE p = 8) := Lib.hid (BSt.addE_8 hmay h2 (.inr h4))
            rw [HE.out]
            have d1 : decide (p.id < s.id) = false := decide_eq_false (by omega)
            have d2 : decide (s.id < p.id) = false := decide_eq_false (by omega)
            have d3 : (p.total != s.total) = false := by rw [bne_eq_false_iff_eq]; omega
            have d4 : ((p.sum : Int) != (s.sum : Int)) = true := by rw [bne_iff_ne]; omega
            clear h1 h2 h3 h4
            obtain ⟨sid, stot, ssum, sxs⟩ := s
            obtain ⟨pid, pat, ptot, psum, pxs⟩ := p
            unfold BSt.v Pc.v
            simp only at *
            obtain ⟨b, hb⟩ : ∃ b, w.heap.size = b := ⟨_, rfl⟩
            obtain ⟨W, hW⟩ : ∃ W, ((w.alloc (.cells #[.int .i64 sid, .int .i64 0, .int .i64 stot, .int .u32 ssum, .slice A n c] 36)).alloc (.cells #[.int .i64 pid, .int .i64 pat, .int .i64 ptot, .int .u32 psum, .slice D m k] 36)).alloc (.cells #[.int .i64 0, .int .i64 0, .int .i64 0, .int .u32 0, .slice none 0 0] 36) = W := ⟨_, rfl⟩
            have K1 : Hid (Bk W b 36 #[.int .i64 sid, .int .i64 0, .int .i64 stot, .int .u32 ssum, .slice A n c]) := Lib.hid (by
              rw [← hW, ← hb]
              exact ((Bk.new w _ _).alloc _).alloc _)
            have K2 : Hid (Bk W (b + 1) 36 #[.int .i64 pid, .int .i64 pat, .int .i64 ptot, .int .u32 psum, .slice D m k]) := Lib.hid (by
              rw [← hW, ← hb]
              have := (Bk.new (w.alloc (.cells #[.int .i64 sid, .int .i64 0, .int .i64 stot, .int .u32 ssum, .slice A n c] 36)) 36 #[.int .i64 pid, .int .i64 pat, .int .i64 ptot, .int .u32 psum, .slice D m k]).alloc (.cells #[.int .i64 0, .int .i64 0, .int .i64 0, .int .u32 0, .slice none 0 0] 36)
              simpa using this)
            have K3 : Hid (Bk W (b + 1 + 1) 36 #[.int .i64 0, .int .i64 0, .int .i64 0, .int .u32 0, .slice none 0 0]) := Lib.hid (by
              rw [← hW, ← hb]
              have := Bk.new ((w.alloc (.cells #[.int .i64 sid, .int .i64 0, .int .i64 stot, .int .u32 ssum, .slice A n c] 36)).alloc (.cells #[.int .i64 pid, .int .i64 pat, .int .i64 ptot, .int .u32 psum, .slice D m k] 36)) 36 #[.int .i64 0, .int .i64 0, .int .i64 0, .int .u32 0, .slice none 0 0]
              simpa using this)
            have FW : Hid (Fr (fun _ => False) w W) := Lib.hid (by rw [← hW]; exact (((Fr.refl _ _).alloc _).alloc _).alloc _)
            have HB := Lib.hid hb
            clear hE hmay hmay0 hn hm HE
            go_enter Tryd.func33, Tryd.ntmps33
            have p0 := K2.out.cell 0
            have p1 := K2.out.cell 1
            have p2 := K2.out.cell 2
            have p3 := K2.out.cell 3
            have p4 := K2.out.cell 4
            go_wp2_with fail
            clear p0 p1 p2 p3 p4
            refine (CM.out _).mono ?_; rintro e w1 ⟨rfl, hf1⟩
            have F1 := Lib.hid (FW.out.trans hf1 (fun _ _ h => h))
            have L1 := Lib.hid (K1.out.fr hf1 (fun h => h))
            have L2 := Lib.hid (K2.out.fr hf1 (fun h => h))
            have L3 := Lib.hid (K3.out.fr hf1 (fun h => h))
            clear hf1 K1 K2 K3 FW hW hb CM
            have a0 := L1.out.cell 0
            have a2 := L1.out.cell 2
            have a3 := L1.out.cell 3
            have a4 := L1.out.cell 4
            have p0 := L2.out.cell 0
            have p1 := L2.out.cell 1
            have p2 := L2.out.cell 2
            have p3 := L2.out.cell 3
            have p4 := L2.out.cell 4
            have G2 : Hid (Bk (set5 w1 (b + 1 + 1) (.int .i64 0) (.int .i64 0) (.int .i64 0) (.int .u32 0) (.slice none 0 0)) (b + 1 + 1) 36 #[.int .i64 0, .int .i64 0, .int .i64 0, .int .u32 0, .slice none 0 0] ∧ Fr (fun _ => False) w (set5 w1 (b + 1 + 1) (.int .i64 0) (.int .i64 0) (.int .i64 0) (.int .u32 0) (.slice none 0 0))) :=
              Lib.hid ⟨L3.out.set5 .., Fr.set5 F1.out (fun h => by have := HB.out; omega) ..⟩
            have z0 := L3.out.cell 0
            have z1 := L3.out.cell 1
            have z2 := L3.out.cell 2
            have z3 := L3.out.cell 3
            have z4 := L3.out.cell 4
            have zf0 := L3.out.frozen 0
            have zf1 := L3.out.frozen 1
            have zf2 := L3.out.frozen 2
            have zf3 := L3.out.frozen 3
            have zf4 := L3.out.frozen 4
            go_wp2
            change bodyPost _ _ _ _ _ (set5 w1 (b + 1 + 1) (.int .i64 0) (.int .i64 0) (.int .i64 0) (.int .u32 0) (.slice none 0 0))
            have G2' := G2.out
            generalize set5 w1 (b + 1 + 1) (.int .i64 0) (.int .i64 0) (.int .i64 0) (.int .u32 0) (.slice none 0 0) = w5 at *
            have q0 := G2'.1.cell 0
            have q1 := G2'.1.cell 1
            have q2 := G2'.1.cell 2
            have q3 := G2'.1.cell 3
            have q4 := G2'.1.cell 4
            refine bodyPost_ret (v := .tuple #[.agg #[.int .i64 0, .int .i64 0, .int .i64 0, .int .u32 0, .slice none 0 0], .int .i64 8]) (by simp [results, Tryd.results33, go_sem, q0, q1, q2, q3, q4]) rfl ⟨rfl, G2'.2⟩
        · have HE : Hid (s.addE p = 8) := Lib.hid (BSt.addE_8 hmay h2 (.inl h3))
          rw [HE.out]
          have d1 : decide (p.id < s.id) = false := decide_eq_false (by omega)
          have d2 : decide (s.id < p.id) = false := decide_eq_false (by omega)
          have d3 : (p.total != s.total) = true := by rw [bne_iff_ne]; exact h3
          clear h1 h2 h3
          obtain ⟨sid, stot, ssum, sxs⟩ := s
          obtain ⟨pid, pat, ptot, psum, pxs⟩ := p
          unfold BSt.v Pc.v
          simp only at *
          obtain ⟨b, hb⟩ : ∃ b, w.heap.size = b := ⟨_, rfl⟩
          obtain ⟨W, hW⟩ : ∃ W, ((w.alloc (.cells #[.int .i64 sid, .int .i64 0, .int .i64 stot, .int .u32 ssum, .slice A n c] 36)).alloc (.cells #[.int .i64 pid, .int .i64 pat, .int .i64 ptot, .int .u32 psum, .slice D m k] 36)).alloc (.cells #[.int .i64 0, .int .i64 0, .int .i64 0, .int .u32 0, .slice none 0 0] 36) = W := ⟨_, rfl⟩
          have K1 : Hid (Bk W b 36 #[.int .i64 sid, .int .i64 0, .int .i64 stot, .int .u32 ssum, .slice A n c]) := Lib.hid (by
            rw [← hW, ← hb]
            exact ((Bk.new w _ _).alloc _).alloc _)
          have K2 : Hid (Bk W (b + 1) 36 #[.int .i64 pid, .int .i64 pat, .int .i64 ptot, .int .u32 psum, .slice D m k]) := Lib.hid (by
            rw [← hW, ← hb]
            have := (Bk.new (w.alloc (.cells #[.int .i64 sid, .int .i64 0, .int .i64 stot, .int .u32 ssum, .slice A n c] 36)) 36 #[.int .i64 pid, .int .i64 pat, .int .i64 ptot, .int .u32 psum, .slice D m k]).alloc (.cells #[.int .i64 0, .int .i64 0, .int .i64 0, .int .u32 0, .slice none 0 0] 36)
            simpa using this)
          have K3 : Hid (Bk W (b + 1 + 1) 36 #[.int .i64 0, .int .i64 0, .int .i64 0, .int .u32 0, .slice none 0 0]) := Lib.hid (by
            rw [← hW, ← hb]
            have := Bk.new ((w.alloc (.cells #[.int .i64 sid, .int .i64 0, .int .i64 stot, .int .u32 ssum, .slice A n c] 36)).alloc (.cells #[.int .i64 pid, .int .i64 pat, .int .i64 ptot, .int .u32 psum, .slice D m k] 36)) 36 #[.int .i64 0, .int .i64 0, .int .i64 0, .int .u32 0, .slice none 0 0]
            simpa using this)
          have FW : Hid (Fr (fun _ => False) w W) := Lib.hid (by rw [← hW]; exact (((Fr.refl _ _).alloc _).alloc _).alloc _)
          have HB := Lib.hid hb
          clear hE hmay hmay0 hn hm HE
          go_enter Tryd.func33, Tryd.ntmps33
          have p0 := K2.out.cell 0
          have p1 := K2.out.cell 1
          have p2 := K2.out.cell 2
          have p3 := K2.out.cell 3
          have p4 := K2.out.cell 4
          go_wp2_with fail
          clear p0 p1 p2 p3 p4
          refine (CM.out _).mono ?_; rintro e w1 ⟨rfl, hf1⟩
          have F1 := Lib.hid (FW.out.trans hf1 (fun _ _ h => h))
          have L1 := Lib.hid (K1.out.fr hf1 (fun h => h))
          have L2 := Lib.hid (K2.out.fr hf1 (fun h => h))
          have L3 := Lib.hid (K3.out.fr hf1 (fun h => h))
          clear hf1 K1 K2 K3 FW hW hb CM
          have a0 := L1.out.cell 0
          have a2 := L1.out.cell 2
          have a3 := L1.out.cell 3
          have a4 := L1.out.cell 4
          have p0 := L2.out.cell 0
          have p1 := L2.out.cell 1
          have p2 := L2.out.cell 2
          have p3 := L2.out.cell 3
          have p4 := L2.out.cell 4
          have G2 : Hid (Bk (set5 w1 (b + 1 + 1) (.int .i64 0) (.int .i64 0) (.int .i64 0) (.int .u32 0) (.slice none 0 0)) (b + 1 + 1) 36 #[.int .i64 0, .int .i64 0, .int .i64 0, .int .u32 0, .slice none 0 0] ∧ Fr (fun _ => False) w (set5 w1 (b + 1 + 1) (.int .i64 0) (.int .i64 0) (.int .i64 0) (.int .u32 0) (.slice none 0 0))) :=
            Lib.hid ⟨L3.out.set5 .., Fr.set5 F1.out (fun h => by have := HB.out; omega) ..⟩
          have z0 := L3.out.cell 0
          have z1 := L3.out.cell 1
          have z2 := L3.out.cell 2
          have z3 := L3.out.cell 3
          have z4 := L3.out.cell 4
          have zf0 := L3.out.frozen 0
          have zf1 := L3.out.frozen 1
          have zf2 := L3.out.frozen 2
          have zf3 := L3.out.frozen 3
          have zf4 := L3.out.frozen 4
          go_wp2
          change bodyPost _ _ _ _ _ (set5 w1 (b + 1 + 1) (.int .i64 0) (.int .i64 0) (.int .i64 0) (.int .u32 0) (.slice none 0 0))
          have G2' := G2.out
          generalize set5 w1 (b + 1 + 1) (.int .i64 0) (.int .i64 0) (.int .i64 0) (.int .u32 0) (.slice none 0 0) = w5 at *
          have q0 := G2'.1.cell 0
          have q1 := G2'.1.cell 1
          have q2 := G2'.1.cell 2
          have q3 := G2'.1.cell 3
          have q4 := G2'.1.cell 4
          refine bodyPost_ret (v := .tuple #[.agg #[.int .i64 0, .int .i64 0, .int .i64 0, .int .u32 0, .slice none 0 0], .int .i64 8]) (by simp [results, Tryd.results33, go_sem, q0, q1, q2, q3, q4]) rfl ⟨rfl, G2'.2⟩
  · have HE : Hid (s.addE p = 1) := Lib.hid (BSt.addE_1 hmay)
    rw [HE.out]
    rw [decide_eq_false hmay] at CM
    obtain ⟨sid, stot, ssum, sxs⟩ := s
    obtain ⟨pid, pat, ptot, psum, pxs⟩ := p
    unfold BSt.v Pc.v
    simp only at *
    obtain ⟨b, hb⟩ : ∃ b, w.heap.size = b := ⟨_, rfl⟩
    obtain ⟨W, hW⟩ : ∃ W, ((w.alloc (.cells #[.int .i64 sid, .int .i64 0, .int .i64 stot, .int .u32 ssum, .slice A n c] 36)).alloc (.cells #[.int .i64 pid, .int .i64 pat, .int .i64 ptot, .int .u32 psum, .slice D m k] 36)).alloc (.cells #[.int .i64 0, .int .i64 0, .int .i64 0, .int .u32 0, .slice none 0 0] 36) = W := ⟨_, rfl⟩
    have K1 : Hid (Bk W b 36 #[.int .i64 sid, .int .i64 0, .int .i64 stot, .int .u32 ssum, .slice A n c]) := Lib.hid (by
      rw [← hW, ← hb]
      exact ((Bk.new w _ _).alloc _).alloc _)
    have K2 : Hid (Bk W (b + 1) 36 #[.int .i64 pid, .int .i64 pat, .int .i64 ptot, .int .u32 psum, .slice D m k]) := Lib.hid (by
      rw [← hW, ← hb]
      have := (Bk.new (w.alloc (.cells #[.int .i64 sid, .int .i64 0, .int .i64 stot, .int .u32 ssum, .slice A n c] 36)) 36 #[.int .i64 pid, .int .i64 pat, .int .i64 ptot, .int .u32 psum, .slice D m k]).alloc (.cells #[.int .i64 0, .int .i64 0, .int .i64 0, .int .u32 0, .slice none 0 0] 36)
      simpa using this)
    have K3 : Hid (Bk W (b + 1 + 1) 36 #[.int .i64 0, .int .i64 0, .int .i64 0, .int .u32 0, .slice none 0 0]) := Lib.hid (by
      rw [← hW, ← hb]
      have := Bk.new ((w.alloc (.cells #[.int .i64 sid, .int .i64 0, .int .i64 stot, .int .u32 ssum, .slice A n c] 36)).alloc (.cells #[.int .i64 pid, .int .i64 pat, .int .i64 ptot, .int .u32 psum, .slice D m k] 36)) 36 #[.int .i64 0, .int .i64 0, .int .i64 0, .int .u32 0, .slice none 0 0]
      simpa using this)
    have FW : Hid (Fr (fun _ => False) w W) := Lib.hid (by rw [← hW]; exact (((Fr.refl _ _).alloc _).alloc _).alloc _)
    have HB := Lib.hid hb
    clear hE hmay hn hm HE
    go_enter Tryd.func33, Tryd.ntmps33
    have p0 := K2.out.cell 0
    have p1 := K2.out.cell 1
    have p2 := K2.out.cell 2
    have p3 := K2.out.cell 3
    have p4 := K2.out.cell 4
    go_wp2_with fail
    clear p0 p1 p2 p3 p4
    refine (CM.out _).mono ?_; rintro e w1 ⟨rfl, hf1⟩
    have F1 := Lib.hid (FW.out.trans hf1 (fun _ _ h => h))
    have L1 := Lib.hid (K1.out.fr hf1 (fun h => h))
    have L2 := Lib.hid (K2.out.fr hf1 (fun h => h))
    have L3 := Lib.hid (K3.out.fr hf1 (fun h => h))
    clear hf1 K1 K2 K3 FW hW hb CM
    have G2 : Hid (Bk (set5 w1 (b + 1 + 1) (.int .i64 0) (.int .i64 0) (.int .i64 0) (.int .u32 0) (.slice none 0 0)) (b + 1 + 1) 36 #[.int .i64 0, .int .i64 0, .int .i64 0, .int .u32 0, .slice none 0 0] ∧ Fr (fun _ => False) w (set5 w1 (b + 1 + 1) (.int .i64 0) (.int .i64 0) (.int .i64 0) (.int .u32 0) (.slice none 0 0))) :=
      Lib.hid ⟨L3.out.set5 .., Fr.set5 F1.out (fun h => by have := HB.out; omega) ..⟩
    have z0 := L3.out.cell 0
    have z1 := L3.out.cell 1
    have z2 := L3.out.cell 2
    have z3 := L3.out.cell 3
    have z4 := L3.out.cell 4
    have zf0 := L3.out.frozen 0
    have zf1 := L3.out.frozen 1
    have zf2 := L3.out.frozen 2
    have zf3 := L3.out.frozen 3
    have zf4 := L3.out.frozen 4
    go_wp2
    change bodyPost _ _ _ _ _ (set5 w1 (b + 1 + 1) (.int .i64 0) (.int .i64 0) (.int .i64 0) (.int .u32 0) (.slice none 0 0))
    have G2' := G2.out
    generalize set5 w1 (b + 1 + 1) (.int .i64 0) (.int .i64 0) (.int .i64 0) (.int .u32 0) (.slice none 0 0) = w5 at *
    have q0 := G2'.1.cell 0
    have q1 := G2'.1.cell 1
    have q2 := G2'.1.cell 2
    have q3 := G2'.1.cell 3
    have q4 := G2'.1.cell 4
    refine bodyPost_ret (v := .tuple #[.agg #[.int .i64 0, .int .i64 0, .int .i64 0, .int .u32 0, .slice none 0 0], .int .i64 1]) (by simp [results, Tryd.results33, go_sem, q0, q1, q2, q3, q4]) rfl ⟨rfl, G2'.2⟩
end Go.Proofs.YtacafjbbdklleaaDoor
