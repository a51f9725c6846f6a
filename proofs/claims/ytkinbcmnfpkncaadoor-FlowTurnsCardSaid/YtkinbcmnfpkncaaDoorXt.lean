/- flow: a task that is missed, faulty or stale. -/
import Derived.Test.YtkinbcmnfpkncaaDoorXr
namespace Go.Proofs.YtkinbcmnfpkncaaDoor
open Go.RowKit Go.Maps

set_option maxRecDepth 100000 in
set_option maxHeartbeats 8000000 in
theorem miss_any {w : World} {g bm : Nat} {A : Option Addr} {n c : Nat} {ps : List VL} {D : DV} {s : FS} (h : FlM w g A n c ps (some bm) D s) (hd : Hd) (t : Int) (h0 : 0 < n) (ht : s.taskAt hd.ref hd.turn = (t, s.beg)) (hb0 : s.beg ≠ 0) (hnow : 0 ≤ hd.now ∧ hd.now ≤ 1099511627776) (hn : n + 2 ≤ 4096) :
    Calls Tryd.prog 52 #[.pointer (some ⟨g, 0, none⟩), .agg hd.cells] w (LayPost w g bm A n c ps s hd.now (s.vain 5 0)) := by
  obtain ⟨g2, hg2⟩ : ∃ g2, w.heap.size = g2 := ⟨_, rfl⟩
  obtain ⟨W, hW⟩ : ∃ W, w.alloc (.cells hd.cells 67) = W := ⟨_, rfl⟩
  have HF : Hid (Fr (fun _ => False) w W) := Lib.hid (by rw [← hW]; exact (Fr.refl _ _).alloc _)
  have HB : Hid (Bk W g2 67 hd.cells) := Lib.hid (by rw [← hW, ← hg2]; exact Bk.new _ _ _)
  have HFL := Lib.hid (fun w' (hf : Fr (fun _ => False) W w') => h.fr (HF.out.trans hf (fun _ _ h => h)) (fun _ _ h => h))
  have HAF := Lib.hid (fun k (hk : AF g bm (.slice A n c) k) => AF.lt h hk)
  have CT := Lib.hid (fun w' (hf : Fr (fun _ => False) W w') => taskAt_any (HFL.out w' hf) hd.ref hd.turn)
  rw [ht] at CT
  have CL : Hid (∀ w', Fr (fun _ => False) W w' → Calls Tryd.prog 90 #[.pointer (some ⟨g, 0, none⟩), .int .i64 hd.now, .agg #[.int .i64 5, .int .i64 0, .int .i64 0, .int .i64 0, .int .i64 0, .int .i64 0, .slice none 0 0]] w' (LayPost w g bm A n c ps s hd.now (s.vain 5 0))) := Lib.hid (fun w' hf => (anew_any (HFL.out w' hf) h0 hd.now hnow 5 0 (by decide) (by decide) (i64c 5 (by decide) (by decide)) ⟨by omega, by omega⟩ hn).mono (fun e w9 hp => hp.back (HF.out.trans hf (fun _ _ h => h))))
  have hbz : (s.beg == 0) = false := by rw [beq_eq_false_iff_ne]; exact hb0
  have hfld : ∀ (a b : Int) (w : World), (Instr.field 71 (.agg #[.int .i64 a, .int .i64 b]) 1).run Tryd.prog w = .ok (.int .i64 b) w := fun _ _ _ => by kernel_rfl
  clear h h0 ht hb0 hnow hn HFL HAF
  obtain ⟨ref, turn, id, st, dA, dn, dc, lA, ln, lc, now⟩ := hd
  unfold Hd.cells at *
  simp only at *
  have HC : Hid (∀ w', Fr (fun _ => False) W w' → w'.cell? ⟨g2, 0, none⟩ = some (.int .i64 ref) ∧ w'.cell? ⟨g2, 1, none⟩ = some (.int .i64 turn) ∧ w'.cell? ⟨g2, 6, none⟩ = some (.int .i64 now)) := Lib.hid (fun w' hf => by
    have hb := HB.out.fr hf (fun h => h)
    exact ⟨hb.cell 0, hb.cell 1, hb.cell 6⟩)
  obtain ⟨q0, q1, q6⟩ := HC.out W (Fr.refl _ _)
  go_enter Tryd.func52, Tryd.ntmps52
  go_wp2_with fail
  clear hW hg2 q0 q1 q6
  refine (CT.out _ (Fr.refl _ _)).mono ?_; rintro e w1 ⟨rfl, hf1⟩
  have HF2 := Lib.hid hf1
  obtain ⟨q0, q1, q6⟩ := HC.out w1 HF2.out
  clear hf1 CT
  go_wp2_with fail
  refine (CL.out _ HF2.out).mono ?_; rintro e w9 hp
  obtain ⟨v, u, rfl⟩ := hp.two
  clear q0 q1 q6
  go_wp2
  go_ret2
  exact hp
set_option maxRecDepth 100000 in
set_option maxHeartbeats 8000000 in
theorem fire_late {w : World} {g bm : Nat} {A : Option Addr} {n c : Nat} {ps : List VL} {D : DV} {s : FS} (h : FlM w g A n c ps (some bm) D s) (h0 : 0 < n) (ref turn now t : Int) (ht : s.taskAt ref turn = (t, s.beg)) (hb0 : s.beg ≠ 0) (hnow : 0 ≤ now ∧ now ≤ 1099511627776) (hl : (s.L.getD (n - 1) default).a ≤ now) (hst : statL s.L = 1) (hn : n + 2 ≤ 4096) :
    Calls Tryd.prog 17 #[.pointer (some ⟨g, 0, none⟩), .int .i64 3, .int .i64 ref, .int .i64 turn, .int .i64 now] w (LayPost w g bm A n c ps s now (s.vain 5 0)) := by
  have hmf : ∀ (fn : Fn) (first cap : Array Value) (w : World), (Instr.makeFunc fn first cap).run Tryd.prog w = .ok (.func fn first cap) w := fun _ _ _ _ => rfl
  have C := Lib.hid (do_ok h h0 52 ⟨ref, turn, 0, 0, none, 0, 0, none, 0, 0, now⟩ (by unfold Hd.fits; simp only [Bool.and_eq_true, decide_eq_true_eq]; omega) hl hst (fun _ _ => by kernel_rfl) (Q := LayPost w g bm A n c ps s now (s.vain 5 0)) (fun w' hf => (miss_any (h.fr hf (fun _ _ h => h)) ⟨ref, turn, 0, 0, none, 0, 0, none, 0, 0, now⟩ t h0 ht hb0 hnow hn).mono (fun e w9 hp => ⟨hp.two, hp.back hf⟩)))
  unfold Hd.cells at C
  simp only at C
  clear h h0 ht hb0 hnow hl hst hn
  go_enter Tryd.func17, Tryd.ntmps17
  go_wp2_with fail
  refine C.out.mono ?_; rintro e w9 hp
  obtain ⟨v, u, rfl⟩ := hp.two
  go_wp2
  go_ret2
  exact hp
set_option maxRecDepth 100000 in
set_option maxHeartbeats 8000000 in
theorem beginTask_stale {w : World} {g bm : Nat} {A : Option Addr} {n c : Nat} {ps : List VL} {D : DV} {s : FS} (h : FlM w g A n c ps (some bm) D s) (hd : Hd) (t : Int) (b : Int) (ht : s.taskAt hd.ref hd.turn = (t, b)) (ht0 : t = 0 ∨ b ≠ 0) :
    Calls Tryd.prog 50 #[.pointer (some ⟨g, 0, none⟩), .agg hd.cells] w fun e w9 => e = .returned (.tuple #[.slice none 0 0, .int .i64 21]) ∧ Fr (fun _ => False) w w9 := by
  obtain ⟨g2, hg2⟩ : ∃ g2, w.heap.size = g2 := ⟨_, rfl⟩
  obtain ⟨W, hW⟩ : ∃ W, w.alloc (.cells hd.cells 67) = W := ⟨_, rfl⟩
  have HF : Hid (Fr (fun _ => False) w W) := Lib.hid (by rw [← hW]; exact (Fr.refl _ _).alloc _)
  have HB : Hid (Bk W g2 67 hd.cells) := Lib.hid (by rw [← hW, ← hg2]; exact Bk.new _ _ _)
  have HFL := Lib.hid (fun w' (hf : Fr (fun _ => False) W w') => h.fr (HF.out.trans hf (fun _ _ h => h)) (fun _ _ h => h))
  have HAF := Lib.hid (fun k (hk : AF g bm (.slice A n c) k) => AF.lt h hk)
  have CT := Lib.hid (fun w' (hf : Fr (fun _ => False) W w') => taskAt_any (HFL.out w' hf) hd.ref hd.turn)
  rw [ht] at CT
  have CW := Lib.hid (fun w' => waits_any t b w')
  have ht1 : (t != 0 && b == 0) = false := by
    rcases ht0 with e | e
    · subst e; rfl
    · rw [show (b == 0) = false by rw [beq_eq_false_iff_ne]; exact e, Bool.and_false]
  rw [ht1] at CW
  clear h ht ht0 ht1 HFL HAF
  obtain ⟨ref, turn, id, st, dA, dn, dc, lA, ln, lc, now⟩ := hd
  unfold Hd.cells at *
  simp only at *
  have HC : Hid (∀ w', Fr (fun _ => False) W w' → w'.cell? ⟨g2, 0, none⟩ = some (.int .i64 ref) ∧ w'.cell? ⟨g2, 1, none⟩ = some (.int .i64 turn) ∧ w'.cell? ⟨g2, 6, none⟩ = some (.int .i64 now)) := Lib.hid (fun w' hf => by
    have hb := HB.out.fr hf (fun h => h)
    exact ⟨hb.cell 0, hb.cell 1, hb.cell 6⟩)
  obtain ⟨q0, q1, q6⟩ := HC.out W (Fr.refl _ _)
  go_enter Tryd.func50, Tryd.ntmps50
  go_wp2_with fail
  clear hW hg2 q0 q1 q6
  refine (CT.out _ (Fr.refl _ _)).mono ?_; rintro e w1 ⟨rfl, hf1⟩
  go_wp2_with fail
  refine (CW.out _).mono ?_; rintro e w2 ⟨rfl, hf2⟩
  have HF2 := Lib.hid (hf1.trans hf2 (fun _ _ h => h))
  obtain ⟨q0, q1, q6⟩ := HC.out w2 HF2.out
  clear hf1 hf2 CT CW q0 q1 q6
  go_wp2
  go_ret2
  exact ⟨rfl, HF.out.trans HF2.out (fun _ _ h => h)⟩
set_option maxRecDepth 100000 in
set_option maxHeartbeats 8000000 in
theorem decides_stale {w : World} {g bm : Nat} {A : Option Addr} {n c : Nat} {ps : List VL} {D : DV} {s : FS} (h : FlM w g A n c ps (some bm) D s) (h0 : 0 < n) (ref turn now t b : Int) (ht : s.taskAt ref turn = (t, b)) (ht0 : t = 0 ∨ b ≠ 0) (hnow : 0 ≤ now ∧ now ≤ 1099511627776) (hl : (s.L.getD (n - 1) default).a ≤ now) (hst : statL s.L = 1) :
    Calls Tryd.prog 15 #[.pointer (some ⟨g, 0, none⟩), .int .i64 ref, .int .i64 turn, .int .i64 now] w fun e w9 => e = .returned (.tuple #[.slice none 0 0, .int .i64 21]) ∧ Fr (fun _ => False) w w9 := by
  have hmf : ∀ (fn : Fn) (first cap : Array Value) (w : World), (Instr.makeFunc fn first cap).run Tryd.prog w = .ok (.func fn first cap) w := fun _ _ _ _ => rfl
  have C := Lib.hid (do_ok h h0 50 ⟨ref, turn, 0, 0, none, 0, 0, none, 0, 0, now⟩ (by unfold Hd.fits; simp only [Bool.and_eq_true, decide_eq_true_eq]; omega) hl hst (fun _ _ => by kernel_rfl) (Q := fun e w9 => e = .returned (.tuple #[.slice none 0 0, .int .i64 21]) ∧ Fr (fun _ => False) w w9) (fun w' hf => (beginTask_stale (h.fr hf (fun _ _ h => h)) ⟨ref, turn, 0, 0, none, 0, 0, none, 0, 0, now⟩ t b ht ht0).mono (fun e w9 hp => ⟨⟨_, _, hp.1⟩, hp.1, hf.trans hp.2 (fun _ _ h => h)⟩)))
  unfold Hd.cells at C
  simp only at C
  clear h h0 ht ht0 hnow hl hst
  go_enter Tryd.func15, Tryd.ntmps15
  go_wp2_with fail
  refine C.out.mono ?_; rintro e w9 ⟨rfl, hf9⟩
  have HF9 := Lib.hid hf9
  clear hf9
  go_wp2
  go_ret2
  exact ⟨rfl, HF9.out⟩
end Go.Proofs.YtkinbcmnfpkncaaDoor
