/- flow: a decision that may not be. -/
import Derived.Test.YtkinbcmnfpkncaaDoorXt
namespace Go.Proofs.YtkinbcmnfpkncaaDoor
open Go.RowKit Go.Maps

set_option maxRecDepth 100000 in
set_option maxHeartbeats 8000000 in
theorem takesAll_bad {w : World} {gd g gm : Nat} {A : Option Addr} {n c : Nat} {ps : List VL} {G : Nat → Prop} (h : Dr w gd g gm A n c ps G) (h0 : 0 < n) (hn : n ≤ 1048576) (hlast : closesK (ps.getD (n - 1) default).e.k = false) (x : DL) (hmay : x.may = false) (bx ox lc : Nat) (hc : ∀ j u, x.cells[j]? = some u → w.cell? ⟨bx, ox + j, none⟩ = some u) :
    Calls Tryd.prog 94 #[.pointer (some ⟨gd, 0, none⟩), .slice (some ⟨bx, ox, none⟩) 1 lc] w fun e w' => e = .returned (.bool false) ∧ Fr (fun _ => False) w w' := by
  obtain ⟨g6, hg6⟩ : ∃ g6, w.heap.size = g6 := ⟨_, rfl⟩
  obtain ⟨W, hW⟩ : ∃ W, w.alloc (.cells x.cells 59) = W := ⟨_, rfl⟩
  have HF : Hid (Fr (fun _ => False) w W) := Lib.hid (by rw [← hW]; exact (Fr.refl _ _).alloc _)
  have HB : Hid (Bk W g6 59 x.cells) := Lib.hid (by rw [← hW, ← hg6]; exact Bk.new _ _ _)
  have HD := Lib.hid (h.fr0 HF.out)
  have CC := Lib.hid (closesD_any HD.out h0 hn)
  rw [hlast] at CC
  have CM := Lib.hid (fun w' => may_any x w')
  rw [hmay] at CM
  clear h h0 hn hlast hmay HD
  obtain ⟨k, i, l, m, dA, dl, dc⟩ := x
  unfold DL.cells at *
  simp only at *
  have q0 : w.cell? ⟨bx, ox, none⟩ = some (.int .i64 k) := hc 0 _ rfl
  have q1 : w.cell? ⟨bx, ox + 1, none⟩ = some (.int .i64 i) := hc 1 _ rfl
  have q2 : w.cell? ⟨bx, ox + 2, none⟩ = some (.int .i64 l) := hc 2 _ rfl
  have q3 : w.cell? ⟨bx, ox + 3, none⟩ = some (.int .i64 m) := hc 3 _ rfl
  have q4 : w.cell? ⟨bx, ox + 4, none⟩ = some (.slice dA dl dc) := hc 4 _ rfl
  have hbx := World.block_lt_of_cell? w _ q0
  have HQ : Hid (∀ w', Fr (fun _ => False) W w' → w'.cell? ⟨g6, 0, none⟩ = some (.int .i64 k) ∧ w'.cell? ⟨g6, 1, none⟩ = some (.int .i64 i) ∧ w'.cell? ⟨g6, 2, none⟩ = some (.int .i64 l) ∧ w'.cell? ⟨g6, 3, none⟩ = some (.int .i64 m) ∧ w'.cell? ⟨g6, 4, none⟩ = some (.slice dA dl dc)) := Lib.hid (fun w' hf => by
    have hb := HB.out.fr hf (fun h => h)
    exact ⟨hb.cell 0, hb.cell 1, hb.cell 2, hb.cell 3, hb.cell 4⟩)
  have hHW := Lib.hid hW
  have hHG := Lib.hid hg6
  clear hc HB hW hg6
  go_enter Tryd.func94, Tryd.ntmps94
  go_wp2_with fail
  go_loopw [12] (fun v wr => v = .int .i64 0 ∧ w = wr) (fun v _ => 0)
  case atStart => exact ⟨rfl, rfl⟩
  case round =>
    obtain ⟨rfl, rfl⟩ := hrel
    have hW := hHW.out
    have hg6 := hHG.out
    go_wp2_with fail
    clear hW hg6 q0 q1 q2 q3 q4 hbx
    refine CC.out.mono ?_; rintro e w1 ⟨rfl, hf1⟩
    have HF1 := Lib.hid hf1
    obtain ⟨q0, q1, q2, q3, q4⟩ := HQ.out w1 hf1
    clear hf1 CC
    go_wp2_with fail
    clear q0 q1 q2 q3 q4
    refine (CM.out _).mono ?_; rintro e w2 ⟨rfl, hf2⟩
    have HF2 := Lib.hid (HF1.out.trans hf2 (fun _ _ h => h))
    clear hf2 CM
    go_wp2
    go_ret
    exact ⟨rfl, HF.out.trans HF2.out (fun _ _ h => h)⟩
set_option maxRecDepth 100000 in
set_option maxHeartbeats 8000000 in
theorem decide_bad {w : World} {g bm : Nat} {A : Option Addr} {n c : Nat} {ps : List VL} {D : DV} {s : FS} (h : FlM w g A n c ps (some bm) D s) (h0 : 0 < n) (hda : Hd) (t : Int) (ht : s.taskAt hda.ref hda.turn = (t, s.beg)) (hb0 : s.beg ≠ 0) (hnow : 0 ≤ hda.now ∧ hda.now ≤ 1099511627776) (hn : n + 2 ≤ 4096) (x : DL) (hmay : x.may = false) (bx ox : Nat) (hl1 : hda.lA = some ⟨bx, ox, none⟩ ∧ hda.ln = 1) (hc : ∀ j u, x.cells[j]? = some u → w.cell? ⟨bx, ox + j, none⟩ = some u) :
    Calls Tryd.prog 69 #[.pointer (some ⟨g, 0, none⟩), .agg hda.cells] w (CallPost w g bm A n c ps (n + 2) (s.lay hda.now (s.vain 6 1)).1 (s.lay hda.now (s.vain 6 1)).2 22) := by
  obtain ⟨g2, hg2⟩ : ∃ g2, w.heap.size = g2 := ⟨_, rfl⟩
  obtain ⟨W, hW⟩ : ∃ W, w.alloc (.cells hda.cells 67) = W := ⟨_, rfl⟩
  have HF : Hid (Fr (fun _ => False) w W) := Lib.hid (by rw [← hW]; exact (Fr.refl _ _).alloc _)
  have HB : Hid (Bk W g2 67 hda.cells) := Lib.hid (by rw [← hW, ← hg2]; exact Bk.new _ _ _)
  have HFL := Lib.hid (fun w' (hf : Fr (fun _ => False) W w') => h.fr (HF.out.trans hf (fun _ _ h => h)) (fun _ _ h => h))
  have HAF := Lib.hid (fun k (hk : AF g bm (.slice A n c) k) => AF.lt h hk)
  have CT := Lib.hid (fun w' (hf : Fr (fun _ => False) W w') => taskAt_any (HFL.out w' hf) hda.ref hda.turn)
  rw [ht] at CT
  have CN := Lib.hid (fun w' (hf : Fr (fun _ => False) W w') => newDraft_any (HFL.out w' hf) (fun _ => False))
  have CA : Hid (∀ w' gd gr gm, Fr (fun _ => False) W w' → Dr w' gd g gm (some ⟨gr, 0, none⟩) 1 1 [⟨evN 4 s.beg 0 0, none, 0⟩] (fun _ => False) → Calls Tryd.prog 94 #[.pointer (some ⟨gd, 0, none⟩), .slice hda.lA hda.ln hda.lc] w' fun e w9 => e = .returned (.bool false) ∧ Fr (fun _ => False) w' w9) := Lib.hid (fun w' gd gr gm hf hdr => by
    have hff := HF.out.trans hf (fun _ _ h => h)
    rw [hl1.1, hl1.2]
    exact takesAll_bad hdr (by omega) (by omega) rfl x hmay bx ox hda.lc (fun j u hu => (hff.cell (World.block_lt_of_cell? w _ (hc j u hu)) (fun h => h)).trans (hc j u hu)))
  have CR : Hid (∀ w', Fr (fun _ => False) w w' → Calls Tryd.prog 95 #[.pointer (some ⟨g, 0, none⟩), .int .i64 hda.now, .int .i64 1, .int .i64 22] w' (CallPost w g bm A n c ps (n + 2) (s.lay hda.now (s.vain 6 1)).1 (s.lay hda.now (s.vain 6 1)).2 22)) := Lib.hid (fun w' hf => (refuse_any (h.fr hf (fun _ _ h => h)) h0 hda.now 1 22 hnow ⟨by omega, by omega⟩ hn).mono (fun e w9 hp => hp.back hf))
  have hbz : (s.beg == 0) = false := by rw [beq_eq_false_iff_ne]; exact hb0
  clear h h0 ht hb0 hnow hn hmay hc HFL HAF hl1
  obtain ⟨ref, turn, id, st, dA, dn, dc, lA, ln, lc, now⟩ := hda
  unfold Hd.cells at *
  simp only at *
  have HC : Hid (∀ w', Fr (fun _ => False) W w' → w'.cell? ⟨g2, 0, none⟩ = some (.int .i64 ref) ∧ w'.cell? ⟨g2, 1, none⟩ = some (.int .i64 turn) ∧ w'.cell? ⟨g2, 5, none⟩ = some (.slice lA ln lc) ∧ w'.cell? ⟨g2, 6, none⟩ = some (.int .i64 now)) := Lib.hid (fun w' hf => by
    have hb := HB.out.fr hf (fun h => h)
    exact ⟨hb.cell 0, hb.cell 1, hb.cell 5, hb.cell 6⟩)
  obtain ⟨q0, q1, q5, q6⟩ := HC.out W (Fr.refl _ _)
  have hfld : ∀ (a b : Int) (w : World), (Instr.field 71 (.agg #[.int .i64 a, .int .i64 b]) 1).run Tryd.prog w = .ok (.int .i64 b) w := fun _ _ _ => by kernel_rfl
  have HG2 := Lib.hid hg2
  go_enter Tryd.func69, Tryd.ntmps69
  go_wp2_with fail
  clear hW hg2 q0 q1 q5 q6
  refine (CT.out _ (Fr.refl _ _)).mono ?_; rintro e w1 ⟨rfl, hf1⟩
  have HF1 := Lib.hid hf1
  clear hf1 CT
  go_wp2_with fail
  refine (CN.out _ HF1.out).mono ?_; rintro e w2 ⟨gd, gr, gm, rfl, hdr, hgd, hgr, hf2⟩
  have HF2 := Lib.hid (HF1.out.trans hf2 (fun _ _ h => h))
  have HDR := Lib.hid hdr
  clear hf2 hdr hgd hgr CN hbz hfld
  obtain ⟨q0, q1, q5, q6⟩ := HC.out w2 HF2.out
  generalize hCP : CallPost w g bm A n c ps (n + 2) (s.lay now (s.vain 6 1)).1 (s.lay now (s.vain 6 1)).2 22 = CP at *
  have HTW : Hid (∀ e w', CP e w' → ∃ v u, e = .returned (.tuple #[v, u])) := Lib.hid (fun e w' hp => by rw [← hCP] at hp; exact hp.two)
  clear hCP
  go_wp2_with fail
  clear q0 q1 q5 q6
  refine (CA.out _ gd gr gm HF2.out HDR.out).mono ?_; rintro e w3 ⟨rfl, hf3⟩
  have HF3 := Lib.hid (HF2.out.trans hf3 (fun _ _ h => h))
  obtain ⟨q0, q1, q5, q6⟩ := HC.out w3 HF3.out
  clear hf3 CA
  go_wp2_with fail
  clear q0 q1 q5 q6
  refine (CR.out _ (HF.out.trans HF3.out (fun _ _ h => h))).mono ?_; rintro e w9 hp
  obtain ⟨v, u, rfl⟩ := HTW.out _ _ hp
  clear CR
  go_wp2
  exact hp
set_option maxRecDepth 100000 in
set_option maxHeartbeats 8000000 in
theorem Decide_bad {w : World} {g bm : Nat} {A : Option Addr} {n c : Nat} {ps : List VL} {D : DV} {s : FS} (h : FlM w g A n c ps (some bm) D s) (h0 : 0 < n) (ref turn now t : Int) (ht : s.taskAt ref turn = (t, s.beg)) (hb0 : s.beg ≠ 0) (hnow : 0 ≤ now ∧ now ≤ 1099511627776) (hll : (s.L.getD (n - 1) default).a ≤ now) (hst : statL s.L = 1) (hn : n + 2 ≤ 4096) (x : DL) (hmay : x.may = false) (bx ox lc : Nat) (hc : ∀ j u, x.cells[j]? = some u → w.cell? ⟨bx, ox + j, none⟩ = some u) :
    Calls Tryd.prog 24 #[.pointer (some ⟨g, 0, none⟩), .int .i64 ref, .int .i64 turn, .slice (some ⟨bx, ox, none⟩) 1 lc, .int .i64 now] w (CallPost w g bm A n c ps (n + 2) (s.lay now (s.vain 6 1)).1 (s.lay now (s.vain 6 1)).2 22) := by
  have hmf : ∀ (fn : Fn) (first cap : Array Value) (w : World), (Instr.makeFunc fn first cap).run Tryd.prog w = .ok (.func fn first cap) w := fun _ _ _ _ => rfl
  have C := Lib.hid (do_ok h h0 69 ⟨ref, turn, 0, 0, none, 0, 0, some ⟨bx, ox, none⟩, 1, lc, now⟩ (by unfold Hd.fits; simp only [Bool.and_eq_true, decide_eq_true_eq]; omega) hll hst (fun _ _ => by kernel_rfl) (Q := CallPost w g bm A n c ps (n + 2) (s.lay now (s.vain 6 1)).1 (s.lay now (s.vain 6 1)).2 22) (fun w' hf => by
    refine (decide_bad (h.fr hf (fun _ _ h => h)) h0 ⟨ref, turn, 0, 0, none, 0, 0, some ⟨bx, ox, none⟩, 1, lc, now⟩ t ht hb0 hnow hn x hmay bx ox ⟨rfl, rfl⟩ (fun j u hu => (hf.cell (World.block_lt_of_cell? w _ (hc j u hu)) (fun h => h)).trans (hc j u hu))).mono ?_
    intro e w9 hp
    exact ⟨hp.two, hp.back hf⟩))
  unfold Hd.cells at C
  simp only at C
  clear h h0 ht hb0 hnow hll hst hn hmay hc
  go_enter Tryd.func24, Tryd.ntmps24
  go_wp2_with fail
  refine C.out.mono ?_; rintro e w9 hp
  obtain ⟨v, u, rfl⟩ := hp.two
  go_wp2
  go_ret2
  exact hp
end Go.Proofs.YtkinbcmnfpkncaaDoor
