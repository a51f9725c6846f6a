/- flow: one decision that closes; Result. -/
import Derived.Test.YtkinbcmnfpkncaaDoorXj
import Derived.Test.YtkinbcmnfpkncaaDoorXi
namespace Go.Proofs.YtkinbcmnfpkncaaDoor
open Go.RowKit Go.Maps

def closeE (x : DL) (d : List UInt8) : Ev := ⟨closeK x.k, 0, 0, x.i, x.l, x.n, d⟩
/-- What a draft is behind a decision that was taken. -/
def Took (w : World) (gd g gm : Nat) (A : Option Addr) (n c : Nat) (ps : List VL) (G : Nat → Prop) (x : DL) (d : List UInt8) (w' : World) : Prop :=
  ∃ A' c', Dr w' gd g gm A' (n + 1) c' (ps ++ [⟨closeE x d, x.A, x.c⟩]) G ∧ Moved w (.slice A n c) (.slice A' (n + 1) c') ∧ Fr (fun k => k = gd ∨ (Value.slice A n c).ownBlock = some k) w w'
set_option maxRecDepth 100000 in
set_option maxHeartbeats 8000000 in
theorem takesAll_close {w : World} {gd g gm : Nat} {A : Option Addr} {n c : Nat} {ps : List VL} {G : Nat → Prop} (h : Dr w gd g gm A n c ps G) (h0 : 0 < n) (hn : n ≤ 1048576) (hlast : closesK (ps.getD (n - 1) default).e.k = false) (hM : MadeT w) (x : DL) (d : List UInt8) (hk : x.k = 5 ∨ x.k = 6 ∨ x.k = 8 ∨ (x.k = 7 ∧ w.cell? ⟨g, 8, none⟩ = some (.bool true))) (hmay : x.may = true) (hr : Rd8 w x.A d) (hd : d.length = x.dl) (hd2 : x.dl ≤ 140737488355328) (hG : ∀ ad, x.A = some ad → 0 < x.dl → G ad.block) (hi : I64 x.i) (hl : I64 x.l) (hx : I64 x.n) (hgg : ∀ k, G k → (Value.slice A n c).ownBlock ≠ some k ∧ k ≠ gd) (bx ox lc : Nat) (hc : ∀ j u, x.cells[j]? = some u → w.cell? ⟨bx, ox + j, none⟩ = some u) :
    Calls Tryd.prog 94 #[.pointer (some ⟨gd, 0, none⟩), .slice (some ⟨bx, ox, none⟩) 1 lc] w fun e w' => e = .returned (.bool true) ∧ Took w gd g gm A n c ps G x d w' := by
  obtain ⟨g6, hg6⟩ : ∃ g6, w.heap.size = g6 := ⟨_, rfl⟩
  obtain ⟨W, hW⟩ : ∃ W, w.alloc (.cells x.cells 59) = W := ⟨_, rfl⟩
  have HF : Hid (Fr (fun _ => False) w W) := Lib.hid (by rw [← hW]; exact (Fr.refl _ _).alloc _)
  have HB : Hid (Bk W g6 59 x.cells) := Lib.hid (by rw [← hW, ← hg6]; exact Bk.new _ _ _)
  have HD := Lib.hid (h.fr0 HF.out)
  have CC := Lib.hid (closesD_any HD.out h0 hn)
  rw [hlast] at CC
  have CM := Lib.hid (fun w' => may_any x w')
  rw [hmay] at CM
  have HK8 : ∀ w', Fr (fun _ => False) w w' → (x.k = 5 ∨ x.k = 6 ∨ x.k = 8 ∨ (x.k = 7 ∧ w'.cell? ⟨g, 8, none⟩ = some (.bool true))) := fun w' hf => by
    rcases hk with h | h | h | ⟨h, h9⟩
    · exact .inl h
    · exact .inr (.inl h)
    · exact .inr (.inr (.inl h))
    · exact .inr (.inr (.inr ⟨h, (hf.cell (World.block_lt_of_cell? w _ h9) (fun h => h)).trans h9⟩))
  have CT : Hid (∀ w', Fr (fun _ => False) W w' → Calls Tryd.prog 107 #[.pointer (some ⟨gd, 0, none⟩), .agg x.cells] w' fun e w9 => e = .returned (.bool true) ∧ Took w gd g gm A n c ps G x d w9) := Lib.hid (fun w' hf => by
    have hff := HF.out.trans hf (fun _ _ h => h)
    refine (takes_close (HD.out.fr0 hf) hn (hM.fr hff (fun h => h)) x d (HK8 w' hff) (hr.fr hff (fun _ _ _ h => h)) hd hd2 hG hi hl hx hgg).mono ?_
    rintro e w9 ⟨rfl, A', c', h1, h2, h3⟩
    exact ⟨rfl, A', c', h1, h2.elim .inl (fun ⟨y, e, hy⟩ => .inr ⟨y, e, Nat.le_trans hff.size hy⟩), (hff.mono (fun _ _ h => h.elim)).trans h3 (fun _ _ h => h)⟩)
  clear h h0 hn hlast hM hk hmay hr hd hd2 hG hi hl hx hgg HK8 HD
  have HTK : Hid (∀ w', Took w gd g gm A n c ps G x d w' → Took w gd g gm A n c ps G x d w') := Lib.hid (fun _ h => h)
  generalize hTT : Took w gd g gm A n c ps G x d = TK at *
  clear hTT HTK
  obtain ⟨k, i, l, m, dA, dl, dc⟩ := x
  unfold DL.cells at *
  simp only at *
  have q0 : w.cell? ⟨bx, ox, none⟩ = some (.int .i64 k) := hc 0 _ rfl
  have q1 : w.cell? ⟨bx, ox + 1, none⟩ = some (.int .i64 i) := hc 1 _ rfl
  have q2 : w.cell? ⟨bx, ox + 2, none⟩ = some (.int .i64 l) := hc 2 _ rfl
  have q3 : w.cell? ⟨bx, ox + 3, none⟩ = some (.int .i64 m) := hc 3 _ rfl
  have q4 : w.cell? ⟨bx, ox + 4, none⟩ = some (.slice dA dl dc) := hc 4 _ rfl
  have hbx := World.block_lt_of_cell? w _ q0
  have HQ : Hid (∀ w', Fr (fun _ => False) W w' → w'.cell? ⟨g6, 0, none⟩ = some (.int .i64 k) ∧ w'.cell? ⟨g6, 1, none⟩ = some (.int .i64 i) ∧ w'.cell? ⟨g6, 2, none⟩ = some (.int .i64 l) ∧ w'.cell? ⟨g6, 3, none⟩ = some (.int .i64 m) ∧ w'.cell? ⟨g6, 4, none⟩ = some (.slice dA dl dc)) := Lib.hid (fun w' hf => by
    have hb := HB.out.fr hf (fun h => h)
    exact ⟨hb.cell 0, hb.cell 1, hb.cell 2, hb.cell 3, hb.cell 4⟩)
  have hHW := Lib.hid hW
  have hHG := Lib.hid hg6
  clear hc HB hW hg6
  go_enter Tryd.func94, Tryd.ntmps94
  go_wp2_with fail
  go_loopw [12] (fun v wr => (v = .int .i64 0 ∧ w = wr) ∨ (v = .int .i64 1 ∧ Hid (TK wr))) (fun v _ => 1 - (intOf v).toNat)
  case atStart => exact .inl ⟨rfl, rfl⟩
  case round =>
    rcases hrel with ⟨rfl, rfl⟩ | ⟨rfl, HT⟩
    · have hW := hHW.out
      have hg6 := hHG.out
      go_wp2_with fail
      clear hW hg6 q0 q1 q2 q3 q4 hbx
      refine CC.out.mono ?_; rintro e w1 ⟨rfl, hf1⟩
      have HF1 := Lib.hid hf1
      obtain ⟨q0, q1, q2, q3, q4⟩ := HQ.out w1 hf1
      clear hf1 CC
      go_wp2_with fail
      clear q0 q1 q2 q3 q4
      refine (CM.out _).mono ?_; rintro e w2 ⟨rfl, hf2⟩
      have HF2 := Lib.hid (HF1.out.trans hf2 (fun _ _ h => h))
      obtain ⟨q0, q1, q2, q3, q4⟩ := HQ.out w2 HF2.out
      clear hf2 CM
      go_wp2_with fail
      clear q0 q1 q2 q3 q4
      refine (CT.out _ HF2.out).mono ?_; rintro e w3 ⟨rfl, ht⟩
      have HT := Lib.hid ht
      clear ht CT
      go_wp2
      go_roundw
      case rel => exact .inr ⟨by first | rfl | (go_num; done), HT⟩
      case measure => (simp [intOf]) <;> omega
    · clear q0 q1 q2 q3 q4 hbx
      go_wp2
      go_ret
      exact ⟨rfl, HT.out⟩

/-! ### Decide -/
set_option maxRecDepth 100000 in
set_option maxHeartbeats 8000000 in
theorem decide_close {w : World} {g bm : Nat} {A : Option Addr} {n c : Nat} {ps : List VL} {D : DV} {s : FS} (h : FlM w g A n c ps (some bm) D s) (hM : MadeT w) (hda : Hd) (t : Int) (ht : s.taskAt hda.ref hda.turn = (t, s.beg)) (hb0 : s.beg ≠ 0) (hlate : s.late = false) (hnow : 0 ≤ hda.now ∧ hda.now ≤ 1099511627776) (hn : n + 2 ≤ 4096) {G : Nat → Prop} (x : DL) (d : List UInt8) (hk : x.k = 5 ∨ x.k = 6 ∨ x.k = 8 ∨ (x.k = 7 ∧ w.cell? ⟨g, 8, none⟩ = some (.bool true))) (hmay : x.may = true) (hr : Rd8 w x.A d) (hd : d.length = x.dl) (hd2 : x.dl ≤ 140737488355328) (hG : ∀ ad, x.A = some ad → 0 < x.dl → G ad.block) (hi : I64 x.i) (hl : I64 x.l) (hx : I64 x.n) (hx0 : 0 ≤ x.n ∧ x.n ≤ 1099511627776) (hGA : ∀ k, G k → ¬ AF g bm (.slice A n c) k) (hGl : ∀ k, G k → k < w.heap.size) (bx ox : Nat) (hl1 : hda.lA = some ⟨bx, ox, none⟩ ∧ hda.ln = 1) (hc : ∀ j u, x.cells[j]? = some u → w.cell? ⟨bx, ox + j, none⟩ = some u) :
    Calls Tryd.prog 69 #[.pointer (some ⟨g, 0, none⟩), .agg hda.cells] w (LayPost w g bm A n c ps s hda.now [evN 4 s.beg 0 0, closeE x d]) := by
  obtain ⟨g2, hg2⟩ : ∃ g2, w.heap.size = g2 := ⟨_, rfl⟩
  obtain ⟨W, hW⟩ : ∃ W, w.alloc (.cells hda.cells 67) = W := ⟨_, rfl⟩
  have HF : Hid (Fr (fun _ => False) w W) := Lib.hid (by rw [← hW]; exact (Fr.refl _ _).alloc _)
  have HB : Hid (Bk W g2 67 hda.cells) := Lib.hid (by rw [← hW, ← hg2]; exact Bk.new _ _ _)
  have HFL := Lib.hid (fun w' (hf : Fr (fun _ => False) W w') => h.fr (HF.out.trans hf (fun _ _ h => h)) (fun _ _ h => h))
  have HAF := Lib.hid (fun k (hk : AF g bm (.slice A n c) k) => AF.lt h hk)
  have CT := Lib.hid (fun w' (hf : Fr (fun _ => False) W w') => taskAt_any (HFL.out w' hf) hda.ref hda.turn)
  rw [ht] at CT
  have CN := Lib.hid (fun w' (hf : Fr (fun _ => False) W w') => newDraft_any (HFL.out w' hf) G)
  have HK8 : ∀ w', Fr (fun _ => False) w w' → (x.k = 5 ∨ x.k = 6 ∨ x.k = 8 ∨ (x.k = 7 ∧ w'.cell? ⟨g, 8, none⟩ = some (.bool true))) := fun w' hf => by
    rcases hk with h | h | h | ⟨h, h9⟩
    · exact .inl h
    · exact .inr (.inl h)
    · exact .inr (.inr (.inl h))
    · exact .inr (.inr (.inr ⟨h, (hf.cell (World.block_lt_of_cell? w _ h9) (fun h => h)).trans h9⟩))
  have CA : Hid (∀ w' gd gr gm, Fr (fun _ => False) W w' → w.heap.size ≤ gd → w.heap.size ≤ gr → Dr w' gd g gm (some ⟨gr, 0, none⟩) 1 1 [⟨evN 4 s.beg 0 0, none, 0⟩] G → Calls Tryd.prog 94 #[.pointer (some ⟨gd, 0, none⟩), .slice hda.lA hda.ln hda.lc] w' fun e w9 => e = .returned (.bool true) ∧ Took w' gd g gm (some ⟨gr, 0, none⟩) 1 1 [⟨evN 4 s.beg 0 0, none, 0⟩] G x d w9) := Lib.hid (fun w' gd gr gm hf hgd hgr hdr => by
    have hff := HF.out.trans hf (fun _ _ h => h)
    rw [hl1.1, hl1.2]
    exact takesAll_close hdr (by omega) (by omega) rfl (hM.fr hff (fun h => h)) x d (HK8 w' hff) hmay (hr.fr hff (fun _ _ _ h => h)) hd hd2 hG hi hl hx (fun k hk => ⟨fun e => by injection e with e; have e' : gr = k := e; have := hGl k hk; omega, fun e => by have := hGl k hk; omega⟩) bx ox hda.lc (fun j u hu => (hff.cell (World.block_lt_of_cell? w _ (hc j u hu)) (fun h => h)).trans (hc j u hu)))
  have CL : Hid (∀ w' A9 c9 gd gm, Fr (fun k => w.heap.size ≤ k) w w' → Dr w' gd g gm A9 2 c9 [⟨evN 4 s.beg 0 0, none, 0⟩, ⟨closeE x d, x.A, x.c⟩] G → (∀ k, (Value.slice A9 2 c9).ownBlock = some k → w.heap.size ≤ k) → Calls Tryd.prog 29 #[.pointer (some ⟨g, 0, none⟩), .int .i64 hda.now, .slice A9 2 c9] w' (LayPost w g bm A n c ps s hda.now [evN 4 s.beg 0 0, closeE x d])) := Lib.hid (fun w' A9 c9 gd gm hf hdr hnew => by
    have hff : Fr (fun _ => False) w w' := hf.mono (fun k hk h => by have h' : w.heap.size ≤ k := h; omega)
    refine (layF_any (h.fr hff (fun _ _ h => h)) hda.now hnow A9 2 c9 _ hdr.vs (fun k hk e => ?_) hn ⟨⟨by simp [evN], by simp [evN]⟩, fun h => by simp [evN] at h, fun _ => rfl, ⟨hx0.1, hx0.2⟩, fun h => ?_, fun h => absurd rfl h, trivial⟩).mono ?_
    · rcases hk with hk | hk
      · have := hnew k hk; have := HAF.out k e; omega
      · exact hGA k hk e
    · exfalso
      simp only [closeE] at h
      unfold closeK at h
      repeat' split at h
      all_goals omega
    · rintro e w9 ⟨A', c', ps', mo', D', Ao, mo, co, os, h1, h2, h3, h4, h5⟩
      exact LayPost.back hff ⟨A', c', ps', mo', D', Ao, mo, co, os, h1, h2, h3, h4, h5⟩)
  have hbz : (s.beg == 0) = false := by rw [beq_eq_false_iff_ne]; exact hb0
  have HL7 : Hid (∀ w', Fr (fun _ => False) w w' → w'.cell? ⟨g, 7, none⟩ = some (.bool false)) := Lib.hid (fun w' hf => by
    have := (h.blk.fr hf (fun h => h)).cell 7
    simp only [FS.cells, List.getElem?_toArray, List.getElem?_cons_zero, List.getElem?_cons_succ, hlate] at this
    exact this)
  have HGS : Hid (g < w.heap.size) := Lib.hid h.blk.lt
  clear h hM ht hb0 hlate hnow hn hk hmay hr hd hd2 hG hi hl hx hx0 hGA hGl hc HK8 HFL HAF hl1
  generalize s.beg = sb at *
  obtain ⟨ref, turn, id, st, dA, dn, dc, lA, ln, lc, now⟩ := hda
  unfold Hd.cells at *
  simp only at *
  have HC : Hid (∀ w', Fr (fun _ => False) W w' → w'.cell? ⟨g2, 0, none⟩ = some (.int .i64 ref) ∧ w'.cell? ⟨g2, 1, none⟩ = some (.int .i64 turn) ∧ w'.cell? ⟨g2, 5, none⟩ = some (.slice lA ln lc) ∧ w'.cell? ⟨g2, 6, none⟩ = some (.int .i64 now)) := Lib.hid (fun w' hf => by
    have hb := HB.out.fr hf (fun h => h)
    exact ⟨hb.cell 0, hb.cell 1, hb.cell 5, hb.cell 6⟩)
  obtain ⟨q0, q1, q5, q6⟩ := HC.out W (Fr.refl _ _)
  have hfld : ∀ (a b : Int) (w : World), (Instr.field 71 (.agg #[.int .i64 a, .int .i64 b]) 1).run Tryd.prog w = .ok (.int .i64 b) w := fun _ _ _ => by kernel_rfl
  have HG2 := Lib.hid hg2
  go_enter Tryd.func69, Tryd.ntmps69
  go_wp2_with fail
  clear hW hg2 q0 q1 q5 q6
  refine (CT.out _ (Fr.refl _ _)).mono ?_; rintro e w1 ⟨rfl, hf1⟩
  have HF1 := Lib.hid hf1
  clear hf1 CT
  go_wp2_with fail
  refine (CN.out _ HF1.out).mono ?_; rintro e w2 ⟨gd, gr, gm, rfl, hdr, hgd, hgr, hf2⟩
  have HF2 := Lib.hid (HF1.out.trans hf2 (fun _ _ h => h))
  have HDR := Lib.hid hdr
  have HGD : Hid (w.heap.size ≤ gd ∧ w.heap.size ≤ gr ∧ g2 < gd ∧ g2 < gr) := Lib.hid (by
    have h1 := HF.out.size; have h2 := HF1.out.size; have h3 := HB.out.lt
    exact ⟨by omega, by omega, by omega, by omega⟩)
  clear hf2 hdr hgd hgr CN hbz hfld
  obtain ⟨q0, q1, q5, q6⟩ := HC.out w2 HF2.out
  go_wp2_with fail
  clear q0 q1 q5 q6
  refine (CA.out _ gd gr gm HF2.out HGD.out.1 HGD.out.2.1 HDR.out).mono ?_; rintro e w3 ⟨rfl, A9, c9, hdr9, hmv9, hf9⟩
  have HDR9 := Lib.hid hdr9
  have HF3 : Hid (Fr (fun k => w.heap.size ≤ k) w w3) := Lib.hid (((HF.out.trans HF2.out (fun _ _ h => h)).mono (fun _ _ h => h.elim)).trans hf9 (fun k _ e => by
    rcases e with rfl | e
    · exact HGD.out.1
    · injection e with e; have e' : gr = k := e; have := HGD.out.2.1; omega))
  have HF3' : Hid (Fr (fun _ => False) w w3) := Lib.hid (HF3.out.mono (fun k hk h => by have h' : w.heap.size ≤ k := h; omega))
  have HK3 : Hid (Bk w3 g2 67 #[.int .i64 ref, .int .i64 turn, .int .i64 id, .int .i64 st, .slice dA dn dc, .slice lA ln lc, .int .i64 now]) := Lib.hid ((HB.out.fr HF2.out (fun h => h)).fr hf9 (fun e => by
    rcases e with e | e
    · have := HGD.out.2.2.1; omega
    · injection e with e; have e' : gr = g2 := e; have := HGD.out.2.2.2; omega))
  have HN9 : Hid (∀ k, (Value.slice A9 2 c9).ownBlock = some k → w.heap.size ≤ k) := Lib.hid (fun k hk => by
    rcases hmv9 with e | ⟨y, e, hy⟩
    · have e2 := e.symm.trans hk
      injection e2 with e2; have e' : gr = k := e2; have := HGD.out.2.1; omega
    · have e2 := e.symm.trans hk
      injection e2 with e2; have h1 := HF.out.size; have h2 := HF2.out.size; omega)
  clear hdr9 hmv9 hf9 CA
  have l7 := HL7.out w3 HF3'.out
  go_wp2_with fail
  clear l7
  refine wp_region_Z [7] ((fun w' => Fr (fun _ => False) w3 w')) (by kernel_rfl) ((Fr.refl _ _).drew) (fun hHeld => ?_)
  refine anyZ_pure (i := 0) (v := ?_) (some 58) rfl rfl (by kernel_rfl) (by kernel_rfl) (by kernel_rfl) (by kernel_rfl) (fun _ _ _ h => h) (Or.inl ⟨by rfl, ?_⟩) (fun _ => hHeld) ?_
  rotate_left
  · intro w' _
    go_simp
    first | done | with_reducible rfl
  try simp only [Act.put, List.setIfInBounds_toArray, List.set_cons_zero, List.set_cons_succ]
  refine anyZ_pure (i := 1) (v := ?_) (some 59) rfl rfl (by kernel_rfl) (by kernel_rfl) (by kernel_rfl) (by kernel_rfl) (fun _ _ _ h => h) (Or.inl ⟨by rfl, ?_⟩) (fun _ => hHeld) ?_
  rotate_left
  · intro w' _
    go_simp
    first | done | with_reducible rfl
  try simp only [Act.put, List.setIfInBounds_toArray, List.set_cons_zero, List.set_cons_succ]
  refine anyZ_read (i := 2) (v := ?_) (some 60) [7, 8, 9, 10, 11] rfl rfl (by kernel_rfl) (by kernel_rfl) (by kernel_rfl) (by kernel_rfl) (by kernel_rfl) (by kernel_rfl) (fun _ _ _ h => h) (Or.inl ⟨by rfl, ?_⟩) hHeld ?_
  rotate_left
  · intro w' hSw
    have q6 := (HK3.out.fr hSw (fun h => h)).cell 6; simp only [List.getElem?_toArray, List.getElem?_cons_zero, List.getElem?_cons_succ] at q6
    go_simp
    first | done | with_reducible rfl
  try simp only [Act.put, List.setIfInBounds_toArray, List.set_cons_zero, List.set_cons_succ]
  refine anyZ_pure (i := 3) (v := ?_) (some 61) rfl rfl (by kernel_rfl) (by kernel_rfl) (by kernel_rfl) (by kernel_rfl) (fun _ _ _ h => h) (Or.inl ⟨by rfl, ?_⟩) (fun _ => hHeld) ?_
  rotate_left
  · intro w' _
    go_simp
    first | done | with_reducible rfl
  try simp only [Act.put, List.setIfInBounds_toArray, List.set_cons_zero, List.set_cons_succ]
  refine anyZ_pure (i := 4) (v := ?_) (some 62) rfl rfl (by kernel_rfl) (by kernel_rfl) (by kernel_rfl) (by kernel_rfl) (fun _ _ _ h => h) (Or.inl ⟨by rfl, ?_⟩) (fun _ => hHeld) ?_
  rotate_left
  · intro w' _
    go_simp
    first | done | with_reducible rfl
  try simp only [Act.put, List.setIfInBounds_toArray, List.set_cons_zero, List.set_cons_succ]
  refine anyZ_pure (i := 5) (v := ?_) (some 63) rfl rfl (by kernel_rfl) (by kernel_rfl) (by kernel_rfl) (by kernel_rfl) (fun _ _ _ h => h) (Or.inl ⟨by rfl, ?_⟩) (fun _ => hHeld) ?_
  rotate_left
  · intro w' _
    go_simp
    first | done | with_reducible rfl
  try simp only [Act.put, List.setIfInBounds_toArray, List.set_cons_zero, List.set_cons_succ]
  refine anyZ_read (i := 6) (v := ?_) (some 64) [7, 8, 9, 10, 11] rfl rfl (by kernel_rfl) (by kernel_rfl) (by kernel_rfl) (by kernel_rfl) (by kernel_rfl) (by kernel_rfl) (fun _ _ _ h => h) (Or.inl ⟨by rfl, ?_⟩) hHeld ?_
  rotate_left
  · intro w' hSw
    have q1 := (HDR9.out.blk.fr hSw (fun h => h)).cell 1; simp only [List.getElem?_toArray, List.getElem?_cons_zero, List.getElem?_cons_succ] at q1
    go_simp
    first | done | with_reducible rfl
  try simp only [Act.put, List.setIfInBounds_toArray, List.set_cons_zero, List.set_cons_succ]
  refine anyZ_ready (rs := [7]) (by kernel_rfl) (by simp) ?_
  refine AllZ.last rfl (by kernel_rfl) (fun K hK => ?_) AllZ.nil
  go_simp
  refine (CL.out _ A9 c9 gd gm (HF3.out.trans hHeld (fun _ _ h => h.elim)) (HDR9.out.fr0 hHeld) HN9.out).mono ?_; rintro e w9 hp
  obtain ⟨v, u, rfl⟩ := hp.two
  try go_simp
  refine hK.out _ _ ?_
  clear hK K
  try change anyZ _ _ _ _ _ _ _ _ (Act.put _ (some 65) _) _
  try simp only [Act.put, List.setIfInBounds_toArray, List.set_cons_zero, List.set_cons_succ]
  refine anyZ_pure (i := 8) (v := ?_) (some 66) rfl rfl (by kernel_rfl) (by kernel_rfl) (by kernel_rfl) (by kernel_rfl) (fun _ _ _ h => h) (Or.inl ⟨by rfl, ?_⟩) (notYet (by kernel_rfl)) ?_
  rotate_left
  · intro w' _
    go_simp
    first | done | with_reducible rfl
  try simp only [Act.put, List.setIfInBounds_toArray, List.set_cons_zero, List.set_cons_succ]
  refine anyZ_pure (i := 9) (v := ?_) (some 67) rfl rfl (by kernel_rfl) (by kernel_rfl) (by kernel_rfl) (by kernel_rfl) (fun _ _ _ h => h) (Or.inl ⟨by rfl, ?_⟩) (notYet (by kernel_rfl)) ?_
  rotate_left
  · intro w' _
    go_simp
    first | done | with_reducible rfl
  try simp only [Act.put, List.setIfInBounds_toArray, List.set_cons_zero, List.set_cons_succ]
  refine anyZ_pure (i := 10) (v := ?_) (some 4) rfl rfl (by kernel_rfl) (by kernel_rfl) (by kernel_rfl) (by kernel_rfl) (fun _ _ _ h => h) (Or.inl ⟨by rfl, ?_⟩) (notYet (by kernel_rfl)) ?_
  rotate_left
  · intro w' _
    go_simp
    first | done | with_reducible rfl
  try simp only [Act.put, List.setIfInBounds_toArray, List.set_cons_zero, List.set_cons_succ]
  refine anyZ_pure (i := 11) (v := ?_) (some 5) rfl rfl (by kernel_rfl) (by kernel_rfl) (by kernel_rfl) (by kernel_rfl) (fun _ _ _ h => h) (Or.inl ⟨by rfl, ?_⟩) (notYet (by kernel_rfl)) ?_
  rotate_left
  · intro w' _
    go_simp
    first | done | with_reducible rfl
  try simp only [Act.put, List.setIfInBounds_toArray, List.set_cons_zero, List.set_cons_succ]
  refine anyZ_done (by kernel_rfl) ?_ _
  clear hHeld CL
  go_wp2
  go_ret2
  exact hp

set_option maxRecDepth 100000 in
set_option maxHeartbeats 4000000 in
/-- The bytes of what closed a run. -/
theorem result_close {w : World} {g : Nat} {A : Option Addr} {n c : Nat} {ps : List VL} {mo : Option Nat} {D : DV} {s : FS} (h : FlM w g A n c ps mo D s) (h0 : 0 < n) (hcl : closesK (s.L.getD (n - 1) default).k = true) :
    Calls Tryd.prog 20 #[.pointer (some ⟨g, 0, none⟩)] w fun e w' => ∃ A' m c', e = .returned (.slice A' m c') ∧ (s.L.getD (n - 1) default).d.length = m ∧ Own8 w' 5 (.slice A' m c') (s.L.getD (n - 1) default).d ∧ Fr (fun _ => False) w w' := by
  have he : s.L.getD (n - 1) default = (ps.getD (n - 1) default).e := by rw [← h.evs, getD_map VL.e (by rw [h.len]; omega)]
  rw [he] at hcl ⊢
  have hmem : ps.getD (n - 1) default ∈ ps := getD_mem (by rw [h.len]; omega)
  have HO := Lib.hid (h.own.each _ hmem)
  have CL := Lib.hid (last_any h h0)
  generalize ps.getD (n - 1) default = p at *
  have CK := Lib.hid (fun w' => closes_any p.e.k w')
  rw [hcl] at CK
  have CC := Lib.hid (fun w' (hf : Fr (fun _ => False) w w') => clone_any p.A p.e.d.length p.c p.e.d w' ((HO.out.own.fr hf (fun _ _ h => h)).rd) rfl HO.out.ok.d)
  have hv : p.val = .agg #[.int .i64 p.e.k, .int .i64 p.e.a, .int .i64 p.e.r, .int .i64 p.e.i, .int .i64 p.e.l, .int .i64 p.e.n, .slice p.A p.e.d.length p.c] := rfl
  rw [hv] at CL
  clear h h0 hcl he hmem hv HO
  generalize p.e.k = x0 at *
  generalize p.e.a = x1 at *
  generalize p.e.r = x2 at *
  generalize p.e.i = x3 at *
  generalize p.e.l = x4 at *
  generalize p.e.n = x5 at *
  obtain ⟨d, hd⟩ : ∃ d, p.e.d = d := ⟨_, rfl⟩
  rw [hd] at CL CC ⊢
  clear hd
  obtain ⟨dl, hdl⟩ : ∃ dl, d.length = dl := ⟨_, rfl⟩
  rw [hdl] at CL CC
  have HDL := Lib.hid hdl
  clear hdl
  generalize p.A = pA at *
  generalize p.c = pc at *
  go_enter Tryd.func20, Tryd.ntmps20
  go_wp2_with fail
  refine CL.out.mono ?_; rintro e w1 ⟨rfl, hf1⟩
  obtain ⟨g3, hg3⟩ : ∃ g3, w1.heap.size = g3 := ⟨_, rfl⟩
  obtain ⟨W3, hW3⟩ : ∃ W3, w1.alloc (.cells #[.int .i64 x0, .int .i64 x1, .int .i64 x2, .int .i64 x3, .int .i64 x4, .int .i64 x5, .slice pA dl pc] 75) = W3 := ⟨_, rfl⟩
  have HK3 : Hid (Bk W3 g3 75 #[.int .i64 x0, .int .i64 x1, .int .i64 x2, .int .i64 x3, .int .i64 x4, .int .i64 x5, .slice pA dl pc]) := Lib.hid (by rw [← hW3, ← hg3]; exact Bk.new _ _ _)
  have HF3 : Hid (Fr (fun _ => False) w W3) := Lib.hid (by rw [← hW3]; exact hf1.alloc _)
  have z0 : W3.cell? ⟨g3, 0, none⟩ = some (.int .i64 x0) := HK3.out.cell 0
  have z6 : W3.cell? ⟨g3, 6, none⟩ = some (.slice pA dl pc) := HK3.out.cell 6
  clear hf1 CL
  go_wp2_with fail
  clear hW3 hg3
  refine (CK.out _).mono ?_; rintro e w4 ⟨rfl, rfl⟩
  go_wp2_with fail
  refine (CC.out _ HF3.out).mono ?_; rintro e w5 ⟨A', c', rfl, ho, hfr⟩
  have HO5 := Lib.hid ho
  have HF5 := Lib.hid (HF3.out.trans hfr.1 (fun _ _ h => h))
  clear ho hfr CC CK z0 z6
  go_wp2
  go_ret
  exact ⟨A', dl, c', rfl, HDL.out, HO5.out, HF5.out⟩
end Go.Proofs.YtkinbcmnfpkncaaDoor
