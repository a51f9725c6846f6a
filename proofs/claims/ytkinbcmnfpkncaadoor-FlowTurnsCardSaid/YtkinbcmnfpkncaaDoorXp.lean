/- flow: what ends a task in vain. -/
import Derived.Test.YtkinbcmnfpkncaaDoorXn
import Derived.Test.YtkinbcmnfpkncaaDoorXk
namespace Go.Proofs.YtkinbcmnfpkncaaDoor
open Go.RowKit Go.Maps

/-- What ends a task in vain, and the next one. -/
def FS.vain (s : FS) (k n : Int) : List Ev := [evN k s.beg 0 n, evS (s.L.getD 0 default).l (s.turn + 1)]
set_option maxRecDepth 100000 in
set_option maxHeartbeats 8000000 in
theorem anew_any {w : World} {g bm : Nat} {A : Option Addr} {n c : Nat} {ps : List VL} {D : DV} {s : FS} (h : FlM w g A n c ps (some bm) D s) (h0 : 0 < n) (now : Int) (hnow : 0 ≤ now ∧ now ≤ 1099511627776) (k nn : Int) (hk : closesK k = false) (hk8 : k ≠ 8) (hk64 : I64 k) (hnn : 0 ≤ nn ∧ nn ≤ 1099511627776) (hn : n + 2 ≤ 4096) :
    Calls Tryd.prog 90 #[.pointer (some ⟨g, 0, none⟩), .int .i64 now, .agg #[.int .i64 k, .int .i64 0, .int .i64 0, .int .i64 0, .int .i64 0, .int .i64 nn, .slice none 0 0]] w (LayPost w g bm A n c ps s now (s.vain k nn)) := by
  obtain ⟨g0, hg0⟩ : ∃ g0, w.heap.size = g0 := ⟨_, rfl⟩
  obtain ⟨W, hW⟩ : ∃ W, w.alloc (.cells #[.int .i64 k, .int .i64 0, .int .i64 0, .int .i64 0, .int .i64 0, .int .i64 nn, .slice none 0 0] 75) = W := ⟨_, rfl⟩
  obtain ⟨W5, hW5⟩ : ∃ W5, W.setCell ⟨g0, 2, none⟩ (.int .i64 s.beg) = W5 := ⟨_, rfl⟩
  have HF : Hid (Fr (fun _ => False) w W) := Lib.hid (by rw [← hW]; exact (Fr.refl _ _).alloc _)
  have hb : Bk W g0 75 #[.int .i64 k, .int .i64 0, .int .i64 0, .int .i64 0, .int .i64 0, .int .i64 nn, .slice none 0 0] := by rw [← hW, ← hg0]; exact Bk.new _ _ _
  have HB5 : Hid (Bk W5 g0 75 #[.int .i64 k, .int .i64 0, .int .i64 s.beg, .int .i64 0, .int .i64 0, .int .i64 nn, .slice none 0 0]) := Lib.hid (by
    rw [← hW5]; have := hb.set 2 (.int .i64 s.beg); simpa using this)
  have HF5 : Hid (Fr (fun _ => False) w W5) := Lib.hid (by
    rw [← hW5]
    exact HF.out.trans (Fr.setCell (S := fun x => x = g0) (p := ⟨g0, 2, none⟩) (Fr.refl _ _) (fun _ => rfl) _) (fun x hx e => by have e' : x = g0 := e; omega))
  have hfl := h.fr HF.out (fun _ _ h => h)
  have y5 : W.cell? ⟨g, 5, none⟩ = some (.int .i64 s.beg) := hfl.blk.cell 5
  have c2 : W.cell? ⟨g0, 2, none⟩ = some (.int .i64 0) := hb.cell 2
  have z2 : W.frozen? ⟨g0, 2, none⟩ = false := hb.frozen 2
  have HFL := Lib.hid (fun w' (hf : Fr (fun _ => False) W5 w') => h.fr (HF5.out.trans hf (fun _ _ h => h)) (fun _ _ h => h))
  have HY : Hid (∀ w', Fr (fun _ => False) W5 w' → w'.cell? ⟨g, 6, none⟩ = some (.int .i64 s.turn)) := Lib.hid (fun w' hf => (HFL.out w' hf).blk.cell 6)
  have CI := Lib.hid (fun w' (hf : Fr (fun _ => False) W5 w') => list_any (HFL.out w' hf) h0)
  have CS := Lib.hid (fun w' => scheduled_any (s.L.getD 0 default).l (s.turn + 1) w')
  have HT : Hid (0 ≤ s.turn ∧ s.turn ≤ 4096) := Lib.hid ⟨h.trn.1, by have := h.trn.2; omega⟩
  have CL : Hid (∀ w' gB, Fr (fun _ => False) W5 w' → W5.heap.size ≤ gB → Bk w' gB 75 #[.int .i64 k, .int .i64 0, .int .i64 s.beg, .int .i64 0, .int .i64 0, .int .i64 nn, .slice none 0 0, .int .i64 2, .int .i64 0, .int .i64 0, .int .i64 0, .int .i64 (s.L.getD 0 default).l, .int .i64 (s.turn + 1), .slice none 0 0] →
      Calls Tryd.prog 29 #[.pointer (some ⟨g, 0, none⟩), .int .i64 now, .slice (some ⟨gB, 0, none⟩) 2 2] w' (LayPost w g bm A n c ps s now (s.vain k nn))) := Lib.hid (fun w' gB hf hgB hk2 => by
    have hfw := HF5.out.trans hf (fun _ _ h => h)
    have hL : 0 < s.L.length := by rw [h.lenL]; exact h0
    have hlist : I64 (s.L.getD 0 default).l := by
      have hlt : 0 < ps.length := by rw [h.len]; exact h0
      rw [← h.evs, getD_map VL.e hlt]
      exact ((h.own.each _ (getD_mem hlt)).ok).l
    have rp1 : RdV w' (fun _ => False) ⟨evN k s.beg 0 nn, none, 0⟩ := rdN w' k s.beg 0 nn hk64 h.t64.2 i64z ⟨by omega, by omega⟩
    have rp2 : RdV w' (fun _ => False) ⟨evS (s.L.getD 0 default).l (s.turn + 1), none, 0⟩ := ⟨Rd8.nil _ _, ⟨i64c 2 (by decide) (by decide), i64z, i64z, i64z, hlist, ⟨by have := HT.out; simp only [evS]; omega, by have := HT.out; simp only [evS]; omega⟩, by simp [evS]⟩, fun ad e => by cases e⟩
    have hk' : Bk w' gB 75 ((VL.cells ⟨evN k s.beg 0 nn, none, 0⟩) ++ (VL.cells ⟨evS (s.L.getD 0 default).l (s.turn + 1), none, 0⟩)).toArray := hk2
    refine (layF_any (HFL.out w' hf) now hnow _ 2 2 [⟨evN k s.beg 0 nn, none, 0⟩, ⟨evS (s.L.getD 0 default).l (s.turn + 1), none, 0⟩] (vs_two hk' rp1 rp2) (fun x hx e => ?_) hn ⟨hnn, fun h => absurd h hk8, fun _ => hk, ⟨by have := HT.out; simp only [evS]; omega, by have := HT.out; simp only [evS]; omega⟩, fun h => by simp [evS] at h, fun h => absurd rfl h, trivial⟩).mono ?_
    · rcases hx with rfl | hx
      · have := AF.lt h e; have := HF5.out.size; omega
      · exact hx
    · rintro e w9 ⟨A', c', ps', mo', D', Ao, mo, co, os, h1, h2, h3, h4, h5⟩
      exact LayPost.back hfw ⟨A', c', ps', mo', D', Ao, mo, co, os, h1, h2, h3, h4, h5⟩)
  clear h h0 hnow hk hk8 hk64 hnn hn hfl hb HFL
  generalize s.vain k nn = es at *
  obtain ⟨bg, hbg⟩ : ∃ bg, s.beg = bg := ⟨_, rfl⟩
  obtain ⟨li, hli⟩ : ∃ li, (s.L.getD 0 default).l = li := ⟨_, rfl⟩
  obtain ⟨tn, htn⟩ : ∃ tn, s.turn = tn := ⟨_, rfl⟩
  rw [hbg] at HB5 y5 hW5
  simp only [hbg, hli, htn] at CI CS CL HY HT
  clear hbg hli htn
  have hwr : IntKind.wrap .i64 (tn + 1) = tn + 1 := by have := HT.out; simp only [IntKind.wrap_i64]; omega
  go_enter Tryd.func90, Tryd.ntmps90
  go_wp2_with fail
  clear hW hg0 hW5 y5 c2 z2
  refine wp_region_Z [12] ((fun w' => Fr (fun _ => False) W5 w')) (by kernel_rfl) ((Fr.refl _ _).drew) (fun hHeld => ?_)
  refine anyZ_pure (i := 0) (v := ?_) (some 14) rfl rfl (by kernel_rfl) (by kernel_rfl) (by kernel_rfl) (by kernel_rfl) (fun _ _ _ h => h) (Or.inl ⟨by rfl, ?_⟩) (fun _ => hHeld) ?_
  rotate_left
  · intro w' _
    go_simp
    first | done | with_reducible rfl
  try simp only [Act.put, List.setIfInBounds_toArray, List.set_cons_zero, List.set_cons_succ]
  refine anyZ_pure (i := 1) (v := ?_) (some 15) rfl rfl (by kernel_rfl) (by kernel_rfl) (by kernel_rfl) (by kernel_rfl) (fun _ _ _ h => h) (Or.inl ⟨by rfl, ?_⟩) (fun _ => hHeld) ?_
  rotate_left
  · intro w' _
    go_simp
    first | done | with_reducible rfl
  try simp only [Act.put, List.setIfInBounds_toArray, List.set_cons_zero, List.set_cons_succ]
  refine anyZ_read (i := 2) (v := ?_) (some 16) [11, 12, 13, 14, 15, 16] rfl rfl (by kernel_rfl) (by kernel_rfl) (by kernel_rfl) (by kernel_rfl) (by kernel_rfl) (by kernel_rfl) (fun _ _ _ h => h) (Or.inl ⟨by rfl, ?_⟩) hHeld ?_
  rotate_left
  · intro w' hSw
    have qk := HB5.out.fr hSw (fun h => h); have k0 := qk.cell 0; have k1 := qk.cell 1; have k2 := qk.cell 2; have k3 := qk.cell 3; have k4 := qk.cell 4; have k5 := qk.cell 5; have k6 := qk.cell 6; simp only [List.getElem?_toArray, List.getElem?_cons_zero, List.getElem?_cons_succ] at k0 k1 k2 k3 k4 k5 k6
    go_simp
    first | done | with_reducible rfl
  try simp only [Act.put, List.setIfInBounds_toArray, List.set_cons_zero, List.set_cons_succ]
  refine anyZ_pure (i := 3) (v := ?_) (some 17) rfl rfl (by kernel_rfl) (by kernel_rfl) (by kernel_rfl) (by kernel_rfl) (fun _ _ _ h => h) (Or.inl ⟨by rfl, ?_⟩) (fun _ => hHeld) ?_
  rotate_left
  · intro w' _
    go_simp
    first | done | with_reducible rfl
  try simp only [Act.put, List.setIfInBounds_toArray, List.set_cons_zero, List.set_cons_succ]
  refine anyZ_pure (i := 5) (v := ?_) (some 19) rfl rfl (by kernel_rfl) (by kernel_rfl) (by kernel_rfl) (by kernel_rfl) (fun _ _ _ h => h) (Or.inl ⟨by rfl, ?_⟩) (fun _ => hHeld) ?_
  rotate_left
  · intro w' _
    go_simp
    first | done | with_reducible rfl
  try simp only [Act.put, List.setIfInBounds_toArray, List.set_cons_zero, List.set_cons_succ]
  refine anyZ_pure (i := 6) (v := ?_) (some 20) rfl rfl (by kernel_rfl) (by kernel_rfl) (by kernel_rfl) (by kernel_rfl) (fun _ _ _ h => h) (Or.inl ⟨by rfl, ?_⟩) (fun _ => hHeld) ?_
  rotate_left
  · intro w' _
    go_simp
    first | done | with_reducible rfl
  try simp only [Act.put, List.setIfInBounds_toArray, List.set_cons_zero, List.set_cons_succ]
  refine anyZ_pure (i := 7) (v := ?_) (some 21) rfl rfl (by kernel_rfl) (by kernel_rfl) (by kernel_rfl) (by kernel_rfl) (fun _ _ _ h => h) (Or.inl ⟨by rfl, ?_⟩) (fun _ => hHeld) ?_
  rotate_left
  · intro w' _
    go_simp
    first | done | with_reducible rfl
  try simp only [Act.put, List.setIfInBounds_toArray, List.set_cons_zero, List.set_cons_succ]
  refine anyZ_read (i := 8) (v := ?_) (some 22) [9, 10, 11, 12, 13, 14, 15, 16] rfl rfl (by kernel_rfl) (by kernel_rfl) (by kernel_rfl) (by kernel_rfl) (by kernel_rfl) (by kernel_rfl) (fun _ _ _ h => h) (Or.inl ⟨by rfl, ?_⟩) hHeld ?_
  rotate_left
  · intro w' hSw
    have y6 := HY.out w' hSw
    go_simp
    first | done | with_reducible rfl
  try simp only [Act.put, List.setIfInBounds_toArray, List.set_cons_zero, List.set_cons_succ]
  refine anyZ_pure (i := 9) (v := ?_) (some 23) rfl rfl (by kernel_rfl) (by kernel_rfl) (by kernel_rfl) (by kernel_rfl) (fun _ _ _ h => h) (Or.inl ⟨by rfl, ?_⟩) (fun _ => hHeld) ?_
  rotate_left
  · intro w' _
    go_simp
    first | done | with_reducible rfl
  try simp only [Act.put, List.setIfInBounds_toArray, List.set_cons_zero, List.set_cons_succ]
  refine anyZ_ready (rs := [4]) (by kernel_rfl) (by simp) ?_
  refine AllZ.step rfl (fun K hK => ?_) AllZ.nil
  go_simp
  refine (CI.out _ hHeld).mono ?_; rintro e w5 ⟨rfl, rfl⟩
  try go_simp
  refine hK.out _ _ (hHeld) (fun hHeld => ?_)
  clear hK K
  try change anyZ _ _ _ _ _ _ _ _ (Act.put _ (some 18) _) _
  try simp only [Act.put, List.setIfInBounds_toArray, List.set_cons_zero, List.set_cons_succ]
  refine anyZ_ready (rs := [10]) (by kernel_rfl) (by simp) ?_
  refine AllZ.step rfl (fun K hK => ?_) AllZ.nil
  go_simp
  refine (CS.out _).mono ?_; rintro e w6 ⟨rfl, hf6⟩
  have HF6 := Lib.hid (hHeld.trans hf6 (fun _ _ h => h))
  clear hf6
  try go_simp
  refine hK.out _ _ (HF6.out) (fun hHeld => ?_)
  clear hK K
  try change anyZ _ _ _ _ _ _ _ _ (Act.put _ (some 24) _) _
  try simp only [Act.put, List.setIfInBounds_toArray, List.set_cons_zero, List.set_cons_succ]
  refine anyZ_ready (rs := [11]) (by kernel_rfl) (by simp) ?_
  refine AllZ.step rfl (fun K hK => ?_) AllZ.nil
  go_simp
  refine hK.out _ _ (HF6.out.alloc _) (fun hHeld => ?_)
  clear hK K
  try change anyZ _ _ _ _ _ _ _ _ (Act.put _ (some 25) _) _
  try simp only [Act.put, List.setIfInBounds_toArray, List.set_cons_zero, List.set_cons_succ]
  refine anyZ_ready (rs := [12]) (by kernel_rfl) (by simp) ?_
  refine AllZ.last rfl (by kernel_rfl) (fun K hK => ?_) AllZ.nil
  go_simp
  refine (CL.out _ w6.heap.size hHeld HF6.out.size (Bk.new _ _ _)).mono ?_; rintro e w9 hp
  obtain ⟨v, u, rfl⟩ := hp.two
  try go_simp
  refine hK.out _ _ ?_
  clear hK K
  try change anyZ _ _ _ _ _ _ _ _ (Act.put _ (some 26) _) _
  try simp only [Act.put, List.setIfInBounds_toArray, List.set_cons_zero, List.set_cons_succ]
  refine anyZ_pure (i := 13) (v := ?_) (some 27) rfl rfl (by kernel_rfl) (by kernel_rfl) (by kernel_rfl) (by kernel_rfl) (fun _ _ _ h => h) (Or.inl ⟨by rfl, ?_⟩) (notYet (by kernel_rfl)) ?_
  rotate_left
  · intro w' _
    go_simp
    first | done | with_reducible rfl
  try simp only [Act.put, List.setIfInBounds_toArray, List.set_cons_zero, List.set_cons_succ]
  refine anyZ_pure (i := 14) (v := ?_) (some 28) rfl rfl (by kernel_rfl) (by kernel_rfl) (by kernel_rfl) (by kernel_rfl) (fun _ _ _ h => h) (Or.inl ⟨by rfl, ?_⟩) (notYet (by kernel_rfl)) ?_
  rotate_left
  · intro w' _
    go_simp
    first | done | with_reducible rfl
  try simp only [Act.put, List.setIfInBounds_toArray, List.set_cons_zero, List.set_cons_succ]
  refine anyZ_pure (i := 15) (v := ?_) (some 6) rfl rfl (by kernel_rfl) (by kernel_rfl) (by kernel_rfl) (by kernel_rfl) (fun _ _ _ h => h) (Or.inl ⟨by rfl, ?_⟩) (notYet (by kernel_rfl)) ?_
  rotate_left
  · intro w' _
    go_simp
    first | done | with_reducible rfl
  try simp only [Act.put, List.setIfInBounds_toArray, List.set_cons_zero, List.set_cons_succ]
  refine anyZ_pure (i := 16) (v := ?_) (some 7) rfl rfl (by kernel_rfl) (by kernel_rfl) (by kernel_rfl) (by kernel_rfl) (fun _ _ _ h => h) (Or.inl ⟨by rfl, ?_⟩) (notYet (by kernel_rfl)) ?_
  rotate_left
  · intro w' _
    go_simp
    first | done | with_reducible rfl
  try simp only [Act.put, List.setIfInBounds_toArray, List.set_cons_zero, List.set_cons_succ]
  refine anyZ_done (by kernel_rfl) ?_ _
  clear hHeld CI CS CL
  go_wp2
  go_ret2
  exact hp

set_option maxRecDepth 100000 in
set_option maxHeartbeats 4000000 in
theorem refuse_any {w : World} {g bm : Nat} {A : Option Addr} {n c : Nat} {ps : List VL} {D : DV} {s : FS} (h : FlM w g A n c ps (some bm) D s) (h0 : 0 < n) (now why er : Int) (hnow : 0 ≤ now ∧ now ≤ 1099511627776) (hwhy : 0 ≤ why ∧ why ≤ 1099511627776) (hn : n + 2 ≤ 4096) :
    Calls Tryd.prog 95 #[.pointer (some ⟨g, 0, none⟩), .int .i64 now, .int .i64 why, .int .i64 er] w (CallPost w g bm A n c ps (n + 2) (s.lay now (s.vain 6 why)).1 (s.lay now (s.vain 6 why)).2 er) := by
  have CA := Lib.hid (anew_any h h0 now hnow 6 why (by decide) (by decide) (i64c 6 (by decide) (by decide)) hwhy hn)
  clear h h0 hnow hwhy hn
  go_enter Tryd.func95, Tryd.ntmps95
  go_wp2_with fail
  refine CA.out.mono ?_; rintro e w9 ⟨A', c', ps', mo', D', Ao, mo, co, os, rfl, h2, h3, h4, h5⟩
  obtain rfl := h5 (by intro e he; simp [FS.vain, evS, evN] at he; rcases he with rfl | rfl <;> rfl)
  have HP := Lib.hid (And.intro h2 (And.intro h3 h4))
  clear h2 h3 h4 h5 CA
  go_wp2
  go_ret2
  exact ⟨A', c', ps', D', Ao, mo, co, os, rfl, HP.out.1, HP.out.2.1, HP.out.2.2⟩

theorem closeK_closes (k : Int) : closesK (closeK k) = true := by
  unfold closeK
  repeat' split
  all_goals rfl
/-! ### Decide -/
set_option maxRecDepth 100000 in
set_option maxHeartbeats 8000000 in
theorem decide_late {w : World} {g bm : Nat} {A : Option Addr} {n c : Nat} {ps : List VL} {D : DV} {s : FS} (h : FlM w g A n c ps (some bm) D s) (hM : MadeT w) (hda : Hd) (t : Int) (ht : s.taskAt hda.ref hda.turn = (t, s.beg)) (hb0 : s.beg ≠ 0) (h0 : 0 < n) (hlate : s.late = true) (hnow : 0 ≤ hda.now ∧ hda.now ≤ 1099511627776) (hn : n + 2 ≤ 4096) {G : Nat → Prop} (x : DL) (d : List UInt8) (hk : x.k = 5 ∨ x.k = 6 ∨ x.k = 8 ∨ (x.k = 7 ∧ w.cell? ⟨g, 8, none⟩ = some (.bool true))) (hmay : x.may = true) (hr : Rd8 w x.A d) (hd : d.length = x.dl) (hd2 : x.dl ≤ 140737488355328) (hG : ∀ ad, x.A = some ad → 0 < x.dl → G ad.block) (hi : I64 x.i) (hl : I64 x.l) (hx : I64 x.n) (hx0 : 0 ≤ x.n ∧ x.n ≤ 1099511627776) (hGA : ∀ k, G k → ¬ AF g bm (.slice A n c) k) (hGl : ∀ k, G k → k < w.heap.size) (bx ox : Nat) (hl1 : hda.lA = some ⟨bx, ox, none⟩ ∧ hda.ln = 1) (hc : ∀ j u, x.cells[j]? = some u → w.cell? ⟨bx, ox + j, none⟩ = some u) :
    Calls Tryd.prog 69 #[.pointer (some ⟨g, 0, none⟩), .agg hda.cells] w (CallPost w g bm A n c ps (n + 2) (s.lay hda.now (s.vain 6 2)).1 (s.lay hda.now (s.vain 6 2)).2 23) := by
  obtain ⟨g2, hg2⟩ : ∃ g2, w.heap.size = g2 := ⟨_, rfl⟩
  obtain ⟨W, hW⟩ : ∃ W, w.alloc (.cells hda.cells 67) = W := ⟨_, rfl⟩
  have HF : Hid (Fr (fun _ => False) w W) := Lib.hid (by rw [← hW]; exact (Fr.refl _ _).alloc _)
  have HB : Hid (Bk W g2 67 hda.cells) := Lib.hid (by rw [← hW, ← hg2]; exact Bk.new _ _ _)
  have HFL := Lib.hid (fun w' (hf : Fr (fun _ => False) W w') => h.fr (HF.out.trans hf (fun _ _ h => h)) (fun _ _ h => h))
  have HAF := Lib.hid (fun k (hk : AF g bm (.slice A n c) k) => AF.lt h hk)
  have CT := Lib.hid (fun w' (hf : Fr (fun _ => False) W w') => taskAt_any (HFL.out w' hf) hda.ref hda.turn)
  rw [ht] at CT
  have CN := Lib.hid (fun w' (hf : Fr (fun _ => False) W w') => newDraft_any (HFL.out w' hf) G)
  have HK8 : ∀ w', Fr (fun _ => False) w w' → (x.k = 5 ∨ x.k = 6 ∨ x.k = 8 ∨ (x.k = 7 ∧ w'.cell? ⟨g, 8, none⟩ = some (.bool true))) := fun w' hf => by
    rcases hk with h | h | h | ⟨h, h9⟩
    · exact .inl h
    · exact .inr (.inl h)
    · exact .inr (.inr (.inl h))
    · exact .inr (.inr (.inr ⟨h, (hf.cell (World.block_lt_of_cell? w _ h9) (fun h => h)).trans h9⟩))
  have CA : Hid (∀ w' gd gr gm, Fr (fun _ => False) W w' → w.heap.size ≤ gd → w.heap.size ≤ gr → Dr w' gd g gm (some ⟨gr, 0, none⟩) 1 1 [⟨evN 4 s.beg 0 0, none, 0⟩] G → Calls Tryd.prog 94 #[.pointer (some ⟨gd, 0, none⟩), .slice hda.lA hda.ln hda.lc] w' fun e w9 => e = .returned (.bool true) ∧ Took w' gd g gm (some ⟨gr, 0, none⟩) 1 1 [⟨evN 4 s.beg 0 0, none, 0⟩] G x d w9) := Lib.hid (fun w' gd gr gm hf hgd hgr hdr => by
    have hff := HF.out.trans hf (fun _ _ h => h)
    rw [hl1.1, hl1.2]
    exact takesAll_close hdr (by omega) (by omega) rfl (hM.fr hff (fun h => h)) x d (HK8 w' hff) hmay (hr.fr hff (fun _ _ _ h => h)) hd hd2 hG hi hl hx (fun k hk => ⟨fun e => by injection e with e; have e' : gr = k := e; have := hGl k hk; omega, fun e => by have := hGl k hk; omega⟩) bx ox hda.lc (fun j u hu => (hff.cell (World.block_lt_of_cell? w _ (hc j u hu)) (fun h => h)).trans (hc j u hu)))
  have CR : Hid (∀ w', Fr (fun _ => False) w w' → Calls Tryd.prog 95 #[.pointer (some ⟨g, 0, none⟩), .int .i64 hda.now, .int .i64 2, .int .i64 23] w' (CallPost w g bm A n c ps (n + 2) (s.lay hda.now (s.vain 6 2)).1 (s.lay hda.now (s.vain 6 2)).2 23)) := Lib.hid (fun w' hf => (refuse_any (h.fr hf (fun _ _ h => h)) h0 hda.now 2 23 hnow ⟨by omega, by omega⟩ hn).mono (fun e w9 hp => hp.back hf))
  have CC : Hid (∀ w' gd gm A9 c9, Dr w' gd g gm A9 2 c9 [⟨evN 4 s.beg 0 0, none, 0⟩, ⟨closeE x d, x.A, x.c⟩] G → Calls Tryd.prog 96 #[.pointer (some ⟨gd, 0, none⟩)] w' fun e w9 => e = .returned (.bool true) ∧ Fr (fun _ => False) w' w9) := Lib.hid (fun w' gd gm A9 c9 hdr => by
    have := closesD_any hdr (by omega) (by omega)
    rwa [show closesK (([⟨evN 4 s.beg 0 0, none, 0⟩, ⟨closeE x d, x.A, x.c⟩] : List VL).getD (2 - 1) default).e.k = true from closeK_closes x.k] at this)
  have hbz : (s.beg == 0) = false := by rw [beq_eq_false_iff_ne]; exact hb0
  have HL7 : Hid (∀ w', Fr (fun _ => False) w w' → w'.cell? ⟨g, 7, none⟩ = some (.bool true)) := Lib.hid (fun w' hf => by
    have := (h.blk.fr hf (fun h => h)).cell 7
    simp only [FS.cells, List.getElem?_toArray, List.getElem?_cons_zero, List.getElem?_cons_succ, hlate] at this
    exact this)
  have HGS : Hid (g < w.heap.size) := Lib.hid h.blk.lt
  clear h h0 hM ht hb0 hlate hnow hn hk hmay hr hd hd2 hG hi hl hx hx0 hGA hGl hc HK8 HFL HAF hl1
  obtain ⟨ref, turn, id, st, dA, dn, dc, lA, ln, lc, now⟩ := hda
  unfold Hd.cells at *
  simp only at *
  have HC : Hid (∀ w', Fr (fun _ => False) W w' → w'.cell? ⟨g2, 0, none⟩ = some (.int .i64 ref) ∧ w'.cell? ⟨g2, 1, none⟩ = some (.int .i64 turn) ∧ w'.cell? ⟨g2, 5, none⟩ = some (.slice lA ln lc) ∧ w'.cell? ⟨g2, 6, none⟩ = some (.int .i64 now)) := Lib.hid (fun w' hf => by
    have hb := HB.out.fr hf (fun h => h)
    exact ⟨hb.cell 0, hb.cell 1, hb.cell 5, hb.cell 6⟩)
  obtain ⟨q0, q1, q5, q6⟩ := HC.out W (Fr.refl _ _)
  have hfld : ∀ (a b : Int) (w : World), (Instr.field 71 (.agg #[.int .i64 a, .int .i64 b]) 1).run Tryd.prog w = .ok (.int .i64 b) w := fun _ _ _ => by kernel_rfl
  have HG2 := Lib.hid hg2
  go_enter Tryd.func69, Tryd.ntmps69
  go_wp2_with fail
  clear hW hg2 q0 q1 q5 q6
  refine (CT.out _ (Fr.refl _ _)).mono ?_; rintro e w1 ⟨rfl, hf1⟩
  have HF1 := Lib.hid hf1
  clear hf1 CT
  go_wp2_with fail
  refine (CN.out _ HF1.out).mono ?_; rintro e w2 ⟨gd, gr, gm, rfl, hdr, hgd, hgr, hf2⟩
  have HF2 := Lib.hid (HF1.out.trans hf2 (fun _ _ h => h))
  have HDR := Lib.hid hdr
  have HGD : Hid (w.heap.size ≤ gd ∧ w.heap.size ≤ gr ∧ g2 < gd ∧ g2 < gr) := Lib.hid (by
    have h1 := HF.out.size; have h2 := HF1.out.size; have h3 := HB.out.lt
    exact ⟨by omega, by omega, by omega, by omega⟩)
  clear hf2 hdr hgd hgr CN hbz hfld
  obtain ⟨q0, q1, q5, q6⟩ := HC.out w2 HF2.out
  go_wp2_with fail
  clear q0 q1 q5 q6
  refine (CA.out _ gd gr gm HF2.out HGD.out.1 HGD.out.2.1 HDR.out).mono ?_; rintro e w3 ⟨rfl, A9, c9, hdr9, hmv9, hf9⟩
  have HDR9 := Lib.hid hdr9
  have HF3 : Hid (Fr (fun k => w.heap.size ≤ k) w w3) := Lib.hid (((HF.out.trans HF2.out (fun _ _ h => h)).mono (fun _ _ h => h.elim)).trans hf9 (fun k _ e => by
    rcases e with rfl | e
    · exact HGD.out.1
    · injection e with e; have e' : gr = k := e; have := HGD.out.2.1; omega))
  have HF3' : Hid (Fr (fun _ => False) w w3) := Lib.hid (HF3.out.mono (fun k hk h => by have h' : w.heap.size ≤ k := h; omega))
  have HK3 : Hid (Bk w3 g2 67 #[.int .i64 ref, .int .i64 turn, .int .i64 id, .int .i64 st, .slice dA dn dc, .slice lA ln lc, .int .i64 now]) := Lib.hid ((HB.out.fr HF2.out (fun h => h)).fr hf9 (fun e => by
    rcases e with e | e
    · have := HGD.out.2.2.1; omega
    · injection e with e; have e' : gr = g2 := e; have := HGD.out.2.2.2; omega))
  have HN9 : Hid (∀ k, (Value.slice A9 2 c9).ownBlock = some k → w.heap.size ≤ k) := Lib.hid (fun k hk => by
    rcases hmv9 with e | ⟨y, e, hy⟩
    · have e2 := e.symm.trans hk
      injection e2 with e2; have e' : gr = k := e2; have := HGD.out.2.1; omega
    · have e2 := e.symm.trans hk
      injection e2 with e2; have h1 := HF.out.size; have h2 := HF2.out.size; omega)
  clear hdr9 hmv9 hf9 CA
  have l7 := HL7.out w3 HF3'.out
  generalize hCP : CallPost w g bm A n c ps (n + 2) (s.lay now (s.vain 6 2)).1 (s.lay now (s.vain 6 2)).2 23 = CP at *
  have HTW : Hid (∀ e w', CP e w' → ∃ v u, e = .returned (.tuple #[v, u])) := Lib.hid (fun e w' hp => by rw [← hCP] at hp; exact hp.two)
  clear hCP
  go_wp2_with fail
  clear l7
  refine (CC.out _ gd gm A9 c9 HDR9.out).mono ?_; rintro e w4 ⟨rfl, hf4⟩
  have HF4 := Lib.hid hf4
  have q6 := (HK3.out.fr hf4 (fun h => h)).cell 6; simp only [List.getElem?_toArray, List.getElem?_cons_zero, List.getElem?_cons_succ] at q6
  clear hf4 CC
  go_wp2_with fail
  clear q6
  refine (CR.out _ (HF3'.out.trans HF4.out (fun _ _ h => h))).mono ?_; rintro e w9 hp
  obtain ⟨v, u, rfl⟩ := HTW.out _ _ hp
  clear CR
  go_wp2
  exact hp
end Go.Proofs.YtkinbcmnfpkncaaDoor
