/- chunk: Add. -/
import Derived.Test.YtacafjbbdklleaaDoorAf
import Derived.Test.YtacafjbbdklleaaDoorAg
namespace Go.Proofs.YtacafjbbdklleaaDoor
open Go.RowKit

def BSt.addB (s : BSt) (p : Pc) : Bool := if s.addE p = 0 then decide ((s.add p).whole) else false
/-- What Add makes. -/
def AddE (b : Nat) (s : BSt) (v : Value) (p : Pc) (w : World) (e : Ending) (w' : World) : Prop :=
  ∃ x v', e = .returned (.tuple #[.bool (s.addB p), x]) ∧ BrkV p.id (s.addE p) w w' x ∧ Bd w' b (s.add p) v' ∧ Fr (fun x => x = b ∨ v.ownBlock = some x) w w' ∧ ∀ x, v'.ownBlock = some x → v.ownBlock = some x ∨ w.heap.size ≤ x

set_option maxRecDepth 100000 in
set_option maxHeartbeats 4000000 in
theorem add_any (b : Nat) (s0 : BSt) (v : Value) (p0 : Pc) (D : Option Addr) (m k F : Nat) (w : World) (hb : Bd w b s0 v) (hvB : ∀ x, v.ownBlock = some x → 3 ≤ x) (hs : Sl8 w F D m k p0.data) (hmb : (m : Int) ≤ 140737488355328) (hps : p0.sum < 4294967296) (hE : ErrT w) :
    Calls Tryd.prog 17 #[.pointer (some ⟨b, 0, none⟩), p0.v (.slice D m k)] w (AddE b s0 v p0 w) := by
  have HOK := Lib.hid hb.1
  have HBK : Hid (∃ cb, Bk w b 79 #[cb]) := Lib.hid (by
    rcases hb.2 with ⟨_, _, h⟩ | ⟨_, h, _⟩
    · exact ⟨_, h⟩
    · exact ⟨_, h⟩)
  have HPS := Lib.hid hps
  have HET := Lib.hid hE
  obtain ⟨A, c, rfl, _, _⟩ := hb.own.slice
  obtain ⟨n, hn⟩ : ∃ n, s0.data.length = n := ⟨_, rfl⟩
  have HOW := Lib.hid hb.own
  rw [hn] at hb hvB HOW ⊢
  have HBD := Lib.hid hb
  have HVB := Lib.hid hvB
  have HEN : Hid ((Value.slice A n c).ownBlock = some 0 → False) := Lib.hid (fun h => absurd (hvB _ h) (by decide))
  have CB : Hid (∀ w', Fr (fun _ => False) w w' → Calls Tryd.prog 31 #[.pointer (some ⟨b, 0, none⟩)] w' fun e w2 => e = .returned (s0.v (.slice A n c)) ∧ Fr (fun _ => False) w' w2) := Lib.hid (fun w' hf => built_any (HBD.out.fr0 hf))
  have CJ : Hid (∀ w', Fr (fun _ => False) w w' → Calls Tryd.prog 33 #[s0.v (.slice A n c), p0.v (.slice D m k)] w' (JoinR (.slice A n c) s0 p0 w')) := Lib.hid (fun w' hf => join_any s0 p0 A n c D m k F w' HOK.out (HOW.out.fr hf (fun _ _ h => h)) (hs.fr hf (fun _ _ h => h)) hmb)
  unfold JoinR at CJ
  unfold AddE
  obtain ⟨E, hEE⟩ : ∃ E, s0.addE p0 = E := ⟨_, rfl⟩
  have HEE := Lib.hid hEE
  rw [hEE] at CJ ⊢
  unfold Pc.v at CJ ⊢
  obtain ⟨pb, hpb⟩ : ∃ pb, w.heap.size = pb := ⟨_, rfl⟩
  obtain ⟨W, hW⟩ : ∃ W, w.alloc (.cells #[.int .i64 p0.id, .int .i64 p0.at_, .int .i64 p0.total, .int .u32 p0.sum, .slice D m k] 36) = W := ⟨_, rfl⟩
  have KP : Hid (Bk W pb 36 #[.int .i64 p0.id, .int .i64 p0.at_, .int .i64 p0.total, .int .u32 p0.sum, .slice D m k]) := Lib.hid (by rw [← hW, ← hpb]; exact Bk.new _ _ _)
  have FW : Hid (Fr (fun _ => False) w W) := Lib.hid (by rw [← hW]; exact (Fr.refl _ _).alloc _)
  have HPE := Lib.hid hpb
  have HPB : Hid (pb < W.heap.size) := Lib.hid KP.out.lt
  have CB : Hid (∀ w', Fr (fun _ => False) W w' → _) := Lib.hid (fun w' hf => CB.out w' (FW.out.trans hf (fun _ _ h => h)))
  have CJ : Hid (∀ w', Fr (fun _ => False) W w' → _) := Lib.hid (fun w' hf => CJ.out w' (FW.out.trans hf (fun _ _ h => h)))
  clear hb hps hE hn hs hmb hvB hEE
  by_cases hz : E = 0
  · have HE0 := Lib.hid hz
    clear hz
    have HEZ : Hid (s0.addE p0 = 0) := Lib.hid (HEE.out.trans HE0.out)
    go_enter Tryd.func17, Tryd.ntmps17
    go_wp2_with fail
    clear hW hpb
    refine wp_region_Z [3, 8] (fun w' => Fr (fun _ => False) W w') (by kernel_rfl) ((Fr.refl _ _).drew) (fun hHeld => ?_)
    refine anyZ_pure (i := 0) (v := ?_) (some 10) rfl rfl (by kernel_rfl) (by kernel_rfl) (by kernel_rfl) (by kernel_rfl) (fun _ _ _ h => h) (Or.inl ⟨by rfl, ?_⟩) (fun _ => hHeld) ?_
    rotate_left
    · intro w' _
      go_simp
      first | done | with_reducible rfl
    try simp only [Act.put, List.setIfInBounds_toArray, List.set_cons_zero, List.set_cons_succ]
    refine anyZ_read (i := 2) (v := ?_) (some 12) [3, 4, 5, 6, 8, 9] rfl rfl (by kernel_rfl) (by kernel_rfl) (by kernel_rfl) (by kernel_rfl) (by kernel_rfl) (by kernel_rfl) (fun _ _ _ h => h) (Or.inl ⟨by rfl, ?_⟩) hHeld ?_
    rotate_left
    · intro w' hSw
      have KPw := KP.out.fr hSw (fun h => h)
      have p0 := KPw.cell 0
      have p1 := KPw.cell 1
      have p2 := KPw.cell 2
      have p3 := KPw.cell 3
      have p4 := KPw.cell 4
      go_simp
      first | done | with_reducible rfl
    try simp only [Act.put, List.setIfInBounds_toArray, List.set_cons_zero, List.set_cons_succ]
    refine anyZ_ready (rs := [1, 7]) (by kernel_rfl) (by simp) ?_
    refine AllZ.step rfl (fun K hK => ?_) (AllZ.step rfl (fun K hK => ?_) AllZ.nil)
    · skip
      go_simp
      refine (CB.out _ hHeld).mono ?_; rintro e8 v1 ⟨rfl, hf1⟩
      have HV1 : Hid (W.heap.size ≤ v1.heap.size) := Lib.hid (Nat.le_trans hHeld.size hf1.size)
      refine hK.out _ _ (hHeld.trans hf1 (fun _ _ h => h)) (fun hHeld => ?_)
      clear hK K
      try change anyZ _ _ _ _ _ _ _ _ (Act.put _ (some 11) _) _
      try simp only [Act.put, List.setIfInBounds_toArray, List.set_cons_zero, List.set_cons_succ]
      refine anyZ_ready (rs := [3, 7]) (by kernel_rfl) (by simp) ?_
      refine AllZ.last rfl (by kernel_rfl) (fun K hK => ?_) (AllZ.step rfl (fun K hK => ?_) AllZ.nil)
      · skip
        go_simp
        refine (CJ.out _ hHeld).mono ?_; rintro e9 v3 hj
        obtain ⟨t, v', rfl, ht, ho9, hf9, hm9, hno9⟩ := hj
        obtain ⟨tid, ttot, tsum, txs⟩ := t
        obtain ⟨A9, c9, rfl, hc1, hc2⟩ := ho9.slice
        simp only at ho9 hm9 ⊢
        obtain ⟨L9, hL9⟩ : ∃ L9, txs.length = L9 := ⟨_, rfl⟩
        simp only [BSt.v, hL9] at ho9 hm9 ⊢
        have HL9 := Lib.hid hL9
        have HT := Lib.hid ht
        have HM9 := Lib.hid hm9
        have HO9 := Lib.hid ho9
        have HJF := Lib.hid (((FW.out.trans hHeld (fun _ _ h => h)).mono (fun _ _ h => h.elim)).trans hf9 (fun _ _ h => h))
        have HJN : Hid (¬ E = 0 → Fr (fun _ => False) w v3) := Lib.hid (fun h => (FW.out.trans hHeld (fun _ _ h => h)).trans (hno9 h) (fun _ _ h => h))
        have HSZ : Hid (W.heap.size ≤ v3.heap.size) := Lib.hid (Nat.le_trans hHeld.size hf9.size)
        have HP3 : Hid (Bk v3 pb 36 #[.int .i64 p0.id, .int .i64 p0.at_, .int .i64 p0.total, .int .u32 p0.sum, .slice D m k]) := Lib.hid ((KP.out.fr hHeld (fun h => h)).fr hf9 (fun h => by have := HOW.out.lt h; have := HPE.out; omega))
        have HM8 : Hid (∀ x, (Value.slice A9 L9 c9).ownBlock = some x → (Value.slice A n c).ownBlock = some x ∨ w.heap.size ≤ x) := Lib.hid (fun x hx => (hm9 x hx).imp id (fun h => by have h1 := hHeld.size; have h2 := FW.out.size; omega))
        clear ht ho9 hf9 hm9 hno9 hL9
        refine hK.out _ _ ?_
        clear hK K
        try change anyZ _ _ _ _ _ _ _ _ (Act.put _ (some 13) _) _
        try simp only [Act.put, List.setIfInBounds_toArray, List.set_cons_zero, List.set_cons_succ]
        refine anyZ_pure (i := 4) (v := ?_) (some 9) rfl rfl (by kernel_rfl) (by kernel_rfl) (by kernel_rfl) (by kernel_rfl) (fun _ _ _ h => h) (Or.inl ⟨by rfl, ?_⟩) (notYet (by kernel_rfl)) ?_
        rotate_left
        · intro w' _
          go_simp
          first | done | with_reducible rfl
        try simp only [Act.put, List.setIfInBounds_toArray, List.set_cons_zero, List.set_cons_succ]
        refine anyZ_pure (i := 5) (v := ?_) (some 14) rfl rfl (by kernel_rfl) (by kernel_rfl) (by kernel_rfl) (by kernel_rfl) (fun _ _ _ h => h) (Or.inl ⟨by rfl, ?_⟩) (notYet (by kernel_rfl)) ?_
        rotate_left
        · intro w' _
          go_simp
          first | done | with_reducible rfl
        try simp only [Act.put, List.setIfInBounds_toArray, List.set_cons_zero, List.set_cons_succ]
        refine anyZ_pure (i := 6) (v := ?_) (some 15) rfl rfl (by kernel_rfl) (by kernel_rfl) (by kernel_rfl) (by kernel_rfl) (fun _ _ _ h => h) (Or.inl ⟨by rfl, ?_⟩) (notYet (by kernel_rfl)) ?_
        rotate_left
        · intro w' _
          go_simp
          first | done | with_reducible rfl
        try simp only [Act.put, List.setIfInBounds_toArray, List.set_cons_zero, List.set_cons_succ]
        refine anyZ_ready (rs := [7]) (by kernel_rfl) (by simp) ?_
        refine AllZ.last rfl (by kernel_rfl) (fun K hK => ?_) AllZ.nil
        go_simp
        have KA := Lib.hid (show Bk (v3.alloc (.cells #[.int .i64 0, .int .i64 0, .int .i64 0, .int .u32 0, .slice none 0 0] 36)) v3.heap.size 36 #[.int .i64 0, .int .i64 0, .int .i64 0, .int .u32 0, .slice none 0 0] from Bk.new v3 36 #[.int .i64 0, .int .i64 0, .int .i64 0, .int .u32 0, .slice none 0 0])
        obtain ⟨ga, hga⟩ : ∃ ga, v3.heap.size = ga := ⟨_, rfl⟩
        rw [hga] at KA ⊢
        have HGA := Lib.hid hga
        clear hga
        obtain ⟨W8, hW8⟩ : ∃ W8, set5 (v3.alloc (.cells #[.int .i64 0, .int .i64 0, .int .i64 0, .int .u32 0, .slice none 0 0] 36)) ga (.int .i64 tid) (.int .i64 0) (.int .i64 ttot) (.int .u32 tsum) (.slice A9 L9 c9) = W8 := ⟨_, rfl⟩
        have HGW : Hid (W.heap.size ≤ ga) := Lib.hid (by have := HGA.out; have := HSZ.out; omega)
        have FC : Hid (Fr (fun x => (Value.slice A n c).ownBlock = some x) w (v3.alloc (.cells #[.int .i64 0, .int .i64 0, .int .i64 0, .int .u32 0, .slice none 0 0] 36))) := Lib.hid ((HJF.out).alloc _)
        have N1 : Hid (Bk W8 ga 36 #[.int .i64 tid, .int .i64 0, .int .i64 ttot, .int .u32 tsum, .slice A9 L9 c9]) := Lib.hid (by rw [← hW8]; exact KA.out.set5 ..)
        have FS : Hid (Fr (fun x => x = ga) (v3.alloc (.cells #[.int .i64 0, .int .i64 0, .int .i64 0, .int .u32 0, .slice none 0 0] 36)) W8) := Lib.hid (by rw [← hW8]; exact Fr.set5 (Fr.refl (fun x => x = ga) _) (fun _ => rfl) ..)
        have N2 : Hid (Bk W8 pb 36 #[.int .i64 p0.id, .int .i64 p0.at_, .int .i64 p0.total, .int .u32 p0.sum, .slice D m k]) := Lib.hid ((HP3.out.alloc (.cells #[.int .i64 0, .int .i64 0, .int .i64 0, .int .u32 0, .slice none 0 0] 36)).fr FS.out (fun e => by have := HGW.out; have := HPB.out; have e' : pb = ga := e; omega))
        have O8 : Hid (Own8 W8 5 (.slice A9 L9 c9) txs) := Lib.hid ((HO9.out.fr (S := fun _ => False) ((Fr.refl _ _).alloc _) (fun _ _ h => h)).fr FS.out (fun x hx e => (HO9.out.fr (S := fun _ => False) ((Fr.refl _ _).alloc _) (fun _ _ h => h)).ne KA.out (by decide) (e ▸ hx)))
        have F8 : Hid (Fr (fun x => (Value.slice A n c).ownBlock = some x) w W8) := Lib.hid (FC.out.trans FS.out (fun x hx e => by have := HGW.out; have := HPB.out; have := HPE.out; have e' : x = ga := e; omega))
        have X8 : Hid (¬ E = 0 → Fr (fun _ => False) w W8) := Lib.hid (fun h => ((HJN.out h).alloc _).trans FS.out (fun x hx e => by have := HGW.out; have := HPB.out; have := HPE.out; have e' : x = ga := e; omega))
        unfold set5 at hW8
        have z0 := KA.out.cell 0
        have z1 := KA.out.cell 1
        have z2 := KA.out.cell 2
        have z3 := KA.out.cell 3
        have z4 := KA.out.cell 4
        have zf0 := KA.out.frozen 0
        have zf1 := KA.out.frozen 1
        have zf2 := KA.out.frozen 2
        have zf3 := KA.out.frozen 3
        have zf4 := KA.out.frozen 4
        refine hK.out _ _ ?_
        clear hK K
        try change anyZ _ _ _ _ _ _ _ _ (Act.put _ (some 6) _) _
        try simp only [Act.put, List.setIfInBounds_toArray, List.set_cons_zero, List.set_cons_succ]
        refine anyZ_ready (rs := [8]) (by kernel_rfl) (by simp) ?_
        refine AllZ.last rfl (by kernel_rfl) (fun K hK => ?_) AllZ.nil
        go_simp
        refine hK.out _ _ ?_
        clear hK K
        try change anyZ _ _ _ _ _ _ _ _ (Act.put _ none _) _
        try simp only [Act.put, List.setIfInBounds_toArray, List.set_cons_zero, List.set_cons_succ]
        refine anyZ_pure (i := 9) (v := ?_) (some 7) rfl rfl (by kernel_rfl) (by kernel_rfl) (by kernel_rfl) (by kernel_rfl) (fun _ _ _ h => h) (Or.inl ⟨by rfl, ?_⟩) (notYet (by kernel_rfl)) ?_
        rotate_left
        · intro w' _
          go_simp
          first | done | with_reducible rfl
        try simp only [Act.put, List.setIfInBounds_toArray, List.set_cons_zero, List.set_cons_succ]
        refine anyZ_done (by kernel_rfl) ?_ _
        clear z0 zf0 z1 zf1 z2 zf2 z3 zf3 z4 zf4 hW8
        have x0 := N2.out.cell 0
        have CK := Lib.hid (broken_any p0.id E W8 (HET.out.fr F8.out (fun h => HEN.out h)))
        have yy0 := N1.out.cell 0
        have yy1 := N1.out.cell 1
        have yy2 := N1.out.cell 2
        have yy3 := N1.out.cell 3
        have yy4 := N1.out.cell 4
        clear yy0 yy1 yy2 yy3 yy4
        go_wp2_with fail
        refine CK.out.mono ?_; rintro e w9 ⟨xv, rfl, hbv, hf9⟩
        obtain rfl : xv = .nilIface := by unfold BrkV at hbv; rw [if_pos HE0.out] at hbv; exact hbv
        have F9 := Lib.hid (F8.out.trans hf9 (fun _ _ h => h.elim))
        have M1 := Lib.hid (N1.out.fr hf9 (fun h => h))
        have M2 := Lib.hid (O8.out.fr hf9 (fun _ _ h => h))
        obtain ⟨cb, KB⟩ : ∃ cb, Hid (Bk w9 b 79 #[cb]) := by
          obtain ⟨cb, h⟩ := HBK.out
          exact ⟨cb, Lib.hid (h.fr F9.out (fun h2 => HOW.out.ne h (by decide) h2))⟩
        obtain ⟨W10, hW10⟩ : ∃ W10, w9.setCell ⟨b, 0, none⟩ (.pointer (some ⟨ga, 0, none⟩)) = W10 := ⟨_, rfl⟩
        have hbg : b ≠ ga := fun e => by
          subst e
          exact Bk.ne KB.out M1.out (by decide) rfl
        have P1 : Hid (Bk W10 ga 36 #[.int .i64 tid, .int .i64 0, .int .i64 ttot, .int .u32 tsum, .slice A9 L9 c9]) := Lib.hid (by rw [← hW10]; exact M1.out.far (fun e => hbg e.symm) _)
        have PB : Hid (Bk W10 b 79 #[.pointer (some ⟨ga, 0, none⟩)]) := Lib.hid (by rw [← hW10]; exact KB.out.set 0 _)
        have P2 : Hid (Own8 W10 5 (.slice A9 L9 c9) txs) := Lib.hid (M2.out.fr (S := fun x => x = b) (by rw [← hW10]; exact Fr.setCell (Fr.refl (fun x => x = b) w9) (p := ⟨b, 0, none⟩) (fun _ => rfl) _) (fun x hx e => M2.out.ne KB.out (by decide) (e ▸ hx)))
        have F10 : Hid (Fr (fun x => x = b ∨ (Value.slice A n c).ownBlock = some x) w W10) := Lib.hid (by
          rw [← hW10]
          exact Fr.setCell (F9.out.mono (fun _ _ h => .inr h)) (p := ⟨b, 0, none⟩) (fun _ => .inl rfl) _)
        have CIW := Lib.hid (fun w' => isWhole_any tid 0 ttot tsum A9 L9 c9 w')
        have k0 := KB.out.cell 0
        have kf := KB.out.frozen 0
        have y0 := P1.out.cell 0
        have y1 := P1.out.cell 1
        have y2 := P1.out.cell 2
        have y3 := P1.out.cell 3
        have y4 := P1.out.cell 4
        clear hbv hf9 CK x0 hbg
        go_wp2_with fail
        clear hW10 k0 kf y0 y1 y2 y3 y4
        refine (CIW.out _).mono ?_; rintro e w11 ⟨rfl, hf11⟩
        have F11 := Lib.hid hf11
        clear hf11
        go_wp2
        go_ret2
        have hadd : s0.add p0 = ⟨tid, ttot, tsum, txs⟩ := by unfold BSt.add; rw [if_pos HEZ.out]; exact (HT.out HE0.out).symm
        refine ⟨.nilIface, .slice A9 L9 c9, ?_, ?_, ?_, F10.out.trans F11.out (fun _ _ h => h.elim), HM8.out⟩
        · have haddB : s0.addB p0 = ((L9 : Int) == ttot) := by unfold BSt.addB BSt.whole; rw [if_pos HEZ.out, hadd]; simp only [HL9.out]; rfl
          rw [haddB]; rfl
        · unfold BrkV; rw [if_pos HE0.out]
        · rw [hadd]
          refine ⟨hadd ▸ BSt.add_ok HOK.out HPS.out, .inr ⟨ga, PB.out.fr F11.out (fun h => h), P1.out.fr F11.out (fun h => h), P2.out.fr F11.out (fun _ _ h => h)⟩⟩
      · skip
        go_simp
        have KA := Lib.hid (show Bk (v1.alloc (.cells #[.int .i64 0, .int .i64 0, .int .i64 0, .int .u32 0, .slice none 0 0] 36)) v1.heap.size 36 #[.int .i64 0, .int .i64 0, .int .i64 0, .int .u32 0, .slice none 0 0] from Bk.new v1 36 #[.int .i64 0, .int .i64 0, .int .i64 0, .int .u32 0, .slice none 0 0])
        obtain ⟨ga, hga⟩ : ∃ ga, v1.heap.size = ga := ⟨_, rfl⟩
        rw [hga] at KA ⊢
        have HGA := Lib.hid hga
        clear hga
        refine hK.out _ _ (hHeld.alloc _) (fun hHeld => ?_)
        clear hK K
        try change anyZ _ _ _ _ _ _ _ _ (Act.put _ (some 6) _) _
        try simp only [Act.put, List.setIfInBounds_toArray, List.set_cons_zero, List.set_cons_succ]
        refine anyZ_ready (rs := [3]) (by kernel_rfl) (by simp) ?_
        refine AllZ.last rfl (by kernel_rfl) (fun K hK => ?_) AllZ.nil
        go_simp
        refine (CJ.out _ hHeld).mono ?_; rintro e9 v3 hj
        obtain ⟨t, v', rfl, ht, ho9, hf9, hm9, hno9⟩ := hj
        obtain ⟨tid, ttot, tsum, txs⟩ := t
        obtain ⟨A9, c9, rfl, hc1, hc2⟩ := ho9.slice
        simp only at ho9 hm9 ⊢
        obtain ⟨L9, hL9⟩ : ∃ L9, txs.length = L9 := ⟨_, rfl⟩
        simp only [BSt.v, hL9] at ho9 hm9 ⊢
        have HL9 := Lib.hid hL9
        have HT := Lib.hid ht
        have HM9 := Lib.hid hm9
        have HO9 := Lib.hid ho9
        have HJF := Lib.hid (((FW.out.trans hHeld (fun _ _ h => h)).mono (fun _ _ h => h.elim)).trans hf9 (fun _ _ h => h))
        have HJN : Hid (¬ E = 0 → Fr (fun _ => False) w v3) := Lib.hid (fun h => (FW.out.trans hHeld (fun _ _ h => h)).trans (hno9 h) (fun _ _ h => h))
        have HSZ : Hid (W.heap.size ≤ v3.heap.size) := Lib.hid (Nat.le_trans hHeld.size hf9.size)
        have HP3 : Hid (Bk v3 pb 36 #[.int .i64 p0.id, .int .i64 p0.at_, .int .i64 p0.total, .int .u32 p0.sum, .slice D m k]) := Lib.hid ((KP.out.fr hHeld (fun h => h)).fr hf9 (fun h => by have := HOW.out.lt h; have := HPE.out; omega))
        have HM8 : Hid (∀ x, (Value.slice A9 L9 c9).ownBlock = some x → (Value.slice A n c).ownBlock = some x ∨ w.heap.size ≤ x) := Lib.hid (fun x hx => (hm9 x hx).imp id (fun h => by have h1 := hHeld.size; have h2 := FW.out.size; omega))
        have HGL : Hid (W.heap.size ≤ ga) := Lib.hid (by have := HGA.out; have := HV1.out; omega)
        have KA3 : Hid (Bk v3 ga 36 #[.int .i64 0, .int .i64 0, .int .i64 0, .int .u32 0, .slice none 0 0]) := Lib.hid (KA.out.fr hf9 (fun h => by have := HOW.out.lt h; have := HGL.out; have := HPB.out; have := HPE.out; omega))
        clear ht ho9 hf9 hm9 hno9 hL9
        obtain ⟨W8, hW8⟩ : ∃ W8, set5 v3 ga (.int .i64 tid) (.int .i64 0) (.int .i64 ttot) (.int .u32 tsum) (.slice A9 L9 c9) = W8 := ⟨_, rfl⟩
        have HGW : Hid (W.heap.size ≤ ga) := Lib.hid (HGL.out)
        have FC : Hid (Fr (fun x => (Value.slice A n c).ownBlock = some x) w v3) := Lib.hid ((HJF.out))
        have N1 : Hid (Bk W8 ga 36 #[.int .i64 tid, .int .i64 0, .int .i64 ttot, .int .u32 tsum, .slice A9 L9 c9]) := Lib.hid (by rw [← hW8]; exact KA3.out.set5 ..)
        have FS : Hid (Fr (fun x => x = ga) v3 W8) := Lib.hid (by rw [← hW8]; exact Fr.set5 (Fr.refl (fun x => x = ga) _) (fun _ => rfl) ..)
        have N2 : Hid (Bk W8 pb 36 #[.int .i64 p0.id, .int .i64 p0.at_, .int .i64 p0.total, .int .u32 p0.sum, .slice D m k]) := Lib.hid ((HP3.out).fr FS.out (fun e => by have := HGW.out; have := HPB.out; have e' : pb = ga := e; omega))
        have O8 : Hid (Own8 W8 5 (.slice A9 L9 c9) txs) := Lib.hid ((HO9.out).fr FS.out (fun x hx e => (HO9.out).ne KA3.out (by decide) (e ▸ hx)))
        have F8 : Hid (Fr (fun x => (Value.slice A n c).ownBlock = some x) w W8) := Lib.hid (FC.out.trans FS.out (fun x hx e => by have := HGW.out; have := HPB.out; have := HPE.out; have e' : x = ga := e; omega))
        have X8 : Hid (¬ E = 0 → Fr (fun _ => False) w W8) := Lib.hid (fun h => ((HJN.out h)).trans FS.out (fun x hx e => by have := HGW.out; have := HPB.out; have := HPE.out; have e' : x = ga := e; omega))
        unfold set5 at hW8
        have z0 := KA3.out.cell 0
        have z1 := KA3.out.cell 1
        have z2 := KA3.out.cell 2
        have z3 := KA3.out.cell 3
        have z4 := KA3.out.cell 4
        have zf0 := KA3.out.frozen 0
        have zf1 := KA3.out.frozen 1
        have zf2 := KA3.out.frozen 2
        have zf3 := KA3.out.frozen 3
        have zf4 := KA3.out.frozen 4
        refine hK.out _ _ ?_
        clear hK K
        try change anyZ _ _ _ _ _ _ _ _ (Act.put _ (some 13) _) _
        try simp only [Act.put, List.setIfInBounds_toArray, List.set_cons_zero, List.set_cons_succ]
        refine anyZ_pure (i := 4) (v := ?_) (some 9) rfl rfl (by kernel_rfl) (by kernel_rfl) (by kernel_rfl) (by kernel_rfl) (fun _ _ _ h => h) (Or.inl ⟨by rfl, ?_⟩) (notYet (by kernel_rfl)) ?_
        rotate_left
        · intro w' _
          go_simp
          first | done | with_reducible rfl
        try simp only [Act.put, List.setIfInBounds_toArray, List.set_cons_zero, List.set_cons_succ]
        refine anyZ_pure (i := 5) (v := ?_) (some 14) rfl rfl (by kernel_rfl) (by kernel_rfl) (by kernel_rfl) (by kernel_rfl) (fun _ _ _ h => h) (Or.inl ⟨by rfl, ?_⟩) (notYet (by kernel_rfl)) ?_
        rotate_left
        · intro w' _
          go_simp
          first | done | with_reducible rfl
        try simp only [Act.put, List.setIfInBounds_toArray, List.set_cons_zero, List.set_cons_succ]
        refine anyZ_pure (i := 6) (v := ?_) (some 15) rfl rfl (by kernel_rfl) (by kernel_rfl) (by kernel_rfl) (by kernel_rfl) (fun _ _ _ h => h) (Or.inl ⟨by rfl, ?_⟩) (notYet (by kernel_rfl)) ?_
        rotate_left
        · intro w' _
          go_simp
          first | done | with_reducible rfl
        try simp only [Act.put, List.setIfInBounds_toArray, List.set_cons_zero, List.set_cons_succ]
        refine anyZ_ready (rs := [8]) (by kernel_rfl) (by simp) ?_
        refine AllZ.last rfl (by kernel_rfl) (fun K hK => ?_) AllZ.nil
        go_simp
        refine hK.out _ _ ?_
        clear hK K
        try change anyZ _ _ _ _ _ _ _ _ (Act.put _ none _) _
        try simp only [Act.put, List.setIfInBounds_toArray, List.set_cons_zero, List.set_cons_succ]
        refine anyZ_pure (i := 9) (v := ?_) (some 7) rfl rfl (by kernel_rfl) (by kernel_rfl) (by kernel_rfl) (by kernel_rfl) (fun _ _ _ h => h) (Or.inl ⟨by rfl, ?_⟩) (notYet (by kernel_rfl)) ?_
        rotate_left
        · intro w' _
          go_simp
          first | done | with_reducible rfl
        try simp only [Act.put, List.setIfInBounds_toArray, List.set_cons_zero, List.set_cons_succ]
        refine anyZ_done (by kernel_rfl) ?_ _
        clear z0 zf0 z1 zf1 z2 zf2 z3 zf3 z4 zf4 hW8
        have x0 := N2.out.cell 0
        have CK := Lib.hid (broken_any p0.id E W8 (HET.out.fr F8.out (fun h => HEN.out h)))
        have yy0 := N1.out.cell 0
        have yy1 := N1.out.cell 1
        have yy2 := N1.out.cell 2
        have yy3 := N1.out.cell 3
        have yy4 := N1.out.cell 4
        clear yy0 yy1 yy2 yy3 yy4
        go_wp2_with fail
        refine CK.out.mono ?_; rintro e w9 ⟨xv, rfl, hbv, hf9⟩
        obtain rfl : xv = .nilIface := by unfold BrkV at hbv; rw [if_pos HE0.out] at hbv; exact hbv
        have F9 := Lib.hid (F8.out.trans hf9 (fun _ _ h => h.elim))
        have M1 := Lib.hid (N1.out.fr hf9 (fun h => h))
        have M2 := Lib.hid (O8.out.fr hf9 (fun _ _ h => h))
        obtain ⟨cb, KB⟩ : ∃ cb, Hid (Bk w9 b 79 #[cb]) := by
          obtain ⟨cb, h⟩ := HBK.out
          exact ⟨cb, Lib.hid (h.fr F9.out (fun h2 => HOW.out.ne h (by decide) h2))⟩
        obtain ⟨W10, hW10⟩ : ∃ W10, w9.setCell ⟨b, 0, none⟩ (.pointer (some ⟨ga, 0, none⟩)) = W10 := ⟨_, rfl⟩
        have hbg : b ≠ ga := fun e => by
          subst e
          exact Bk.ne KB.out M1.out (by decide) rfl
        have P1 : Hid (Bk W10 ga 36 #[.int .i64 tid, .int .i64 0, .int .i64 ttot, .int .u32 tsum, .slice A9 L9 c9]) := Lib.hid (by rw [← hW10]; exact M1.out.far (fun e => hbg e.symm) _)
        have PB : Hid (Bk W10 b 79 #[.pointer (some ⟨ga, 0, none⟩)]) := Lib.hid (by rw [← hW10]; exact KB.out.set 0 _)
        have P2 : Hid (Own8 W10 5 (.slice A9 L9 c9) txs) := Lib.hid (M2.out.fr (S := fun x => x = b) (by rw [← hW10]; exact Fr.setCell (Fr.refl (fun x => x = b) w9) (p := ⟨b, 0, none⟩) (fun _ => rfl) _) (fun x hx e => M2.out.ne KB.out (by decide) (e ▸ hx)))
        have F10 : Hid (Fr (fun x => x = b ∨ (Value.slice A n c).ownBlock = some x) w W10) := Lib.hid (by
          rw [← hW10]
          exact Fr.setCell (F9.out.mono (fun _ _ h => .inr h)) (p := ⟨b, 0, none⟩) (fun _ => .inl rfl) _)
        have CIW := Lib.hid (fun w' => isWhole_any tid 0 ttot tsum A9 L9 c9 w')
        have k0 := KB.out.cell 0
        have kf := KB.out.frozen 0
        have y0 := P1.out.cell 0
        have y1 := P1.out.cell 1
        have y2 := P1.out.cell 2
        have y3 := P1.out.cell 3
        have y4 := P1.out.cell 4
        clear hbv hf9 CK x0 hbg
        go_wp2_with fail
        clear hW10 k0 kf y0 y1 y2 y3 y4
        refine (CIW.out _).mono ?_; rintro e w11 ⟨rfl, hf11⟩
        have F11 := Lib.hid hf11
        clear hf11
        go_wp2
        go_ret2
        have hadd : s0.add p0 = ⟨tid, ttot, tsum, txs⟩ := by unfold BSt.add; rw [if_pos HEZ.out]; exact (HT.out HE0.out).symm
        refine ⟨.nilIface, .slice A9 L9 c9, ?_, ?_, ?_, F10.out.trans F11.out (fun _ _ h => h.elim), HM8.out⟩
        · have haddB : s0.addB p0 = ((L9 : Int) == ttot) := by unfold BSt.addB BSt.whole; rw [if_pos HEZ.out, hadd]; simp only [HL9.out]; rfl
          rw [haddB]; rfl
        · unfold BrkV; rw [if_pos HE0.out]
        · rw [hadd]
          refine ⟨hadd ▸ BSt.add_ok HOK.out HPS.out, .inr ⟨ga, PB.out.fr F11.out (fun h => h), P1.out.fr F11.out (fun h => h), P2.out.fr F11.out (fun _ _ h => h)⟩⟩
    · skip
      go_simp
      have KA := Lib.hid (show Bk (W.alloc (.cells #[.int .i64 0, .int .i64 0, .int .i64 0, .int .u32 0, .slice none 0 0] 36)).drew W.heap.size 36 #[.int .i64 0, .int .i64 0, .int .i64 0, .int .u32 0, .slice none 0 0] from Bk.new W 36 #[.int .i64 0, .int .i64 0, .int .i64 0, .int .u32 0, .slice none 0 0])
      obtain ⟨ga, hga⟩ : ∃ ga, W.heap.size = ga := ⟨_, rfl⟩
      rw [hga] at KA ⊢
      have HGA := Lib.hid hga
      clear hga
      refine hK.out _ _ (hHeld.alloc _) (fun hHeld => ?_)
      clear hK K
      try change anyZ _ _ _ _ _ _ _ _ (Act.put _ (some 6) _) _
      try simp only [Act.put, List.setIfInBounds_toArray, List.set_cons_zero, List.set_cons_succ]
      refine anyZ_ready (rs := [1]) (by kernel_rfl) (by simp) ?_
      refine AllZ.step rfl (fun K hK => ?_) AllZ.nil
      go_simp
      refine (CB.out _ hHeld).mono ?_; rintro e8 v1 ⟨rfl, hf1⟩
      have HB1 := Lib.hid hf1
      have HV1 : Hid (W.heap.size ≤ v1.heap.size) := Lib.hid (Nat.le_trans hHeld.size hf1.size)
      refine hK.out _ _ (hHeld.trans hf1 (fun _ _ h => h)) (fun hHeld => ?_)
      clear hK K
      try change anyZ _ _ _ _ _ _ _ _ (Act.put _ (some 11) _) _
      try simp only [Act.put, List.setIfInBounds_toArray, List.set_cons_zero, List.set_cons_succ]
      refine anyZ_ready (rs := [3]) (by kernel_rfl) (by simp) ?_
      refine AllZ.last rfl (by kernel_rfl) (fun K hK => ?_) AllZ.nil
      go_simp
      refine (CJ.out _ hHeld).mono ?_; rintro e9 v3 hj
      obtain ⟨t, v', rfl, ht, ho9, hf9, hm9, hno9⟩ := hj
      obtain ⟨tid, ttot, tsum, txs⟩ := t
      obtain ⟨A9, c9, rfl, hc1, hc2⟩ := ho9.slice
      simp only at ho9 hm9 ⊢
      obtain ⟨L9, hL9⟩ : ∃ L9, txs.length = L9 := ⟨_, rfl⟩
      simp only [BSt.v, hL9] at ho9 hm9 ⊢
      have HL9 := Lib.hid hL9
      have HT := Lib.hid ht
      have HM9 := Lib.hid hm9
      have HO9 := Lib.hid ho9
      have HJF := Lib.hid (((FW.out.trans hHeld (fun _ _ h => h)).mono (fun _ _ h => h.elim)).trans hf9 (fun _ _ h => h))
      have HJN : Hid (¬ E = 0 → Fr (fun _ => False) w v3) := Lib.hid (fun h => (FW.out.trans hHeld (fun _ _ h => h)).trans (hno9 h) (fun _ _ h => h))
      have HSZ : Hid (W.heap.size ≤ v3.heap.size) := Lib.hid (Nat.le_trans hHeld.size hf9.size)
      have HP3 : Hid (Bk v3 pb 36 #[.int .i64 p0.id, .int .i64 p0.at_, .int .i64 p0.total, .int .u32 p0.sum, .slice D m k]) := Lib.hid ((KP.out.fr hHeld (fun h => h)).fr hf9 (fun h => by have := HOW.out.lt h; have := HPE.out; omega))
      have HM8 : Hid (∀ x, (Value.slice A9 L9 c9).ownBlock = some x → (Value.slice A n c).ownBlock = some x ∨ w.heap.size ≤ x) := Lib.hid (fun x hx => (hm9 x hx).imp id (fun h => by have h1 := hHeld.size; have h2 := FW.out.size; omega))
      have HGL : Hid (W.heap.size ≤ ga) := Lib.hid (by have := HGA.out; omega)
      have KA3 : Hid (Bk v3 ga 36 #[.int .i64 0, .int .i64 0, .int .i64 0, .int .u32 0, .slice none 0 0]) := Lib.hid ((KA.out.fr HB1.out (fun h => h)).fr hf9 (fun h => by have := HOW.out.lt h; have := HGL.out; have := HPB.out; have := HPE.out; omega))
      clear ht ho9 hf9 hm9 hno9 hL9
      obtain ⟨W8, hW8⟩ : ∃ W8, set5 v3 ga (.int .i64 tid) (.int .i64 0) (.int .i64 ttot) (.int .u32 tsum) (.slice A9 L9 c9) = W8 := ⟨_, rfl⟩
      have HGW : Hid (W.heap.size ≤ ga) := Lib.hid (HGL.out)
      have FC : Hid (Fr (fun x => (Value.slice A n c).ownBlock = some x) w v3) := Lib.hid ((HJF.out))
      have N1 : Hid (Bk W8 ga 36 #[.int .i64 tid, .int .i64 0, .int .i64 ttot, .int .u32 tsum, .slice A9 L9 c9]) := Lib.hid (by rw [← hW8]; exact KA3.out.set5 ..)
      have FS : Hid (Fr (fun x => x = ga) v3 W8) := Lib.hid (by rw [← hW8]; exact Fr.set5 (Fr.refl (fun x => x = ga) _) (fun _ => rfl) ..)
      have N2 : Hid (Bk W8 pb 36 #[.int .i64 p0.id, .int .i64 p0.at_, .int .i64 p0.total, .int .u32 p0.sum, .slice D m k]) := Lib.hid ((HP3.out).fr FS.out (fun e => by have := HGW.out; have := HPB.out; have e' : pb = ga := e; omega))
      have O8 : Hid (Own8 W8 5 (.slice A9 L9 c9) txs) := Lib.hid ((HO9.out).fr FS.out (fun x hx e => (HO9.out).ne KA3.out (by decide) (e ▸ hx)))
      have F8 : Hid (Fr (fun x => (Value.slice A n c).ownBlock = some x) w W8) := Lib.hid (FC.out.trans FS.out (fun x hx e => by have := HGW.out; have := HPB.out; have := HPE.out; have e' : x = ga := e; omega))
      have X8 : Hid (¬ E = 0 → Fr (fun _ => False) w W8) := Lib.hid (fun h => ((HJN.out h)).trans FS.out (fun x hx e => by have := HGW.out; have := HPB.out; have := HPE.out; have e' : x = ga := e; omega))
      unfold set5 at hW8
      have z0 := KA3.out.cell 0
      have z1 := KA3.out.cell 1
      have z2 := KA3.out.cell 2
      have z3 := KA3.out.cell 3
      have z4 := KA3.out.cell 4
      have zf0 := KA3.out.frozen 0
      have zf1 := KA3.out.frozen 1
      have zf2 := KA3.out.frozen 2
      have zf3 := KA3.out.frozen 3
      have zf4 := KA3.out.frozen 4
      refine hK.out _ _ ?_
      clear hK K
      try change anyZ _ _ _ _ _ _ _ _ (Act.put _ (some 13) _) _
      try simp only [Act.put, List.setIfInBounds_toArray, List.set_cons_zero, List.set_cons_succ]
      refine anyZ_pure (i := 4) (v := ?_) (some 9) rfl rfl (by kernel_rfl) (by kernel_rfl) (by kernel_rfl) (by kernel_rfl) (fun _ _ _ h => h) (Or.inl ⟨by rfl, ?_⟩) (notYet (by kernel_rfl)) ?_
      rotate_left
      · intro w' _
        go_simp
        first | done | with_reducible rfl
      try simp only [Act.put, List.setIfInBounds_toArray, List.set_cons_zero, List.set_cons_succ]
      refine anyZ_pure (i := 5) (v := ?_) (some 14) rfl rfl (by kernel_rfl) (by kernel_rfl) (by kernel_rfl) (by kernel_rfl) (fun _ _ _ h => h) (Or.inl ⟨by rfl, ?_⟩) (notYet (by kernel_rfl)) ?_
      rotate_left
      · intro w' _
        go_simp
        first | done | with_reducible rfl
      try simp only [Act.put, List.setIfInBounds_toArray, List.set_cons_zero, List.set_cons_succ]
      refine anyZ_pure (i := 6) (v := ?_) (some 15) rfl rfl (by kernel_rfl) (by kernel_rfl) (by kernel_rfl) (by kernel_rfl) (fun _ _ _ h => h) (Or.inl ⟨by rfl, ?_⟩) (notYet (by kernel_rfl)) ?_
      rotate_left
      · intro w' _
        go_simp
        first | done | with_reducible rfl
      try simp only [Act.put, List.setIfInBounds_toArray, List.set_cons_zero, List.set_cons_succ]
      refine anyZ_ready (rs := [8]) (by kernel_rfl) (by simp) ?_
      refine AllZ.last rfl (by kernel_rfl) (fun K hK => ?_) AllZ.nil
      go_simp
      refine hK.out _ _ ?_
      clear hK K
      try change anyZ _ _ _ _ _ _ _ _ (Act.put _ none _) _
      try simp only [Act.put, List.setIfInBounds_toArray, List.set_cons_zero, List.set_cons_succ]
      refine anyZ_pure (i := 9) (v := ?_) (some 7) rfl rfl (by kernel_rfl) (by kernel_rfl) (by kernel_rfl) (by kernel_rfl) (fun _ _ _ h => h) (Or.inl ⟨by rfl, ?_⟩) (notYet (by kernel_rfl)) ?_
      rotate_left
      · intro w' _
        go_simp
        first | done | with_reducible rfl
      try simp only [Act.put, List.setIfInBounds_toArray, List.set_cons_zero, List.set_cons_succ]
      refine anyZ_done (by kernel_rfl) ?_ _
      clear z0 zf0 z1 zf1 z2 zf2 z3 zf3 z4 zf4 hW8
      have x0 := N2.out.cell 0
      have CK := Lib.hid (broken_any p0.id E W8 (HET.out.fr F8.out (fun h => HEN.out h)))
      have yy0 := N1.out.cell 0
      have yy1 := N1.out.cell 1
      have yy2 := N1.out.cell 2
      have yy3 := N1.out.cell 3
      have yy4 := N1.out.cell 4
      clear yy0 yy1 yy2 yy3 yy4
      go_wp2_with fail
      refine CK.out.mono ?_; rintro e w9 ⟨xv, rfl, hbv, hf9⟩
      obtain rfl : xv = .nilIface := by unfold BrkV at hbv; rw [if_pos HE0.out] at hbv; exact hbv
      have F9 := Lib.hid (F8.out.trans hf9 (fun _ _ h => h.elim))
      have M1 := Lib.hid (N1.out.fr hf9 (fun h => h))
      have M2 := Lib.hid (O8.out.fr hf9 (fun _ _ h => h))
      obtain ⟨cb, KB⟩ : ∃ cb, Hid (Bk w9 b 79 #[cb]) := by
        obtain ⟨cb, h⟩ := HBK.out
        exact ⟨cb, Lib.hid (h.fr F9.out (fun h2 => HOW.out.ne h (by decide) h2))⟩
      obtain ⟨W10, hW10⟩ : ∃ W10, w9.setCell ⟨b, 0, none⟩ (.pointer (some ⟨ga, 0, none⟩)) = W10 := ⟨_, rfl⟩
      have hbg : b ≠ ga := fun e => by
        subst e
        exact Bk.ne KB.out M1.out (by decide) rfl
      have P1 : Hid (Bk W10 ga 36 #[.int .i64 tid, .int .i64 0, .int .i64 ttot, .int .u32 tsum, .slice A9 L9 c9]) := Lib.hid (by rw [← hW10]; exact M1.out.far (fun e => hbg e.symm) _)
      have PB : Hid (Bk W10 b 79 #[.pointer (some ⟨ga, 0, none⟩)]) := Lib.hid (by rw [← hW10]; exact KB.out.set 0 _)
      have P2 : Hid (Own8 W10 5 (.slice A9 L9 c9) txs) := Lib.hid (M2.out.fr (S := fun x => x = b) (by rw [← hW10]; exact Fr.setCell (Fr.refl (fun x => x = b) w9) (p := ⟨b, 0, none⟩) (fun _ => rfl) _) (fun x hx e => M2.out.ne KB.out (by decide) (e ▸ hx)))
      have F10 : Hid (Fr (fun x => x = b ∨ (Value.slice A n c).ownBlock = some x) w W10) := Lib.hid (by
        rw [← hW10]
        exact Fr.setCell (F9.out.mono (fun _ _ h => .inr h)) (p := ⟨b, 0, none⟩) (fun _ => .inl rfl) _)
      have CIW := Lib.hid (fun w' => isWhole_any tid 0 ttot tsum A9 L9 c9 w')
      have k0 := KB.out.cell 0
      have kf := KB.out.frozen 0
      have y0 := P1.out.cell 0
      have y1 := P1.out.cell 1
      have y2 := P1.out.cell 2
      have y3 := P1.out.cell 3
      have y4 := P1.out.cell 4
      clear hbv hf9 CK x0 hbg
      go_wp2_with fail
      clear hW10 k0 kf y0 y1 y2 y3 y4
      refine (CIW.out _).mono ?_; rintro e w11 ⟨rfl, hf11⟩
      have F11 := Lib.hid hf11
      clear hf11
      go_wp2
      go_ret2
      have hadd : s0.add p0 = ⟨tid, ttot, tsum, txs⟩ := by unfold BSt.add; rw [if_pos HEZ.out]; exact (HT.out HE0.out).symm
      refine ⟨.nilIface, .slice A9 L9 c9, ?_, ?_, ?_, F10.out.trans F11.out (fun _ _ h => h.elim), HM8.out⟩
      · have haddB : s0.addB p0 = ((L9 : Int) == ttot) := by unfold BSt.addB BSt.whole; rw [if_pos HEZ.out, hadd]; simp only [HL9.out]; rfl
        rw [haddB]; rfl
      · unfold BrkV; rw [if_pos HE0.out]
      · rw [hadd]
        refine ⟨hadd ▸ BSt.add_ok HOK.out HPS.out, .inr ⟨ga, PB.out.fr F11.out (fun h => h), P1.out.fr F11.out (fun h => h), P2.out.fr F11.out (fun _ _ h => h)⟩⟩
  · have HNZ := Lib.hid hz
    have hadd : Hid (s0.add p0 = s0 ∧ s0.addB p0 = false) := Lib.hid (by unfold BSt.add BSt.addB; rw [if_neg (by rw [HEE.out]; exact hz), if_neg (by rw [HEE.out]; exact hz)]; exact ⟨rfl, rfl⟩)
    rw [hadd.out.1, hadd.out.2]
    clear hz
    go_enter Tryd.func17, Tryd.ntmps17
    go_wp2_with fail
    clear hW hpb
    refine wp_region_Z [3, 8] (fun w' => Fr (fun _ => False) W w') (by kernel_rfl) ((Fr.refl _ _).drew) (fun hHeld => ?_)
    refine anyZ_pure (i := 0) (v := ?_) (some 10) rfl rfl (by kernel_rfl) (by kernel_rfl) (by kernel_rfl) (by kernel_rfl) (fun _ _ _ h => h) (Or.inl ⟨by rfl, ?_⟩) (fun _ => hHeld) ?_
    rotate_left
    · intro w' _
      go_simp
      first | done | with_reducible rfl
    try simp only [Act.put, List.setIfInBounds_toArray, List.set_cons_zero, List.set_cons_succ]
    refine anyZ_read (i := 2) (v := ?_) (some 12) [3, 4, 5, 6, 8, 9] rfl rfl (by kernel_rfl) (by kernel_rfl) (by kernel_rfl) (by kernel_rfl) (by kernel_rfl) (by kernel_rfl) (fun _ _ _ h => h) (Or.inl ⟨by rfl, ?_⟩) hHeld ?_
    rotate_left
    · intro w' hSw
      have KPw := KP.out.fr hSw (fun h => h)
      have p0 := KPw.cell 0
      have p1 := KPw.cell 1
      have p2 := KPw.cell 2
      have p3 := KPw.cell 3
      have p4 := KPw.cell 4
      go_simp
      first | done | with_reducible rfl
    try simp only [Act.put, List.setIfInBounds_toArray, List.set_cons_zero, List.set_cons_succ]
    refine anyZ_ready (rs := [1, 7]) (by kernel_rfl) (by simp) ?_
    refine AllZ.step rfl (fun K hK => ?_) (AllZ.step rfl (fun K hK => ?_) AllZ.nil)
    · skip
      go_simp
      refine (CB.out _ hHeld).mono ?_; rintro e8 v1 ⟨rfl, hf1⟩
      have HV1 : Hid (W.heap.size ≤ v1.heap.size) := Lib.hid (Nat.le_trans hHeld.size hf1.size)
      refine hK.out _ _ (hHeld.trans hf1 (fun _ _ h => h)) (fun hHeld => ?_)
      clear hK K
      try change anyZ _ _ _ _ _ _ _ _ (Act.put _ (some 11) _) _
      try simp only [Act.put, List.setIfInBounds_toArray, List.set_cons_zero, List.set_cons_succ]
      refine anyZ_ready (rs := [3, 7]) (by kernel_rfl) (by simp) ?_
      refine AllZ.last rfl (by kernel_rfl) (fun K hK => ?_) (AllZ.step rfl (fun K hK => ?_) AllZ.nil)
      · skip
        go_simp
        refine (CJ.out _ hHeld).mono ?_; rintro e9 v3 hj
        obtain ⟨t, v', rfl, ht, ho9, hf9, hm9, hno9⟩ := hj
        obtain ⟨tid, ttot, tsum, txs⟩ := t
        obtain ⟨A9, c9, rfl, hc1, hc2⟩ := ho9.slice
        simp only at ho9 hm9 ⊢
        obtain ⟨L9, hL9⟩ : ∃ L9, txs.length = L9 := ⟨_, rfl⟩
        simp only [BSt.v, hL9] at ho9 hm9 ⊢
        have HL9 := Lib.hid hL9
        have HT := Lib.hid ht
        have HM9 := Lib.hid hm9
        have HO9 := Lib.hid ho9
        have HJF := Lib.hid (((FW.out.trans hHeld (fun _ _ h => h)).mono (fun _ _ h => h.elim)).trans hf9 (fun _ _ h => h))
        have HJN : Hid (¬ E = 0 → Fr (fun _ => False) w v3) := Lib.hid (fun h => (FW.out.trans hHeld (fun _ _ h => h)).trans (hno9 h) (fun _ _ h => h))
        have HSZ : Hid (W.heap.size ≤ v3.heap.size) := Lib.hid (Nat.le_trans hHeld.size hf9.size)
        have HP3 : Hid (Bk v3 pb 36 #[.int .i64 p0.id, .int .i64 p0.at_, .int .i64 p0.total, .int .u32 p0.sum, .slice D m k]) := Lib.hid ((KP.out.fr hHeld (fun h => h)).fr hf9 (fun h => by have := HOW.out.lt h; have := HPE.out; omega))
        have HM8 : Hid (∀ x, (Value.slice A9 L9 c9).ownBlock = some x → (Value.slice A n c).ownBlock = some x ∨ w.heap.size ≤ x) := Lib.hid (fun x hx => (hm9 x hx).imp id (fun h => by have h1 := hHeld.size; have h2 := FW.out.size; omega))
        clear ht ho9 hf9 hm9 hno9 hL9
        refine hK.out _ _ ?_
        clear hK K
        try change anyZ _ _ _ _ _ _ _ _ (Act.put _ (some 13) _) _
        try simp only [Act.put, List.setIfInBounds_toArray, List.set_cons_zero, List.set_cons_succ]
        refine anyZ_pure (i := 4) (v := ?_) (some 9) rfl rfl (by kernel_rfl) (by kernel_rfl) (by kernel_rfl) (by kernel_rfl) (fun _ _ _ h => h) (Or.inl ⟨by rfl, ?_⟩) (notYet (by kernel_rfl)) ?_
        rotate_left
        · intro w' _
          go_simp
          first | done | with_reducible rfl
        try simp only [Act.put, List.setIfInBounds_toArray, List.set_cons_zero, List.set_cons_succ]
        refine anyZ_pure (i := 5) (v := ?_) (some 14) rfl rfl (by kernel_rfl) (by kernel_rfl) (by kernel_rfl) (by kernel_rfl) (fun _ _ _ h => h) (Or.inl ⟨by rfl, ?_⟩) (notYet (by kernel_rfl)) ?_
        rotate_left
        · intro w' _
          go_simp
          first | done | with_reducible rfl
        try simp only [Act.put, List.setIfInBounds_toArray, List.set_cons_zero, List.set_cons_succ]
        refine anyZ_pure (i := 6) (v := ?_) (some 15) rfl rfl (by kernel_rfl) (by kernel_rfl) (by kernel_rfl) (by kernel_rfl) (fun _ _ _ h => h) (Or.inl ⟨by rfl, ?_⟩) (notYet (by kernel_rfl)) ?_
        rotate_left
        · intro w' _
          go_simp
          first | done | with_reducible rfl
        try simp only [Act.put, List.setIfInBounds_toArray, List.set_cons_zero, List.set_cons_succ]
        refine anyZ_ready (rs := [7]) (by kernel_rfl) (by simp) ?_
        refine AllZ.last rfl (by kernel_rfl) (fun K hK => ?_) AllZ.nil
        go_simp
        have KA := Lib.hid (show Bk (v3.alloc (.cells #[.int .i64 0, .int .i64 0, .int .i64 0, .int .u32 0, .slice none 0 0] 36)) v3.heap.size 36 #[.int .i64 0, .int .i64 0, .int .i64 0, .int .u32 0, .slice none 0 0] from Bk.new v3 36 #[.int .i64 0, .int .i64 0, .int .i64 0, .int .u32 0, .slice none 0 0])
        obtain ⟨ga, hga⟩ : ∃ ga, v3.heap.size = ga := ⟨_, rfl⟩
        rw [hga] at KA ⊢
        have HGA := Lib.hid hga
        clear hga
        obtain ⟨W8, hW8⟩ : ∃ W8, set5 (v3.alloc (.cells #[.int .i64 0, .int .i64 0, .int .i64 0, .int .u32 0, .slice none 0 0] 36)) ga (.int .i64 tid) (.int .i64 0) (.int .i64 ttot) (.int .u32 tsum) (.slice A9 L9 c9) = W8 := ⟨_, rfl⟩
        have HGW : Hid (W.heap.size ≤ ga) := Lib.hid (by have := HGA.out; have := HSZ.out; omega)
        have FC : Hid (Fr (fun x => (Value.slice A n c).ownBlock = some x) w (v3.alloc (.cells #[.int .i64 0, .int .i64 0, .int .i64 0, .int .u32 0, .slice none 0 0] 36))) := Lib.hid ((HJF.out).alloc _)
        have N1 : Hid (Bk W8 ga 36 #[.int .i64 tid, .int .i64 0, .int .i64 ttot, .int .u32 tsum, .slice A9 L9 c9]) := Lib.hid (by rw [← hW8]; exact KA.out.set5 ..)
        have FS : Hid (Fr (fun x => x = ga) (v3.alloc (.cells #[.int .i64 0, .int .i64 0, .int .i64 0, .int .u32 0, .slice none 0 0] 36)) W8) := Lib.hid (by rw [← hW8]; exact Fr.set5 (Fr.refl (fun x => x = ga) _) (fun _ => rfl) ..)
        have N2 : Hid (Bk W8 pb 36 #[.int .i64 p0.id, .int .i64 p0.at_, .int .i64 p0.total, .int .u32 p0.sum, .slice D m k]) := Lib.hid ((HP3.out.alloc (.cells #[.int .i64 0, .int .i64 0, .int .i64 0, .int .u32 0, .slice none 0 0] 36)).fr FS.out (fun e => by have := HGW.out; have := HPB.out; have e' : pb = ga := e; omega))
        have O8 : Hid (Own8 W8 5 (.slice A9 L9 c9) txs) := Lib.hid ((HO9.out.fr (S := fun _ => False) ((Fr.refl _ _).alloc _) (fun _ _ h => h)).fr FS.out (fun x hx e => (HO9.out.fr (S := fun _ => False) ((Fr.refl _ _).alloc _) (fun _ _ h => h)).ne KA.out (by decide) (e ▸ hx)))
        have F8 : Hid (Fr (fun x => (Value.slice A n c).ownBlock = some x) w W8) := Lib.hid (FC.out.trans FS.out (fun x hx e => by have := HGW.out; have := HPB.out; have := HPE.out; have e' : x = ga := e; omega))
        have X8 : Hid (¬ E = 0 → Fr (fun _ => False) w W8) := Lib.hid (fun h => ((HJN.out h).alloc _).trans FS.out (fun x hx e => by have := HGW.out; have := HPB.out; have := HPE.out; have e' : x = ga := e; omega))
        unfold set5 at hW8
        have z0 := KA.out.cell 0
        have z1 := KA.out.cell 1
        have z2 := KA.out.cell 2
        have z3 := KA.out.cell 3
        have z4 := KA.out.cell 4
        have zf0 := KA.out.frozen 0
        have zf1 := KA.out.frozen 1
        have zf2 := KA.out.frozen 2
        have zf3 := KA.out.frozen 3
        have zf4 := KA.out.frozen 4
        refine hK.out _ _ ?_
        clear hK K
        try change anyZ _ _ _ _ _ _ _ _ (Act.put _ (some 6) _) _
        try simp only [Act.put, List.setIfInBounds_toArray, List.set_cons_zero, List.set_cons_succ]
        refine anyZ_ready (rs := [8]) (by kernel_rfl) (by simp) ?_
        refine AllZ.last rfl (by kernel_rfl) (fun K hK => ?_) AllZ.nil
        go_simp
        refine hK.out _ _ ?_
        clear hK K
        try change anyZ _ _ _ _ _ _ _ _ (Act.put _ none _) _
        try simp only [Act.put, List.setIfInBounds_toArray, List.set_cons_zero, List.set_cons_succ]
        refine anyZ_pure (i := 9) (v := ?_) (some 7) rfl rfl (by kernel_rfl) (by kernel_rfl) (by kernel_rfl) (by kernel_rfl) (fun _ _ _ h => h) (Or.inl ⟨by rfl, ?_⟩) (notYet (by kernel_rfl)) ?_
        rotate_left
        · intro w' _
          go_simp
          first | done | with_reducible rfl
        try simp only [Act.put, List.setIfInBounds_toArray, List.set_cons_zero, List.set_cons_succ]
        refine anyZ_done (by kernel_rfl) ?_ _
        clear z0 zf0 z1 zf1 z2 zf2 z3 zf3 z4 zf4 hW8
        have x0 := N2.out.cell 0
        have CK := Lib.hid (broken_any p0.id E W8 (HET.out.fr F8.out (fun h => HEN.out h)))
        go_wp2_with fail
        refine CK.out.mono ?_; rintro e w9 ⟨xv, rfl, hbv, hf9⟩
        have HBV : Hid (BrkV p0.id E w w9 xv) := Lib.hid (hbv.less F8.out.size)
        have HXI : Hid (∃ g, xv = .iface 67 (.pointer (some ⟨g, 0, none⟩))) := Lib.hid (by unfold BrkV at hbv; rw [if_neg HNZ.out] at hbv; obtain ⟨g, e, _⟩ := hbv; exact ⟨g, e⟩)
        have F9 := Lib.hid ((X8.out HNZ.out).trans hf9 (fun _ _ h => h))
        obtain ⟨g, rfl⟩ := HXI.out
        clear hbv hf9 CK x0 HXI
        go_wp2
        go_ret2
        exact ⟨_, .slice A n c, rfl, HBV.out, HBD.out.fr0 F9.out, F9.out.mono (fun _ _ h => h.elim), fun x hx => .inl hx⟩
      · skip
        go_simp
        have KA := Lib.hid (show Bk (v1.alloc (.cells #[.int .i64 0, .int .i64 0, .int .i64 0, .int .u32 0, .slice none 0 0] 36)) v1.heap.size 36 #[.int .i64 0, .int .i64 0, .int .i64 0, .int .u32 0, .slice none 0 0] from Bk.new v1 36 #[.int .i64 0, .int .i64 0, .int .i64 0, .int .u32 0, .slice none 0 0])
        obtain ⟨ga, hga⟩ : ∃ ga, v1.heap.size = ga := ⟨_, rfl⟩
        rw [hga] at KA ⊢
        have HGA := Lib.hid hga
        clear hga
        refine hK.out _ _ (hHeld.alloc _) (fun hHeld => ?_)
        clear hK K
        try change anyZ _ _ _ _ _ _ _ _ (Act.put _ (some 6) _) _
        try simp only [Act.put, List.setIfInBounds_toArray, List.set_cons_zero, List.set_cons_succ]
        refine anyZ_ready (rs := [3]) (by kernel_rfl) (by simp) ?_
        refine AllZ.last rfl (by kernel_rfl) (fun K hK => ?_) AllZ.nil
        go_simp
        refine (CJ.out _ hHeld).mono ?_; rintro e9 v3 hj
        obtain ⟨t, v', rfl, ht, ho9, hf9, hm9, hno9⟩ := hj
        obtain ⟨tid, ttot, tsum, txs⟩ := t
        obtain ⟨A9, c9, rfl, hc1, hc2⟩ := ho9.slice
        simp only at ho9 hm9 ⊢
        obtain ⟨L9, hL9⟩ : ∃ L9, txs.length = L9 := ⟨_, rfl⟩
        simp only [BSt.v, hL9] at ho9 hm9 ⊢
        have HL9 := Lib.hid hL9
        have HT := Lib.hid ht
        have HM9 := Lib.hid hm9
        have HO9 := Lib.hid ho9
        have HJF := Lib.hid (((FW.out.trans hHeld (fun _ _ h => h)).mono (fun _ _ h => h.elim)).trans hf9 (fun _ _ h => h))
        have HJN : Hid (¬ E = 0 → Fr (fun _ => False) w v3) := Lib.hid (fun h => (FW.out.trans hHeld (fun _ _ h => h)).trans (hno9 h) (fun _ _ h => h))
        have HSZ : Hid (W.heap.size ≤ v3.heap.size) := Lib.hid (Nat.le_trans hHeld.size hf9.size)
        have HP3 : Hid (Bk v3 pb 36 #[.int .i64 p0.id, .int .i64 p0.at_, .int .i64 p0.total, .int .u32 p0.sum, .slice D m k]) := Lib.hid ((KP.out.fr hHeld (fun h => h)).fr hf9 (fun h => by have := HOW.out.lt h; have := HPE.out; omega))
        have HM8 : Hid (∀ x, (Value.slice A9 L9 c9).ownBlock = some x → (Value.slice A n c).ownBlock = some x ∨ w.heap.size ≤ x) := Lib.hid (fun x hx => (hm9 x hx).imp id (fun h => by have h1 := hHeld.size; have h2 := FW.out.size; omega))
        have HGL : Hid (W.heap.size ≤ ga) := Lib.hid (by have := HGA.out; have := HV1.out; omega)
        have KA3 : Hid (Bk v3 ga 36 #[.int .i64 0, .int .i64 0, .int .i64 0, .int .u32 0, .slice none 0 0]) := Lib.hid (KA.out.fr hf9 (fun h => by have := HOW.out.lt h; have := HGL.out; have := HPB.out; have := HPE.out; omega))
        clear ht ho9 hf9 hm9 hno9 hL9
        obtain ⟨W8, hW8⟩ : ∃ W8, set5 v3 ga (.int .i64 tid) (.int .i64 0) (.int .i64 ttot) (.int .u32 tsum) (.slice A9 L9 c9) = W8 := ⟨_, rfl⟩
        have HGW : Hid (W.heap.size ≤ ga) := Lib.hid (HGL.out)
        have FC : Hid (Fr (fun x => (Value.slice A n c).ownBlock = some x) w v3) := Lib.hid ((HJF.out))
        have N1 : Hid (Bk W8 ga 36 #[.int .i64 tid, .int .i64 0, .int .i64 ttot, .int .u32 tsum, .slice A9 L9 c9]) := Lib.hid (by rw [← hW8]; exact KA3.out.set5 ..)
        have FS : Hid (Fr (fun x => x = ga) v3 W8) := Lib.hid (by rw [← hW8]; exact Fr.set5 (Fr.refl (fun x => x = ga) _) (fun _ => rfl) ..)
        have N2 : Hid (Bk W8 pb 36 #[.int .i64 p0.id, .int .i64 p0.at_, .int .i64 p0.total, .int .u32 p0.sum, .slice D m k]) := Lib.hid ((HP3.out).fr FS.out (fun e => by have := HGW.out; have := HPB.out; have e' : pb = ga := e; omega))
        have O8 : Hid (Own8 W8 5 (.slice A9 L9 c9) txs) := Lib.hid ((HO9.out).fr FS.out (fun x hx e => (HO9.out).ne KA3.out (by decide) (e ▸ hx)))
        have F8 : Hid (Fr (fun x => (Value.slice A n c).ownBlock = some x) w W8) := Lib.hid (FC.out.trans FS.out (fun x hx e => by have := HGW.out; have := HPB.out; have := HPE.out; have e' : x = ga := e; omega))
        have X8 : Hid (¬ E = 0 → Fr (fun _ => False) w W8) := Lib.hid (fun h => ((HJN.out h)).trans FS.out (fun x hx e => by have := HGW.out; have := HPB.out; have := HPE.out; have e' : x = ga := e; omega))
        unfold set5 at hW8
        have z0 := KA3.out.cell 0
        have z1 := KA3.out.cell 1
        have z2 := KA3.out.cell 2
        have z3 := KA3.out.cell 3
        have z4 := KA3.out.cell 4
        have zf0 := KA3.out.frozen 0
        have zf1 := KA3.out.frozen 1
        have zf2 := KA3.out.frozen 2
        have zf3 := KA3.out.frozen 3
        have zf4 := KA3.out.frozen 4
        refine hK.out _ _ ?_
        clear hK K
        try change anyZ _ _ _ _ _ _ _ _ (Act.put _ (some 13) _) _
        try simp only [Act.put, List.setIfInBounds_toArray, List.set_cons_zero, List.set_cons_succ]
        refine anyZ_pure (i := 4) (v := ?_) (some 9) rfl rfl (by kernel_rfl) (by kernel_rfl) (by kernel_rfl) (by kernel_rfl) (fun _ _ _ h => h) (Or.inl ⟨by rfl, ?_⟩) (notYet (by kernel_rfl)) ?_
        rotate_left
        · intro w' _
          go_simp
          first | done | with_reducible rfl
        try simp only [Act.put, List.setIfInBounds_toArray, List.set_cons_zero, List.set_cons_succ]
        refine anyZ_pure (i := 5) (v := ?_) (some 14) rfl rfl (by kernel_rfl) (by kernel_rfl) (by kernel_rfl) (by kernel_rfl) (fun _ _ _ h => h) (Or.inl ⟨by rfl, ?_⟩) (notYet (by kernel_rfl)) ?_
        rotate_left
        · intro w' _
          go_simp
          first | done | with_reducible rfl
        try simp only [Act.put, List.setIfInBounds_toArray, List.set_cons_zero, List.set_cons_succ]
        refine anyZ_pure (i := 6) (v := ?_) (some 15) rfl rfl (by kernel_rfl) (by kernel_rfl) (by kernel_rfl) (by kernel_rfl) (fun _ _ _ h => h) (Or.inl ⟨by rfl, ?_⟩) (notYet (by kernel_rfl)) ?_
        rotate_left
        · intro w' _
          go_simp
          first | done | with_reducible rfl
        try simp only [Act.put, List.setIfInBounds_toArray, List.set_cons_zero, List.set_cons_succ]
        refine anyZ_ready (rs := [8]) (by kernel_rfl) (by simp) ?_
        refine AllZ.last rfl (by kernel_rfl) (fun K hK => ?_) AllZ.nil
        go_simp
        refine hK.out _ _ ?_
        clear hK K
        try change anyZ _ _ _ _ _ _ _ _ (Act.put _ none _) _
        try simp only [Act.put, List.setIfInBounds_toArray, List.set_cons_zero, List.set_cons_succ]
        refine anyZ_pure (i := 9) (v := ?_) (some 7) rfl rfl (by kernel_rfl) (by kernel_rfl) (by kernel_rfl) (by kernel_rfl) (fun _ _ _ h => h) (Or.inl ⟨by rfl, ?_⟩) (notYet (by kernel_rfl)) ?_
        rotate_left
        · intro w' _
          go_simp
          first | done | with_reducible rfl
        try simp only [Act.put, List.setIfInBounds_toArray, List.set_cons_zero, List.set_cons_succ]
        refine anyZ_done (by kernel_rfl) ?_ _
        clear z0 zf0 z1 zf1 z2 zf2 z3 zf3 z4 zf4 hW8
        have x0 := N2.out.cell 0
        have CK := Lib.hid (broken_any p0.id E W8 (HET.out.fr F8.out (fun h => HEN.out h)))
        go_wp2_with fail
        refine CK.out.mono ?_; rintro e w9 ⟨xv, rfl, hbv, hf9⟩
        have HBV : Hid (BrkV p0.id E w w9 xv) := Lib.hid (hbv.less F8.out.size)
        have HXI : Hid (∃ g, xv = .iface 67 (.pointer (some ⟨g, 0, none⟩))) := Lib.hid (by unfold BrkV at hbv; rw [if_neg HNZ.out] at hbv; obtain ⟨g, e, _⟩ := hbv; exact ⟨g, e⟩)
        have F9 := Lib.hid ((X8.out HNZ.out).trans hf9 (fun _ _ h => h))
        obtain ⟨g, rfl⟩ := HXI.out
        clear hbv hf9 CK x0 HXI
        go_wp2
        go_ret2
        exact ⟨_, .slice A n c, rfl, HBV.out, HBD.out.fr0 F9.out, F9.out.mono (fun _ _ h => h.elim), fun x hx => .inl hx⟩
    · skip
      go_simp
      have KA := Lib.hid (show Bk (W.alloc (.cells #[.int .i64 0, .int .i64 0, .int .i64 0, .int .u32 0, .slice none 0 0] 36)).drew W.heap.size 36 #[.int .i64 0, .int .i64 0, .int .i64 0, .int .u32 0, .slice none 0 0] from Bk.new W 36 #[.int .i64 0, .int .i64 0, .int .i64 0, .int .u32 0, .slice none 0 0])
      obtain ⟨ga, hga⟩ : ∃ ga, W.heap.size = ga := ⟨_, rfl⟩
      rw [hga] at KA ⊢
      have HGA := Lib.hid hga
      clear hga
      refine hK.out _ _ (hHeld.alloc _) (fun hHeld => ?_)
      clear hK K
      try change anyZ _ _ _ _ _ _ _ _ (Act.put _ (some 6) _) _
      try simp only [Act.put, List.setIfInBounds_toArray, List.set_cons_zero, List.set_cons_succ]
      refine anyZ_ready (rs := [1]) (by kernel_rfl) (by simp) ?_
      refine AllZ.step rfl (fun K hK => ?_) AllZ.nil
      go_simp
      refine (CB.out _ hHeld).mono ?_; rintro e8 v1 ⟨rfl, hf1⟩
      have HB1 := Lib.hid hf1
      have HV1 : Hid (W.heap.size ≤ v1.heap.size) := Lib.hid (Nat.le_trans hHeld.size hf1.size)
      refine hK.out _ _ (hHeld.trans hf1 (fun _ _ h => h)) (fun hHeld => ?_)
      clear hK K
      try change anyZ _ _ _ _ _ _ _ _ (Act.put _ (some 11) _) _
      try simp only [Act.put, List.setIfInBounds_toArray, List.set_cons_zero, List.set_cons_succ]
      refine anyZ_ready (rs := [3]) (by kernel_rfl) (by simp) ?_
      refine AllZ.last rfl (by kernel_rfl) (fun K hK => ?_) AllZ.nil
      go_simp
      refine (CJ.out _ hHeld).mono ?_; rintro e9 v3 hj
      obtain ⟨t, v', rfl, ht, ho9, hf9, hm9, hno9⟩ := hj
      obtain ⟨tid, ttot, tsum, txs⟩ := t
      obtain ⟨A9, c9, rfl, hc1, hc2⟩ := ho9.slice
      simp only at ho9 hm9 ⊢
      obtain ⟨L9, hL9⟩ : ∃ L9, txs.length = L9 := ⟨_, rfl⟩
      simp only [BSt.v, hL9] at ho9 hm9 ⊢
      have HL9 := Lib.hid hL9
      have HT := Lib.hid ht
      have HM9 := Lib.hid hm9
      have HO9 := Lib.hid ho9
      have HJF := Lib.hid (((FW.out.trans hHeld (fun _ _ h => h)).mono (fun _ _ h => h.elim)).trans hf9 (fun _ _ h => h))
      have HJN : Hid (¬ E = 0 → Fr (fun _ => False) w v3) := Lib.hid (fun h => (FW.out.trans hHeld (fun _ _ h => h)).trans (hno9 h) (fun _ _ h => h))
      have HSZ : Hid (W.heap.size ≤ v3.heap.size) := Lib.hid (Nat.le_trans hHeld.size hf9.size)
      have HP3 : Hid (Bk v3 pb 36 #[.int .i64 p0.id, .int .i64 p0.at_, .int .i64 p0.total, .int .u32 p0.sum, .slice D m k]) := Lib.hid ((KP.out.fr hHeld (fun h => h)).fr hf9 (fun h => by have := HOW.out.lt h; have := HPE.out; omega))
      have HM8 : Hid (∀ x, (Value.slice A9 L9 c9).ownBlock = some x → (Value.slice A n c).ownBlock = some x ∨ w.heap.size ≤ x) := Lib.hid (fun x hx => (hm9 x hx).imp id (fun h => by have h1 := hHeld.size; have h2 := FW.out.size; omega))
      have HGL : Hid (W.heap.size ≤ ga) := Lib.hid (by have := HGA.out; omega)
      have KA3 : Hid (Bk v3 ga 36 #[.int .i64 0, .int .i64 0, .int .i64 0, .int .u32 0, .slice none 0 0]) := Lib.hid ((KA.out.fr HB1.out (fun h => h)).fr hf9 (fun h => by have := HOW.out.lt h; have := HGL.out; have := HPB.out; have := HPE.out; omega))
      clear ht ho9 hf9 hm9 hno9 hL9
      obtain ⟨W8, hW8⟩ : ∃ W8, set5 v3 ga (.int .i64 tid) (.int .i64 0) (.int .i64 ttot) (.int .u32 tsum) (.slice A9 L9 c9) = W8 := ⟨_, rfl⟩
      have HGW : Hid (W.heap.size ≤ ga) := Lib.hid (HGL.out)
      have FC : Hid (Fr (fun x => (Value.slice A n c).ownBlock = some x) w v3) := Lib.hid ((HJF.out))
      have N1 : Hid (Bk W8 ga 36 #[.int .i64 tid, .int .i64 0, .int .i64 ttot, .int .u32 tsum, .slice A9 L9 c9]) := Lib.hid (by rw [← hW8]; exact KA3.out.set5 ..)
      have FS : Hid (Fr (fun x => x = ga) v3 W8) := Lib.hid (by rw [← hW8]; exact Fr.set5 (Fr.refl (fun x => x = ga) _) (fun _ => rfl) ..)
      have N2 : Hid (Bk W8 pb 36 #[.int .i64 p0.id, .int .i64 p0.at_, .int .i64 p0.total, .int .u32 p0.sum, .slice D m k]) := Lib.hid ((HP3.out).fr FS.out (fun e => by have := HGW.out; have := HPB.out; have e' : pb = ga := e; omega))
      have O8 : Hid (Own8 W8 5 (.slice A9 L9 c9) txs) := Lib.hid ((HO9.out).fr FS.out (fun x hx e => (HO9.out).ne KA3.out (by decide) (e ▸ hx)))
      have F8 : Hid (Fr (fun x => (Value.slice A n c).ownBlock = some x) w W8) := Lib.hid (FC.out.trans FS.out (fun x hx e => by have := HGW.out; have := HPB.out; have := HPE.out; have e' : x = ga := e; omega))
      have X8 : Hid (¬ E = 0 → Fr (fun _ => False) w W8) := Lib.hid (fun h => ((HJN.out h)).trans FS.out (fun x hx e => by have := HGW.out; have := HPB.out; have := HPE.out; have e' : x = ga := e; omega))
      unfold set5 at hW8
      have z0 := KA3.out.cell 0
      have z1 := KA3.out.cell 1
      have z2 := KA3.out.cell 2
      have z3 := KA3.out.cell 3
      have z4 := KA3.out.cell 4
      have zf0 := KA3.out.frozen 0
      have zf1 := KA3.out.frozen 1
      have zf2 := KA3.out.frozen 2
      have zf3 := KA3.out.frozen 3
      have zf4 := KA3.out.frozen 4
      refine hK.out _ _ ?_
      clear hK K
      try change anyZ _ _ _ _ _ _ _ _ (Act.put _ (some 13) _) _
      try simp only [Act.put, List.setIfInBounds_toArray, List.set_cons_zero, List.set_cons_succ]
      refine anyZ_pure (i := 4) (v := ?_) (some 9) rfl rfl (by kernel_rfl) (by kernel_rfl) (by kernel_rfl) (by kernel_rfl) (fun _ _ _ h => h) (Or.inl ⟨by rfl, ?_⟩) (notYet (by kernel_rfl)) ?_
      rotate_left
      · intro w' _
        go_simp
        first | done | with_reducible rfl
      try simp only [Act.put, List.setIfInBounds_toArray, List.set_cons_zero, List.set_cons_succ]
      refine anyZ_pure (i := 5) (v := ?_) (some 14) rfl rfl (by kernel_rfl) (by kernel_rfl) (by kernel_rfl) (by kernel_rfl) (fun _ _ _ h => h) (Or.inl ⟨by rfl, ?_⟩) (notYet (by kernel_rfl)) ?_
      rotate_left
      · intro w' _
        go_simp
        first | done | with_reducible rfl
      try simp only [Act.put, List.setIfInBounds_toArray, List.set_cons_zero, List.set_cons_succ]
      refine anyZ_pure (i := 6) (v := ?_) (some 15) rfl rfl (by kernel_rfl) (by kernel_rfl) (by kernel_rfl) (by kernel_rfl) (fun _ _ _ h => h) (Or.inl ⟨by rfl, ?_⟩) (notYet (by kernel_rfl)) ?_
      rotate_left
      · intro w' _
        go_simp
        first | done | with_reducible rfl
      try simp only [Act.put, List.setIfInBounds_toArray, List.set_cons_zero, List.set_cons_succ]
      refine anyZ_ready (rs := [8]) (by kernel_rfl) (by simp) ?_
      refine AllZ.last rfl (by kernel_rfl) (fun K hK => ?_) AllZ.nil
      go_simp
      refine hK.out _ _ ?_
      clear hK K
      try change anyZ _ _ _ _ _ _ _ _ (Act.put _ none _) _
      try simp only [Act.put, List.setIfInBounds_toArray, List.set_cons_zero, List.set_cons_succ]
      refine anyZ_pure (i := 9) (v := ?_) (some 7) rfl rfl (by kernel_rfl) (by kernel_rfl) (by kernel_rfl) (by kernel_rfl) (fun _ _ _ h => h) (Or.inl ⟨by rfl, ?_⟩) (notYet (by kernel_rfl)) ?_
      rotate_left
      · intro w' _
        go_simp
        first | done | with_reducible rfl
      try simp only [Act.put, List.setIfInBounds_toArray, List.set_cons_zero, List.set_cons_succ]
      refine anyZ_done (by kernel_rfl) ?_ _
      clear z0 zf0 z1 zf1 z2 zf2 z3 zf3 z4 zf4 hW8
      have x0 := N2.out.cell 0
      have CK := Lib.hid (broken_any p0.id E W8 (HET.out.fr F8.out (fun h => HEN.out h)))
      go_wp2_with fail
      refine CK.out.mono ?_; rintro e w9 ⟨xv, rfl, hbv, hf9⟩
      have HBV : Hid (BrkV p0.id E w w9 xv) := Lib.hid (hbv.less F8.out.size)
      have HXI : Hid (∃ g, xv = .iface 67 (.pointer (some ⟨g, 0, none⟩))) := Lib.hid (by unfold BrkV at hbv; rw [if_neg HNZ.out] at hbv; obtain ⟨g, e, _⟩ := hbv; exact ⟨g, e⟩)
      have F9 := Lib.hid ((X8.out HNZ.out).trans hf9 (fun _ _ h => h))
      obtain ⟨g, rfl⟩ := HXI.out
      clear hbv hf9 CK x0 HXI
      go_wp2
      go_ret2
      exact ⟨_, .slice A n c, rfl, HBV.out, HBD.out.fr0 F9.out, F9.out.mono (fun _ _ h => h.elim), fun x hx => .inl hx⟩
end Go.Proofs.YtacafjbbdklleaaDoor
