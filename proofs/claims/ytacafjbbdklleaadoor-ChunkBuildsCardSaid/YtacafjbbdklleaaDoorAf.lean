/- chunk: join, where the piece is taken. -/
import Derived.Test.YtacafjbbdklleaaDoorAe
namespace Go.Proofs.YtacafjbbdklleaaDoor
open Go.RowKit

/-- What join makes of a piece that it takes. -/
def JoinE (v0 : Value) (t : BSt) (w : World) (e : Ending) (w' : World) : Prop :=
  ∃ v', e = .returned (.tuple #[t.v v', .int .i64 0]) ∧ Own8 w' 5 v' t.data ∧ Fr (fun x => v0.ownBlock = some x) w w' ∧ ∀ x, v'.ownBlock = some x → v0.ownBlock = some x ∨ w.heap.size ≤ x

set_option maxRecDepth 100000 in
set_option maxHeartbeats 4000000 in
theorem join_new (s : BSt) (p : Pc) (A : Option Addr) (n c : Nat) (D : Option Addr) (m k F : Nat) (w : World) (hn : s.data.length = n) (hs : Sl8 w F D m k p.data) (hmb : (m : Int) ≤ 1048576) (hmay : p.may) (h2 : s.id < p.id) (h0 : p.at_ = 0) :
    Calls Tryd.prog 33 #[s.v (.slice A n c), p.v (.slice D m k)] w fun e w' => JoinE (.slice A n c) ⟨p.id, p.total, p.sum, p.data⟩ w e w' := by
  have CM := Lib.hid (fun w' => mayBe_any p D m k w' hs.1 (by omega))
  rw [decide_eq_true hmay] at CM
  have HM := Lib.hid hs.1
  have HS := Lib.hid hs
  have HBB := Lib.hid hmb
  clear hs
  have d1 : decide (p.id < s.id) = false := decide_eq_false (by omega)
  have d2 : decide (s.id < p.id) = true := decide_eq_true h2
  obtain ⟨sid, stot, ssum, sxs⟩ := s
  obtain ⟨pid, pat, ptot, psum, pxs⟩ := p
  unfold BSt.v Pc.v
  simp only at *
  subst h0
  obtain ⟨b, hb⟩ : ∃ b, w.heap.size = b := ⟨_, rfl⟩
  obtain ⟨W, hW⟩ : ∃ W, ((w.alloc (.cells #[.int .i64 sid, .int .i64 0, .int .i64 stot, .int .u32 ssum, .slice A n c] 36)).alloc (.cells #[.int .i64 pid, .int .i64 0, .int .i64 ptot, .int .u32 psum, .slice D m k] 36)).alloc (.cells #[.int .i64 0, .int .i64 0, .int .i64 0, .int .u32 0, .slice none 0 0] 36) = W := ⟨_, rfl⟩
  have K1 : Hid (Bk W b 36 #[.int .i64 sid, .int .i64 0, .int .i64 stot, .int .u32 ssum, .slice A n c]) := Lib.hid (by
    rw [← hW, ← hb]
    exact ((Bk.new w _ _).alloc _).alloc _)
  have K2 : Hid (Bk W (b + 1) 36 #[.int .i64 pid, .int .i64 0, .int .i64 ptot, .int .u32 psum, .slice D m k]) := Lib.hid (by
    rw [← hW, ← hb]
    have := (Bk.new (w.alloc (.cells #[.int .i64 sid, .int .i64 0, .int .i64 stot, .int .u32 ssum, .slice A n c] 36)) 36 #[.int .i64 pid, .int .i64 0, .int .i64 ptot, .int .u32 psum, .slice D m k]).alloc (.cells #[.int .i64 0, .int .i64 0, .int .i64 0, .int .u32 0, .slice none 0 0] 36)
    simpa using this)
  have K3 : Hid (Bk W (b + 1 + 1) 36 #[.int .i64 0, .int .i64 0, .int .i64 0, .int .u32 0, .slice none 0 0]) := Lib.hid (by
    rw [← hW, ← hb]
    have := Bk.new ((w.alloc (.cells #[.int .i64 sid, .int .i64 0, .int .i64 stot, .int .u32 ssum, .slice A n c] 36)).alloc (.cells #[.int .i64 pid, .int .i64 0, .int .i64 ptot, .int .u32 psum, .slice D m k] 36)) 36 #[.int .i64 0, .int .i64 0, .int .i64 0, .int .u32 0, .slice none 0 0]
    simpa using this)
  have FW : Hid (Fr (fun _ => False) w W) := Lib.hid (by rw [← hW]; exact (((Fr.refl _ _).alloc _).alloc _).alloc _)
  have HB := Lib.hid hb
  clear hmay hn
  go_enter Tryd.func33, Tryd.ntmps33
  have p0 := K2.out.cell 0
  have p1 := K2.out.cell 1
  have p2 := K2.out.cell 2
  have p3 := K2.out.cell 3
  have p4 := K2.out.cell 4
  go_wp2_with fail
  clear p0 p1 p2 p3 p4
  refine (CM.out _).mono ?_; rintro e w1 ⟨rfl, hf1⟩
  have F1 := Lib.hid (FW.out.trans hf1 (fun _ _ h => h))
  have L1 := Lib.hid (K1.out.fr hf1 (fun h => h))
  have L2 := Lib.hid (K2.out.fr hf1 (fun h => h))
  have L3 := Lib.hid (K3.out.fr hf1 (fun h => h))
  clear hf1 K1 K2 K3 FW hW hb CM
  have a0 := L1.out.cell 0
  have a2 := L1.out.cell 2
  have a3 := L1.out.cell 3
  have a4 := L1.out.cell 4
  have p0 := L2.out.cell 0
  have p1 := L2.out.cell 1
  have p2 := L2.out.cell 2
  have p3 := L2.out.cell 3
  have p4 := L2.out.cell 4
  have a1 := L1.out.cell 1
  have af0 := L1.out.frozen 0
  have af1 := L1.out.frozen 1
  have af2 := L1.out.frozen 2
  have af3 := L1.out.frozen 3
  have af4 := L1.out.frozen 4
  obtain ⟨W2, hW2⟩ : ∃ W2, set5 w1 b (.int .i64 pid) (.int .i64 0) (.int .i64 ptot) (.int .u32 psum) (.slice none 0 0) = W2 := ⟨_, rfl⟩
  have M1 : Hid (Bk W2 b 36 #[.int .i64 pid, .int .i64 0, .int .i64 ptot, .int .u32 psum, .slice none 0 0]) := Lib.hid (by rw [← hW2]; exact L1.out.set5 ..)
  have M2 : Hid (Bk W2 (b + 1) 36 #[.int .i64 pid, .int .i64 0, .int .i64 ptot, .int .u32 psum, .slice D m k]) := Lib.hid (by rw [← hW2]; exact L2.out.fr (Fr.set5 (S := fun x => x = b) (Fr.refl _ _) (fun _ => rfl) ..) (by omega))
  have M3 : Hid (Bk W2 (b + 1 + 1) 36 #[.int .i64 0, .int .i64 0, .int .i64 0, .int .u32 0, .slice none 0 0]) := Lib.hid (by rw [← hW2]; exact L3.out.fr (Fr.set5 (S := fun x => x = b) (Fr.refl _ _) (fun _ => rfl) ..) (by omega))
  have F2 : Hid (Fr (fun _ => False) w W2) := Lib.hid (by rw [← hW2]; exact Fr.set5 F1.out (fun h => by have := HB.out; omega) ..)
  unfold set5 at hW2
  have m0 := M1.out.cell 0
  have m1 := M1.out.cell 1
  have m2 := M1.out.cell 2
  have m3 := M1.out.cell 3
  have m4 := M1.out.cell 4
  have r0 := M2.out.cell 0
  have r1 := M2.out.cell 1
  have r2 := M2.out.cell 2
  have r3 := M2.out.cell 3
  have r4 := M2.out.cell 4
  clear h2
  have d5 : decide ((0 : Int) < 0) = false := rfl
  obtain ⟨A2, c2, hsl, _, _, _, hrd⟩ := run_fromB D m k 0 (Nat.zero_le _) HS.out.2.1 HS.out.2.2.1 HS.out.base
  rw [show ((0 : Nat) : Int) = 0 from rfl] at hsl
  obtain ⟨z, hz⟩ : ∃ z, m - 0 = z := ⟨_, rfl⟩
  rw [hz] at hsl
  have HZ := Lib.hid hz
  clear hz
  have HSL := Lib.hid hsl
  have HRD : Hid (∀ w', Fr (fun _ => False) w w' → Rd8 w' A2 (pxs.drop 0)) := Lib.hid (fun w' hf => hrd w' pxs HM.out (HS.out.2.2.2.1.fr hf (fun _ _ _ h => h)))
  have HO : Hid (∀ w', Fr (fun _ => False) w w' → Own8 w' 5 (.slice none 0 0) []) := Lib.hid (fun w' _ => Own8.nil _ _)
  have HNE1 : Hid ((Value.slice none 0 0).ownBlock = some b → False) := Lib.hid (fun h => by simp [Value.ownBlock] at h)
  have HNE3 : Hid ((Value.slice none 0 0).ownBlock = some (b + 1 + 1) → False) := Lib.hid (fun h => by simp [Value.ownBlock] at h)
  have HLB : Hid (([] : List UInt8).length ≤ 1048576) := Lib.hid (by simp)
  clear hsl hrd hmb
  go_wp2_with fail
  clear a0 a1 a2 a3 a4 p0 p1 p2 p3 p4 af0 af1 af2 af3 af4 m0 m1 m2 m3 m4 r0 r1 r2 r3 r4 hW2
  refine wp_region_Z [6, 8] (fun w' => Fr (fun _ => False) W2 w') (by kernel_rfl) ((Fr.refl _ _).drew) (fun hHeld => ?_)
  refine anyZ_pure (i := 0) (v := ?_) (some 63) rfl rfl (by kernel_rfl) (by kernel_rfl) (by kernel_rfl) (by kernel_rfl) (fun _ _ _ h => h) (Or.inl ⟨by rfl, ?_⟩) (fun _ => hHeld) ?_
  rotate_left
  · intro w' _
    go_simp
    first | done | with_reducible rfl
  try simp only [Act.put, List.setIfInBounds_toArray, List.set_cons_zero, List.set_cons_succ]
  refine anyZ_read (i := 1) (v := ?_) (some 64) [6, 7, 8] rfl rfl (by kernel_rfl) (by kernel_rfl) (by kernel_rfl) (by kernel_rfl) (by kernel_rfl) (by kernel_rfl) (fun _ _ _ h => h) (Or.inl ⟨by rfl, ?_⟩) hHeld ?_
  rotate_left
  · intro w' hSw
    have q4 := (M1.out.fr hSw (fun h => h)).cell 4
    go_simp
    first | done | with_reducible rfl
  try simp only [Act.put, List.setIfInBounds_toArray, List.set_cons_zero, List.set_cons_succ]
  refine anyZ_pure (i := 2) (v := ?_) (some 65) rfl rfl (by kernel_rfl) (by kernel_rfl) (by kernel_rfl) (by kernel_rfl) (fun _ _ _ h => h) (Or.inl ⟨by rfl, ?_⟩) (fun _ => hHeld) ?_
  rotate_left
  · intro w' _
    go_simp
    first | done | with_reducible rfl
  try simp only [Act.put, List.setIfInBounds_toArray, List.set_cons_zero, List.set_cons_succ]
  refine anyZ_read (i := 3) (v := ?_) (some 66) [5, 6, 7, 8] rfl rfl (by kernel_rfl) (by kernel_rfl) (by kernel_rfl) (by kernel_rfl) (by kernel_rfl) (by kernel_rfl) (fun _ _ _ h => h) (Or.inl ⟨by rfl, ?_⟩) hHeld ?_
  rotate_left
  · intro w' hSw
    have q4 := (M2.out.fr hSw (fun h => h)).cell 4
    go_simp
    first | done | with_reducible rfl
  try simp only [Act.put, List.setIfInBounds_toArray, List.set_cons_zero, List.set_cons_succ]
  refine anyZ_pure (i := 4) (v := ?_) (some 67) rfl rfl (by kernel_rfl) (by kernel_rfl) (by kernel_rfl) (by kernel_rfl) (fun _ _ _ h => h) (Or.inl ⟨by rfl, ?_⟩) (fun _ => hHeld) ?_
  rotate_left
  · intro w' _
    go_simp
    first | done | with_reducible rfl
  try simp only [Act.put, List.setIfInBounds_toArray, List.set_cons_zero, List.set_cons_succ]
  refine anyZ_pure (i := 5) (v := ?_) (some 68) rfl rfl (by kernel_rfl) (by kernel_rfl) (by kernel_rfl) (by kernel_rfl) (fun _ _ _ h => h) (Or.inl ⟨by rfl, ?_⟩) (fun _ => hHeld) ?_
  rotate_left
  · intro w' _
    have HSLw := HSL.out w'
    go_simp
    first | done | with_reducible rfl
  try simp only [Act.put, List.setIfInBounds_toArray, List.set_cons_zero, List.set_cons_succ]
  refine anyZ_ready (rs := [6]) (by kernel_rfl) (by simp) ?_
  refine AllZ.last rfl (by kernel_rfl) (fun K hK => ?_) AllZ.nil
  refine stepOf_append8s rfl (.tmp 64) (.tmp 68) Tryd.t8 rfl (.slice none 0 0) ([]) rfl (HO.out _ (F2.out.trans hHeld (fun _ _ h => h))) A2 z c2 (pxs.drop 0) rfl (by rw [List.length_drop, HM.out]; exact HZ.out) (HRD.out _ (F2.out.trans hHeld (fun _ _ h => h))) (by have := HLB.out; have := HBB.out; have := HM.out; simp only [List.length_drop]; omega) ?_
  intro A9 c9 w9 ho9 hf9 hm9
  generalize hL9 : ([]).length + (pxs.drop 0).length = L9 at *
  have HL9 := Lib.hid hL9
  clear hL9
  have k1 := Lib.hid ((M1.out.fr hHeld (fun h => h)).fr hf9 (fun h => HNE1.out h))
  have k3 := Lib.hid ((M3.out.fr hHeld (fun h => h)).fr hf9 (fun h => HNE3.out h))
  have HFX := Lib.hid ((F2.out.trans hHeld (fun _ _ h => h)))
  have HO9 := Lib.hid ho9
  have HF9 := Lib.hid hf9
  have HM9 := Lib.hid hm9
  clear ho9 hf9 hm9
  have x0 := k1.out.cell 4
  have x1 := k1.out.frozen 4
  obtain ⟨W8, hW8⟩ : ∃ W8, w9.setCell ⟨b, 4, none⟩ (.slice A9 L9 c9) = W8 := ⟨_, rfl⟩
  refine hK.out _ _ ?_
  clear hK K
  try change anyZ _ _ _ _ _ _ _ _ (Act.put _ (some 69) _) _
  try simp only [Act.put, List.setIfInBounds_toArray, List.set_cons_zero, List.set_cons_succ]
  refine anyZ_pure (i := 7) (v := ?_) (some 70) rfl rfl (by kernel_rfl) (by kernel_rfl) (by kernel_rfl) (by kernel_rfl) (fun _ _ _ h => h) (Or.inl ⟨by rfl, ?_⟩) (notYet (by kernel_rfl)) ?_
  rotate_left
  · intro w' _
    go_simp
    first | done | with_reducible rfl
  try simp only [Act.put, List.setIfInBounds_toArray, List.set_cons_zero, List.set_cons_succ]
  refine anyZ_ready (rs := [8]) (by kernel_rfl) (by simp) ?_
  refine AllZ.last rfl (by kernel_rfl) (fun K hK => ?_) AllZ.nil
  go_simp
  refine hK.out _ _ ?_
  clear hK K
  try change anyZ _ _ _ _ _ _ _ _ (Act.put _ none _) _
  try simp only [Act.put, List.setIfInBounds_toArray, List.set_cons_zero, List.set_cons_succ]
  refine anyZ_done (by kernel_rfl) ?_ _
  clear hHeld x0 x1
  have N1 : Hid (Bk W8 b 36 #[.int .i64 pid, .int .i64 0, .int .i64 ptot, .int .u32 psum, .slice A9 L9 c9]) := Lib.hid (by rw [← hW8]; exact k1.out.set 4 _)
  have N3 : Hid (Bk W8 (b + 1 + 1) 36 #[.int .i64 0, .int .i64 0, .int .i64 0, .int .u32 0, .slice none 0 0]) := Lib.hid (by rw [← hW8]; exact k3.out.far (by show b + 1 + 1 ≠ b; omega) _)
  have NO := Lib.hid (HO9.out.fr (S := fun x => x = b) (w' := W8) (by rw [← hW8]; exact Fr.setCell (Fr.refl (fun x => x = b) w9) (p := ⟨b, 4, none⟩) (fun _ => rfl) _) (fun x hx e => HO9.out.ne k1.out (by decide) (e ▸ hx)))
  have NF : Hid (Fr (fun x => (.slice none 0 0 : Value).ownBlock = some x) w W8) := Lib.hid (by
    rw [← hW8]
    refine Fr.setCell ((HFX.out.mono (fun _ _ h => h.elim)).trans HF9.out (fun _ _ h => h)) (p := ⟨b, 4, none⟩) (fun h => ?_) _
    have := HB.out
    have h' : b < w.heap.size := h
    omega)
  have g0 := N1.out.cell 0
  have g1 := N1.out.cell 1
  have g2 := N1.out.cell 2
  have g3 := N1.out.cell 3
  have g4 := N1.out.cell 4
  have z0 := N3.out.cell 0
  have z1 := N3.out.cell 1
  have z2 := N3.out.cell 2
  have z3 := N3.out.cell 3
  have z4 := N3.out.cell 4
  have zf0 := N3.out.frozen 0
  have zf1 := N3.out.frozen 1
  have zf2 := N3.out.frozen 2
  have zf3 := N3.out.frozen 3
  have zf4 := N3.out.frozen 4
  have G2 : Hid (Bk (set5 W8 (b + 1 + 1) (.int .i64 pid) (.int .i64 0) (.int .i64 ptot) (.int .u32 psum) (.slice A9 L9 c9)) (b + 1 + 1) 36 #[.int .i64 pid, .int .i64 0, .int .i64 ptot, .int .u32 psum, .slice A9 L9 c9] ∧ Fr (fun x => (.slice none 0 0 : Value).ownBlock = some x) w (set5 W8 (b + 1 + 1) (.int .i64 pid) (.int .i64 0) (.int .i64 ptot) (.int .u32 psum) (.slice A9 L9 c9)) ∧ Fr (fun x => x = b + 1 + 1) W8 (set5 W8 (b + 1 + 1) (.int .i64 pid) (.int .i64 0) (.int .i64 ptot) (.int .u32 psum) (.slice A9 L9 c9))) :=
    Lib.hid ⟨N3.out.set5 .., Fr.set5 NF.out (fun h => by have := HB.out; omega) .., Fr.set5 (Fr.refl (fun x => x = b + 1 + 1) W8) (fun _ => rfl) ..⟩
  go_wp2
  change bodyPost _ _ _ _ _ (set5 W8 (b + 1 + 1) (.int .i64 pid) (.int .i64 0) (.int .i64 ptot) (.int .u32 psum) (.slice A9 L9 c9))
  have G2' := G2.out
  generalize set5 W8 (b + 1 + 1) (.int .i64 pid) (.int .i64 0) (.int .i64 ptot) (.int .u32 psum) (.slice A9 L9 c9) = w5 at *
  have q0 := G2'.1.cell 0
  have q1 := G2'.1.cell 1
  have q2 := G2'.1.cell 2
  have q3 := G2'.1.cell 3
  have q4 := G2'.1.cell 4
  refine bodyPost_ret (v := .tuple #[.agg #[.int .i64 pid, .int .i64 0, .int .i64 ptot, .int .u32 psum, .slice A9 L9 c9], .int .i64 0]) (by simp [results, Tryd.results33, go_sem, q0, q1, q2, q3, q4]) rfl ⟨.slice A9 L9 c9, rfl, ?_, G2'.2.1.mono (fun x _ h => by simp [Value.ownBlock] at h), ?_⟩
  · have h9 := NO.out.fr G2'.2.2 (fun x hx e => NO.out.ne N3.out (by decide) (e ▸ hx))
    simpa using h9
  · intro x hx
    rcases HM9.out with h | ⟨y, h, hy⟩
    · rw [h] at hx; simp [Value.ownBlock] at hx
    · rw [h] at hx; injection hx with hx; have := HFX.out.size; exact .inr (by omega)
set_option maxRecDepth 100000 in
set_option maxHeartbeats 4000000 in
theorem join_on (s : BSt) (p : Pc) (A : Option Addr) (n c : Nat) (D : Option Addr) (m k F : Nat) (w : World) (hn : s.data.length = n) (hnb : s.data.length ≤ 1048576) (ho : Own8 w 5 (.slice A n c) s.data) (hs : Sl8 w F D m k p.data) (hmb : (m : Int) ≤ 1048576) (hmay : p.may) (h2 : p.id = s.id) (h3 : p.total = s.total) (h3' : p.sum = s.sum) (h0 : 0 ≤ p.at_) (h4 : p.at_ ≤ (s.data.length : Int)) :
    Calls Tryd.prog 33 #[s.v (.slice A n c), p.v (.slice D m k)] w fun e w' => JoinE (.slice A n c) ⟨s.id, s.total, s.sum, s.data ++ p.data.drop (s.data.length - p.at_.toNat)⟩ w e w' := by
  have CM := Lib.hid (fun w' => mayBe_any p D m k w' hs.1 (by omega))
  rw [decide_eq_true hmay] at CM
  have HM := Lib.hid hs.1
  have HS := Lib.hid hs
  have HBB := Lib.hid hmb
  have HOW := Lib.hid ho
  clear hs ho
  have d1 : decide (p.id < s.id) = false := decide_eq_false (by omega)
  have d2 : decide (s.id < p.id) = false := decide_eq_false (by omega)
  have d3 : (p.total != s.total) = false := by rw [bne_eq_false_iff_eq]; omega
  have d4 : ((p.sum : Int) != (s.sum : Int)) = false := by rw [bne_eq_false_iff_eq]; omega
  clear h2 h3 h3'
  obtain ⟨sid, stot, ssum, sxs⟩ := s
  obtain ⟨pid, pat, ptot, psum, pxs⟩ := p
  unfold BSt.v Pc.v
  simp only at *
  obtain ⟨q, rfl⟩ : ∃ q : Nat, pat = (q : Int) := ⟨pat.toNat, by omega⟩
  have hqn : (q : Int) ≤ (n : Int) := by omega
  have d5 : decide ((n : Int) < (q : Int)) = false := decide_eq_false (by omega)
  have d5' : decide (n < q) = false := decide_eq_false (by omega)
  have HLB := Lib.hid hnb
  rw [hn] at hnb
  obtain ⟨y, hy⟩ : ∃ y : Nat, n - q = y := ⟨_, rfl⟩
  have w1 : IntKind.i64.wrap ((n : Int) - (q : Int)) = (y : Int) := by rw [IntWalk.i64_in _ (by omega)]; omega
  have HHN := Lib.hid hn
  rw [hn]
  clear h4 h0
  obtain ⟨b, hb⟩ : ∃ b, w.heap.size = b := ⟨_, rfl⟩
  obtain ⟨W, hW⟩ : ∃ W, ((w.alloc (.cells #[.int .i64 sid, .int .i64 0, .int .i64 stot, .int .u32 ssum, .slice A n c] 36)).alloc (.cells #[.int .i64 pid, .int .i64 q, .int .i64 ptot, .int .u32 psum, .slice D m k] 36)).alloc (.cells #[.int .i64 0, .int .i64 0, .int .i64 0, .int .u32 0, .slice none 0 0] 36) = W := ⟨_, rfl⟩
  have K1 : Hid (Bk W b 36 #[.int .i64 sid, .int .i64 0, .int .i64 stot, .int .u32 ssum, .slice A n c]) := Lib.hid (by
    rw [← hW, ← hb]
    exact ((Bk.new w _ _).alloc _).alloc _)
  have K2 : Hid (Bk W (b + 1) 36 #[.int .i64 pid, .int .i64 q, .int .i64 ptot, .int .u32 psum, .slice D m k]) := Lib.hid (by
    rw [← hW, ← hb]
    have := (Bk.new (w.alloc (.cells #[.int .i64 sid, .int .i64 0, .int .i64 stot, .int .u32 ssum, .slice A n c] 36)) 36 #[.int .i64 pid, .int .i64 q, .int .i64 ptot, .int .u32 psum, .slice D m k]).alloc (.cells #[.int .i64 0, .int .i64 0, .int .i64 0, .int .u32 0, .slice none 0 0] 36)
    simpa using this)
  have K3 : Hid (Bk W (b + 1 + 1) 36 #[.int .i64 0, .int .i64 0, .int .i64 0, .int .u32 0, .slice none 0 0]) := Lib.hid (by
    rw [← hW, ← hb]
    have := Bk.new ((w.alloc (.cells #[.int .i64 sid, .int .i64 0, .int .i64 stot, .int .u32 ssum, .slice A n c] 36)).alloc (.cells #[.int .i64 pid, .int .i64 q, .int .i64 ptot, .int .u32 psum, .slice D m k] 36)) 36 #[.int .i64 0, .int .i64 0, .int .i64 0, .int .u32 0, .slice none 0 0]
    simpa using this)
  have FW : Hid (Fr (fun _ => False) w W) := Lib.hid (by rw [← hW]; exact (((Fr.refl _ _).alloc _).alloc _).alloc _)
  have HB := Lib.hid hb
  clear hmay hn
  go_enter Tryd.func33, Tryd.ntmps33
  have p0 := K2.out.cell 0
  have p1 := K2.out.cell 1
  have p2 := K2.out.cell 2
  have p3 := K2.out.cell 3
  have p4 := K2.out.cell 4
  go_wp2_with fail
  clear p0 p1 p2 p3 p4
  refine (CM.out _).mono ?_; rintro e w1 ⟨rfl, hf1⟩
  have F1 := Lib.hid (FW.out.trans hf1 (fun _ _ h => h))
  have L1 := Lib.hid (K1.out.fr hf1 (fun h => h))
  have L2 := Lib.hid (K2.out.fr hf1 (fun h => h))
  have L3 := Lib.hid (K3.out.fr hf1 (fun h => h))
  clear hf1 K1 K2 K3 FW hW hb CM
  have a0 := L1.out.cell 0
  have a2 := L1.out.cell 2
  have a3 := L1.out.cell 3
  have a4 := L1.out.cell 4
  have p0 := L2.out.cell 0
  have p1 := L2.out.cell 1
  have p2 := L2.out.cell 2
  have p3 := L2.out.cell 3
  have p4 := L2.out.cell 4
  by_cases hmy : m < y
  · have e1 : decide (m < y) = true := decide_eq_true hmy
    have e2 : (m : Int) < (y : Int) := by omega
    have HDR : Hid (sxs ++ pxs.drop (n - (q : Int).toNat) = sxs ++ pxs.drop m) := Lib.hid (by rw [Int.toNat_natCast, hy, List.drop_of_length_le (by rw [HM.out]; omega), List.drop_of_length_le (by rw [HM.out]; omega)])
    obtain ⟨A2, c2, hsl, _, _, _, hrd⟩ := run_fromB D m k m (by omega) HS.out.2.1 HS.out.2.2.1 HS.out.base
    obtain ⟨z, hz⟩ : ∃ z, m - m = z := ⟨_, rfl⟩
    rw [hz] at hsl
    have HZ := Lib.hid hz
    clear hz
    have HSL := Lib.hid hsl
    have HRD : Hid (∀ w', Fr (fun _ => False) w w' → Rd8 w' A2 (pxs.drop m)) := Lib.hid (fun w' hf => hrd w' pxs HM.out (HS.out.2.2.2.1.fr hf (fun _ _ _ h => h)))
    have HO : Hid (∀ w', Fr (fun _ => False) w w' → Own8 w' 5 (.slice A n c) sxs) := Lib.hid (fun w' hf => HOW.out.fr hf (fun _ _ h => h))
    have HNE1 : Hid ((Value.slice A n c).ownBlock = some b → False) := Lib.hid (fun h => by have := HOW.out.lt h; have := HB.out; omega)
    have HNE3 : Hid ((Value.slice A n c).ownBlock = some (b + 1 + 1) → False) := Lib.hid (fun h => by have := HOW.out.lt h; have := HB.out; omega)
    clear hsl hrd hmb
    go_wp2_with fail
    clear a0 a2 a3 a4 p0 p1 p2 p3 p4
    refine wp_region_Z [6, 8] (fun w' => Fr (fun _ => False) w1 w') (by kernel_rfl) ((Fr.refl _ _).drew) (fun hHeld => ?_)
    refine anyZ_pure (i := 0) (v := ?_) (some 63) rfl rfl (by kernel_rfl) (by kernel_rfl) (by kernel_rfl) (by kernel_rfl) (fun _ _ _ h => h) (Or.inl ⟨by rfl, ?_⟩) (fun _ => hHeld) ?_
    rotate_left
    · intro w' _
      go_simp
      first | done | with_reducible rfl
    try simp only [Act.put, List.setIfInBounds_toArray, List.set_cons_zero, List.set_cons_succ]
    refine anyZ_read (i := 1) (v := ?_) (some 64) [6, 7, 8] rfl rfl (by kernel_rfl) (by kernel_rfl) (by kernel_rfl) (by kernel_rfl) (by kernel_rfl) (by kernel_rfl) (fun _ _ _ h => h) (Or.inl ⟨by rfl, ?_⟩) hHeld ?_
    rotate_left
    · intro w' hSw
      have q4 := (L1.out.fr hSw (fun h => h)).cell 4
      go_simp
      first | done | with_reducible rfl
    try simp only [Act.put, List.setIfInBounds_toArray, List.set_cons_zero, List.set_cons_succ]
    refine anyZ_pure (i := 2) (v := ?_) (some 65) rfl rfl (by kernel_rfl) (by kernel_rfl) (by kernel_rfl) (by kernel_rfl) (fun _ _ _ h => h) (Or.inl ⟨by rfl, ?_⟩) (fun _ => hHeld) ?_
    rotate_left
    · intro w' _
      go_simp
      first | done | with_reducible rfl
    try simp only [Act.put, List.setIfInBounds_toArray, List.set_cons_zero, List.set_cons_succ]
    refine anyZ_read (i := 3) (v := ?_) (some 66) [5, 6, 7, 8] rfl rfl (by kernel_rfl) (by kernel_rfl) (by kernel_rfl) (by kernel_rfl) (by kernel_rfl) (by kernel_rfl) (fun _ _ _ h => h) (Or.inl ⟨by rfl, ?_⟩) hHeld ?_
    rotate_left
    · intro w' hSw
      have q4 := (L2.out.fr hSw (fun h => h)).cell 4
      go_simp
      first | done | with_reducible rfl
    try simp only [Act.put, List.setIfInBounds_toArray, List.set_cons_zero, List.set_cons_succ]
    refine anyZ_pure (i := 4) (v := ?_) (some 67) rfl rfl (by kernel_rfl) (by kernel_rfl) (by kernel_rfl) (by kernel_rfl) (fun _ _ _ h => h) (Or.inl ⟨by rfl, ?_⟩) (fun _ => hHeld) ?_
    rotate_left
    · intro w' _
      go_simp
      first | done | with_reducible rfl
    try simp only [Act.put, List.setIfInBounds_toArray, List.set_cons_zero, List.set_cons_succ]
    refine anyZ_pure (i := 5) (v := ?_) (some 68) rfl rfl (by kernel_rfl) (by kernel_rfl) (by kernel_rfl) (by kernel_rfl) (fun _ _ _ h => h) (Or.inl ⟨by rfl, ?_⟩) (fun _ => hHeld) ?_
    rotate_left
    · intro w' _
      have HSLw := HSL.out w'
      go_simp
      first | done | with_reducible rfl
    try simp only [Act.put, List.setIfInBounds_toArray, List.set_cons_zero, List.set_cons_succ]
    refine anyZ_ready (rs := [6]) (by kernel_rfl) (by simp) ?_
    refine AllZ.last rfl (by kernel_rfl) (fun K hK => ?_) AllZ.nil
    refine stepOf_append8s rfl (.tmp 64) (.tmp 68) Tryd.t8 rfl (.slice A n c) (sxs) rfl (HO.out _ (F1.out.trans hHeld (fun _ _ h => h))) A2 z c2 (pxs.drop m) rfl (by rw [List.length_drop, HM.out]; exact HZ.out) (HRD.out _ (F1.out.trans hHeld (fun _ _ h => h))) (by have := HLB.out; have := HBB.out; have := HM.out; simp only [List.length_drop]; omega) ?_
    intro A9 c9 w9 ho9 hf9 hm9
    generalize hL9 : (sxs).length + (pxs.drop m).length = L9 at *
    have HL9 := Lib.hid hL9
    clear hL9
    have k1 := Lib.hid ((L1.out.fr hHeld (fun h => h)).fr hf9 (fun h => HNE1.out h))
    have k3 := Lib.hid ((L3.out.fr hHeld (fun h => h)).fr hf9 (fun h => HNE3.out h))
    have HFX := Lib.hid ((F1.out.trans hHeld (fun _ _ h => h)))
    have HO9 := Lib.hid ho9
    have HF9 := Lib.hid hf9
    have HM9 := Lib.hid hm9
    clear ho9 hf9 hm9
    have x0 := k1.out.cell 4
    have x1 := k1.out.frozen 4
    obtain ⟨W8, hW8⟩ : ∃ W8, w9.setCell ⟨b, 4, none⟩ (.slice A9 L9 c9) = W8 := ⟨_, rfl⟩
    refine hK.out _ _ ?_
    clear hK K
    try change anyZ _ _ _ _ _ _ _ _ (Act.put _ (some 69) _) _
    try simp only [Act.put, List.setIfInBounds_toArray, List.set_cons_zero, List.set_cons_succ]
    refine anyZ_pure (i := 7) (v := ?_) (some 70) rfl rfl (by kernel_rfl) (by kernel_rfl) (by kernel_rfl) (by kernel_rfl) (fun _ _ _ h => h) (Or.inl ⟨by rfl, ?_⟩) (notYet (by kernel_rfl)) ?_
    rotate_left
    · intro w' _
      go_simp
      first | done | with_reducible rfl
    try simp only [Act.put, List.setIfInBounds_toArray, List.set_cons_zero, List.set_cons_succ]
    refine anyZ_ready (rs := [8]) (by kernel_rfl) (by simp) ?_
    refine AllZ.last rfl (by kernel_rfl) (fun K hK => ?_) AllZ.nil
    go_simp
    refine hK.out _ _ ?_
    clear hK K
    try change anyZ _ _ _ _ _ _ _ _ (Act.put _ none _) _
    try simp only [Act.put, List.setIfInBounds_toArray, List.set_cons_zero, List.set_cons_succ]
    refine anyZ_done (by kernel_rfl) ?_ _
    clear hHeld x0 x1
    have N1 : Hid (Bk W8 b 36 #[.int .i64 sid, .int .i64 0, .int .i64 stot, .int .u32 ssum, .slice A9 L9 c9]) := Lib.hid (by rw [← hW8]; exact k1.out.set 4 _)
    have N3 : Hid (Bk W8 (b + 1 + 1) 36 #[.int .i64 0, .int .i64 0, .int .i64 0, .int .u32 0, .slice none 0 0]) := Lib.hid (by rw [← hW8]; exact k3.out.far (by show b + 1 + 1 ≠ b; omega) _)
    have NO := Lib.hid (HO9.out.fr (S := fun x => x = b) (w' := W8) (by rw [← hW8]; exact Fr.setCell (Fr.refl (fun x => x = b) w9) (p := ⟨b, 4, none⟩) (fun _ => rfl) _) (fun x hx e => HO9.out.ne k1.out (by decide) (e ▸ hx)))
    have NF : Hid (Fr (fun x => (.slice A n c : Value).ownBlock = some x) w W8) := Lib.hid (by
      rw [← hW8]
      refine Fr.setCell ((HFX.out.mono (fun _ _ h => h.elim)).trans HF9.out (fun _ _ h => h)) (p := ⟨b, 4, none⟩) (fun h => ?_) _
      have := HB.out
      have h' : b < w.heap.size := h
      omega)
    have g0 := N1.out.cell 0
    have g1 := N1.out.cell 1
    have g2 := N1.out.cell 2
    have g3 := N1.out.cell 3
    have g4 := N1.out.cell 4
    have z0 := N3.out.cell 0
    have z1 := N3.out.cell 1
    have z2 := N3.out.cell 2
    have z3 := N3.out.cell 3
    have z4 := N3.out.cell 4
    have zf0 := N3.out.frozen 0
    have zf1 := N3.out.frozen 1
    have zf2 := N3.out.frozen 2
    have zf3 := N3.out.frozen 3
    have zf4 := N3.out.frozen 4
    have G2 : Hid (Bk (set5 W8 (b + 1 + 1) (.int .i64 sid) (.int .i64 0) (.int .i64 stot) (.int .u32 ssum) (.slice A9 L9 c9)) (b + 1 + 1) 36 #[.int .i64 sid, .int .i64 0, .int .i64 stot, .int .u32 ssum, .slice A9 L9 c9] ∧ Fr (fun x => (.slice A n c : Value).ownBlock = some x) w (set5 W8 (b + 1 + 1) (.int .i64 sid) (.int .i64 0) (.int .i64 stot) (.int .u32 ssum) (.slice A9 L9 c9)) ∧ Fr (fun x => x = b + 1 + 1) W8 (set5 W8 (b + 1 + 1) (.int .i64 sid) (.int .i64 0) (.int .i64 stot) (.int .u32 ssum) (.slice A9 L9 c9))) :=
      Lib.hid ⟨N3.out.set5 .., Fr.set5 NF.out (fun h => by have := HB.out; omega) .., Fr.set5 (Fr.refl (fun x => x = b + 1 + 1) W8) (fun _ => rfl) ..⟩
    go_wp2
    change bodyPost _ _ _ _ _ (set5 W8 (b + 1 + 1) (.int .i64 sid) (.int .i64 0) (.int .i64 stot) (.int .u32 ssum) (.slice A9 L9 c9))
    have G2' := G2.out
    generalize set5 W8 (b + 1 + 1) (.int .i64 sid) (.int .i64 0) (.int .i64 stot) (.int .u32 ssum) (.slice A9 L9 c9) = w5 at *
    have q0 := G2'.1.cell 0
    have q1 := G2'.1.cell 1
    have q2 := G2'.1.cell 2
    have q3 := G2'.1.cell 3
    have q4 := G2'.1.cell 4
    refine bodyPost_ret (v := .tuple #[.agg #[.int .i64 sid, .int .i64 0, .int .i64 stot, .int .u32 ssum, .slice A9 L9 c9], .int .i64 0]) (by simp [results, Tryd.results33, go_sem, q0, q1, q2, q3, q4]) rfl ⟨.slice A9 L9 c9, rfl, ?_, G2'.2.1, ?_⟩
    · have h9 := NO.out.fr G2'.2.2 (fun x hx e => NO.out.ne N3.out (by decide) (e ▸ hx))
      rw [HDR.out]; exact h9
    · intro x hx
      rcases HM9.out with h | ⟨y, h, hy⟩
      · rw [h] at hx; exact .inl hx
      · rw [h] at hx; injection hx with hx; have := HFX.out.size; exact .inr (by omega)
  · have e1 : decide (m < y) = false := decide_eq_false hmy
    have e2 : ¬ (m : Int) < (y : Int) := by omega
    have e3 : (y : Int) ≤ (m : Int) := by omega
    have HDR : Hid (sxs ++ pxs.drop (n - (q : Int).toNat) = sxs ++ pxs.drop y) := Lib.hid (by rw [Int.toNat_natCast, hy])
    obtain ⟨A2, c2, hsl, _, _, _, hrd⟩ := run_fromB D m k y (by omega) HS.out.2.1 HS.out.2.2.1 HS.out.base
    obtain ⟨z, hz⟩ : ∃ z, m - y = z := ⟨_, rfl⟩
    rw [hz] at hsl
    have HZ := Lib.hid hz
    clear hz
    have HSL := Lib.hid hsl
    have HRD : Hid (∀ w', Fr (fun _ => False) w w' → Rd8 w' A2 (pxs.drop y)) := Lib.hid (fun w' hf => hrd w' pxs HM.out (HS.out.2.2.2.1.fr hf (fun _ _ _ h => h)))
    have HO : Hid (∀ w', Fr (fun _ => False) w w' → Own8 w' 5 (.slice A n c) sxs) := Lib.hid (fun w' hf => HOW.out.fr hf (fun _ _ h => h))
    have HNE1 : Hid ((Value.slice A n c).ownBlock = some b → False) := Lib.hid (fun h => by have := HOW.out.lt h; have := HB.out; omega)
    have HNE3 : Hid ((Value.slice A n c).ownBlock = some (b + 1 + 1) → False) := Lib.hid (fun h => by have := HOW.out.lt h; have := HB.out; omega)
    clear hsl hrd hmb
    go_wp2_with fail
    clear a0 a2 a3 a4 p0 p1 p2 p3 p4
    refine wp_region_Z [6, 8] (fun w' => Fr (fun _ => False) w1 w') (by kernel_rfl) ((Fr.refl _ _).drew) (fun hHeld => ?_)
    refine anyZ_pure (i := 0) (v := ?_) (some 63) rfl rfl (by kernel_rfl) (by kernel_rfl) (by kernel_rfl) (by kernel_rfl) (fun _ _ _ h => h) (Or.inl ⟨by rfl, ?_⟩) (fun _ => hHeld) ?_
    rotate_left
    · intro w' _
      go_simp
      first | done | with_reducible rfl
    try simp only [Act.put, List.setIfInBounds_toArray, List.set_cons_zero, List.set_cons_succ]
    refine anyZ_read (i := 1) (v := ?_) (some 64) [6, 7, 8] rfl rfl (by kernel_rfl) (by kernel_rfl) (by kernel_rfl) (by kernel_rfl) (by kernel_rfl) (by kernel_rfl) (fun _ _ _ h => h) (Or.inl ⟨by rfl, ?_⟩) hHeld ?_
    rotate_left
    · intro w' hSw
      have q4 := (L1.out.fr hSw (fun h => h)).cell 4
      go_simp
      first | done | with_reducible rfl
    try simp only [Act.put, List.setIfInBounds_toArray, List.set_cons_zero, List.set_cons_succ]
    refine anyZ_pure (i := 2) (v := ?_) (some 65) rfl rfl (by kernel_rfl) (by kernel_rfl) (by kernel_rfl) (by kernel_rfl) (fun _ _ _ h => h) (Or.inl ⟨by rfl, ?_⟩) (fun _ => hHeld) ?_
    rotate_left
    · intro w' _
      go_simp
      first | done | with_reducible rfl
    try simp only [Act.put, List.setIfInBounds_toArray, List.set_cons_zero, List.set_cons_succ]
    refine anyZ_read (i := 3) (v := ?_) (some 66) [5, 6, 7, 8] rfl rfl (by kernel_rfl) (by kernel_rfl) (by kernel_rfl) (by kernel_rfl) (by kernel_rfl) (by kernel_rfl) (fun _ _ _ h => h) (Or.inl ⟨by rfl, ?_⟩) hHeld ?_
    rotate_left
    · intro w' hSw
      have q4 := (L2.out.fr hSw (fun h => h)).cell 4
      go_simp
      first | done | with_reducible rfl
    try simp only [Act.put, List.setIfInBounds_toArray, List.set_cons_zero, List.set_cons_succ]
    refine anyZ_pure (i := 4) (v := ?_) (some 67) rfl rfl (by kernel_rfl) (by kernel_rfl) (by kernel_rfl) (by kernel_rfl) (fun _ _ _ h => h) (Or.inl ⟨by rfl, ?_⟩) (fun _ => hHeld) ?_
    rotate_left
    · intro w' _
      go_simp
      first | done | with_reducible rfl
    try simp only [Act.put, List.setIfInBounds_toArray, List.set_cons_zero, List.set_cons_succ]
    refine anyZ_pure (i := 5) (v := ?_) (some 68) rfl rfl (by kernel_rfl) (by kernel_rfl) (by kernel_rfl) (by kernel_rfl) (fun _ _ _ h => h) (Or.inl ⟨by rfl, ?_⟩) (fun _ => hHeld) ?_
    rotate_left
    · intro w' _
      have HSLw := HSL.out w'
      go_simp
      first | done | with_reducible rfl
    try simp only [Act.put, List.setIfInBounds_toArray, List.set_cons_zero, List.set_cons_succ]
    refine anyZ_ready (rs := [6]) (by kernel_rfl) (by simp) ?_
    refine AllZ.last rfl (by kernel_rfl) (fun K hK => ?_) AllZ.nil
    refine stepOf_append8s rfl (.tmp 64) (.tmp 68) Tryd.t8 rfl (.slice A n c) (sxs) rfl (HO.out _ (F1.out.trans hHeld (fun _ _ h => h))) A2 z c2 (pxs.drop y) rfl (by rw [List.length_drop, HM.out]; exact HZ.out) (HRD.out _ (F1.out.trans hHeld (fun _ _ h => h))) (by have := HLB.out; have := HBB.out; have := HM.out; simp only [List.length_drop]; omega) ?_
    intro A9 c9 w9 ho9 hf9 hm9
    generalize hL9 : (sxs).length + (pxs.drop y).length = L9 at *
    have HL9 := Lib.hid hL9
    clear hL9
    have k1 := Lib.hid ((L1.out.fr hHeld (fun h => h)).fr hf9 (fun h => HNE1.out h))
    have k3 := Lib.hid ((L3.out.fr hHeld (fun h => h)).fr hf9 (fun h => HNE3.out h))
    have HFX := Lib.hid ((F1.out.trans hHeld (fun _ _ h => h)))
    have HO9 := Lib.hid ho9
    have HF9 := Lib.hid hf9
    have HM9 := Lib.hid hm9
    clear ho9 hf9 hm9
    have x0 := k1.out.cell 4
    have x1 := k1.out.frozen 4
    obtain ⟨W8, hW8⟩ : ∃ W8, w9.setCell ⟨b, 4, none⟩ (.slice A9 L9 c9) = W8 := ⟨_, rfl⟩
    refine hK.out _ _ ?_
    clear hK K
    try change anyZ _ _ _ _ _ _ _ _ (Act.put _ (some 69) _) _
    try simp only [Act.put, List.setIfInBounds_toArray, List.set_cons_zero, List.set_cons_succ]
    refine anyZ_pure (i := 7) (v := ?_) (some 70) rfl rfl (by kernel_rfl) (by kernel_rfl) (by kernel_rfl) (by kernel_rfl) (fun _ _ _ h => h) (Or.inl ⟨by rfl, ?_⟩) (notYet (by kernel_rfl)) ?_
    rotate_left
    · intro w' _
      go_simp
      first | done | with_reducible rfl
    try simp only [Act.put, List.setIfInBounds_toArray, List.set_cons_zero, List.set_cons_succ]
    refine anyZ_ready (rs := [8]) (by kernel_rfl) (by simp) ?_
    refine AllZ.last rfl (by kernel_rfl) (fun K hK => ?_) AllZ.nil
    go_simp
    refine hK.out _ _ ?_
    clear hK K
    try change anyZ _ _ _ _ _ _ _ _ (Act.put _ none _) _
    try simp only [Act.put, List.setIfInBounds_toArray, List.set_cons_zero, List.set_cons_succ]
    refine anyZ_done (by kernel_rfl) ?_ _
    clear hHeld x0 x1
    have N1 : Hid (Bk W8 b 36 #[.int .i64 sid, .int .i64 0, .int .i64 stot, .int .u32 ssum, .slice A9 L9 c9]) := Lib.hid (by rw [← hW8]; exact k1.out.set 4 _)
    have N3 : Hid (Bk W8 (b + 1 + 1) 36 #[.int .i64 0, .int .i64 0, .int .i64 0, .int .u32 0, .slice none 0 0]) := Lib.hid (by rw [← hW8]; exact k3.out.far (by show b + 1 + 1 ≠ b; omega) _)
    have NO := Lib.hid (HO9.out.fr (S := fun x => x = b) (w' := W8) (by rw [← hW8]; exact Fr.setCell (Fr.refl (fun x => x = b) w9) (p := ⟨b, 4, none⟩) (fun _ => rfl) _) (fun x hx e => HO9.out.ne k1.out (by decide) (e ▸ hx)))
    have NF : Hid (Fr (fun x => (.slice A n c : Value).ownBlock = some x) w W8) := Lib.hid (by
      rw [← hW8]
      refine Fr.setCell ((HFX.out.mono (fun _ _ h => h.elim)).trans HF9.out (fun _ _ h => h)) (p := ⟨b, 4, none⟩) (fun h => ?_) _
      have := HB.out
      have h' : b < w.heap.size := h
      omega)
    have g0 := N1.out.cell 0
    have g1 := N1.out.cell 1
    have g2 := N1.out.cell 2
    have g3 := N1.out.cell 3
    have g4 := N1.out.cell 4
    have z0 := N3.out.cell 0
    have z1 := N3.out.cell 1
    have z2 := N3.out.cell 2
    have z3 := N3.out.cell 3
    have z4 := N3.out.cell 4
    have zf0 := N3.out.frozen 0
    have zf1 := N3.out.frozen 1
    have zf2 := N3.out.frozen 2
    have zf3 := N3.out.frozen 3
    have zf4 := N3.out.frozen 4
    have G2 : Hid (Bk (set5 W8 (b + 1 + 1) (.int .i64 sid) (.int .i64 0) (.int .i64 stot) (.int .u32 ssum) (.slice A9 L9 c9)) (b + 1 + 1) 36 #[.int .i64 sid, .int .i64 0, .int .i64 stot, .int .u32 ssum, .slice A9 L9 c9] ∧ Fr (fun x => (.slice A n c : Value).ownBlock = some x) w (set5 W8 (b + 1 + 1) (.int .i64 sid) (.int .i64 0) (.int .i64 stot) (.int .u32 ssum) (.slice A9 L9 c9)) ∧ Fr (fun x => x = b + 1 + 1) W8 (set5 W8 (b + 1 + 1) (.int .i64 sid) (.int .i64 0) (.int .i64 stot) (.int .u32 ssum) (.slice A9 L9 c9))) :=
      Lib.hid ⟨N3.out.set5 .., Fr.set5 NF.out (fun h => by have := HB.out; omega) .., Fr.set5 (Fr.refl (fun x => x = b + 1 + 1) W8) (fun _ => rfl) ..⟩
    go_wp2
    change bodyPost _ _ _ _ _ (set5 W8 (b + 1 + 1) (.int .i64 sid) (.int .i64 0) (.int .i64 stot) (.int .u32 ssum) (.slice A9 L9 c9))
    have G2' := G2.out
    generalize set5 W8 (b + 1 + 1) (.int .i64 sid) (.int .i64 0) (.int .i64 stot) (.int .u32 ssum) (.slice A9 L9 c9) = w5 at *
    have q0 := G2'.1.cell 0
    have q1 := G2'.1.cell 1
    have q2 := G2'.1.cell 2
    have q3 := G2'.1.cell 3
    have q4 := G2'.1.cell 4
    refine bodyPost_ret (v := .tuple #[.agg #[.int .i64 sid, .int .i64 0, .int .i64 stot, .int .u32 ssum, .slice A9 L9 c9], .int .i64 0]) (by simp [results, Tryd.results33, go_sem, q0, q1, q2, q3, q4]) rfl ⟨.slice A9 L9 c9, rfl, ?_, G2'.2.1, ?_⟩
    · have h9 := NO.out.fr G2'.2.2 (fun x hx e => NO.out.ne N3.out (by decide) (e ▸ hx))
      rw [HDR.out]; exact h9
    · intro x hx
      rcases HM9.out with h | ⟨y, h, hy⟩
      · rw [h] at hx; exact .inl hx
      · rw [h] at hx; injection hx with hx; have := HFX.out.size; exact .inr (by omega)

/-- What join makes, whatever it says. -/
def JoinR (v0 : Value) (s : BSt) (p : Pc) (w : World) (e : Ending) (w' : World) : Prop :=
  ∃ t v', e = .returned (.tuple #[BSt.v t v', .int .i64 (s.addE p)]) ∧ (s.addE p = 0 → t = (s.begin p).put p) ∧ Own8 w' 5 v' t.data ∧ Fr (fun x => v0.ownBlock = some x) w w' ∧ (∀ x, v'.ownBlock = some x → v0.ownBlock = some x ∨ w.heap.size ≤ x) ∧ (¬ s.addE p = 0 → Fr (fun _ => False) w w')
theorem join_any (s : BSt) (p : Pc) (A : Option Addr) (n c : Nat) (D : Option Addr) (m k F : Nat) (w : World) (hok : s.Ok) (ho : Own8 w 5 (.slice A n c) s.data) (hs : Sl8 w F D m k p.data) (hmb : (m : Int) ≤ 140737488355328) :
    Calls Tryd.prog 33 #[s.v (.slice A n c), p.v (.slice D m k)] w (JoinR (.slice A n c) s p w) := by
  have hn : s.data.length = n := ho.cap8.1.symm
  by_cases hE : s.addE p = 0
  · obtain ⟨hmay, h2, h3, h4⟩ := BSt.addE_ok hE
    have hmb2 : (m : Int) ≤ 1048576 := by
      obtain ⟨_, m2, m3, m4, m5, _⟩ := hmay
      rw [hs.1] at m5
      omega
    by_cases h5 : s.id < p.id
    · have h6 : p.at_ = 0 := by
        unfold BSt.begin at h4
        rw [if_pos h5] at h4
        have := hmay.2.2.2.1
        simp at h4; omega
      have hp := (BSt.addE_new hmay h5 h6).2
      refine (join_new s p A n c D m k F w hn hs hmb2 hmay h5 h6).mono ?_
      rintro e w' ⟨v', rfl, ho', hf', hm'⟩
      exact ⟨_, v', by rw [hE], fun _ => hp.symm, ho', hf', hm', fun h => absurd hE h⟩
    · have h6 : p.id = s.id := by omega
      have h4' : p.at_ ≤ (s.data.length : Int) := by
        unfold BSt.begin at h4
        rwa [if_neg h5] at h4
      have hp := (BSt.addE_on hmay h6 (h3 h6).1 (h3 h6).2 h4').2
      refine (join_on s p A n c D m k F w hn hok.len ho hs hmb2 hmay h6 (h3 h6).1 (h3 h6).2 hmay.2.2.2.1 h4').mono ?_
      rintro e w' ⟨v', rfl, ho', hf', hm'⟩
      exact ⟨_, v', by rw [hE], fun _ => hp.symm, ho', hf', hm', fun h => absurd hE h⟩
  · refine (join_no s p A n c D m k w hn hs.1 hmb hE).mono ?_
    rintro e w' ⟨rfl, hf'⟩
    exact ⟨⟨0, 0, 0, []⟩, .slice none 0 0, rfl, fun h => absurd h hE, Own8.nil _ _, hf'.mono (fun _ _ h => h.elim), fun x hx => by simp [Value.ownBlock] at hx, fun _ => hf'⟩
end Go.Proofs.YtacafjbbdklleaaDoor
