/- The reference's New, Arm and Read. -/
import Derived.Test.YtnkkdpmmnenncaaVc
namespace Go.Proofs.Ytnkkdpmmnenncaa
open Go.RowKit Go.Maps

theorem refNew_bad (N sz : Int) (w : World) (h : N < 1 ∨ 16384 < N ∨ sz < 64 ∨ 1024 < sz) :
    Calls Try.prog 11 #[.int .i64 N, .int .i64 sz] w fun e w' => e = .returned (.tuple #[.pointer none, .int .i64 1]) ∧ w = w' := by
  by_cases h1 : N < 1
  · go_enter Try.func11, Try.ntmps11
    go_wp2
    go_ret2
    exact ⟨rfl, rfl⟩
  · have d1 : decide (N < 1) = false := by simpa using h1
    have g1 : 1 ≤ N := by omega
    by_cases h2 : 16384 < N
    · clear h h1
      go_enter Try.func11, Try.ntmps11
      go_wp2
      go_ret2
      exact ⟨rfl, rfl⟩
    · have d2 : decide (16384 < N) = false := by simpa using h2
      have g2 : N ≤ 16384 := by omega
      by_cases h3 : sz < 64
      · clear h h1 h2
        go_enter Try.func11, Try.ntmps11
        go_wp2
        go_ret2
        exact ⟨rfl, rfl⟩
      · have d3 : decide (sz < 64) = false := by simpa using h3
        have g3 : 64 ≤ sz := by omega
        have h4 : 1024 < sz := by omega
        clear h h1 h2 h3
        go_enter Try.func11, Try.ntmps11
        go_wp2
        go_ret2
        exact ⟨rfl, rfl⟩

set_option maxRecDepth 100000 in
set_option maxHeartbeats 2000000 in
theorem refNew_any (N sz : Nat) (w : World) (h0 : 1 ≤ N) (h1 : N ≤ 16384) (h2 : 64 ≤ sz) (h3 : sz ≤ 1024) :
    Calls Try.prog 11 #[.int .i64 (N : Int), .int .i64 (sz : Int)] w fun e w' => ∃ g G, e = .returned (.tuple #[.pointer (some ⟨g, 0, none⟩), .int .i64 0]) ∧ RefD w' g (DS.new N sz) G ∧ (∀ k, G k → w.heap.size ≤ k) ∧ Fr (fun _ => False) w w' := by
  have hm : N * sz ≤ 16777216 := by
    have := Nat.mul_le_mul h1 h3
    omega
  obtain ⟨cur, hcur, hmk⟩ := run_make8w Try.t8d .i64 .i64 (N * sz) (by omega)
  have e1 : IntKind.i64.wrap ((N : Int) * (sz : Int)) = ((N * sz : Nat) : Int) := by
    have h2 : ((N * sz : Nat) : Int) = (N : Int) * sz := by simp
    rw [← h2]
    exact IntWalk.i64_in _ (by omega)
  have e2 : wrap64 ((N : Int) * (sz : Int)) = ((N * sz : Nat) : Int) := by
    have h2 : ((N * sz : Nat) : Int) = (N : Int) * sz := by simp
    rw [← h2]
    unfold wrap64; omega
  have HOK := Lib.hid (DS.ok.new h0 h1 h2 h3)
  have HC := Lib.hid hcur
  generalize hM : N * sz = M at *
  have HMM := Lib.hid hM
  clear hcur hM
  go_enter Try.func11, Try.ntmps11
  go_wp2_with fail
  go_ret2
  have hk2 : Bk (w.alloc (.cells cur 5)) w.heap.size 5 cur := Bk.new w 5 cur
  rw [HC.out] at hk2
  have hcur := HC.out
  subst hcur
  have hz : (w.alloc (.cells ((List.replicate M (0 : UInt8)).map B8).toArray 5)).heap.size = w.heap.size + 1 := by simp
  have hbk := Bk.new (w.alloc (.cells ((List.replicate M (0 : UInt8)).map B8).toArray 5)) 47 #[.int .i64 (N : Int), .int .i64 (sz : Int), .slice (some ⟨w.heap.size, 0, none⟩) M M, .slice none 0 0, .bool false, .int .i64 0, .slice none 0 0, .int .i64 0]
  rw [hz] at hbk
  have hf := ((Fr.refl (fun _ => False) w).alloc (.cells ((List.replicate M (0 : UInt8)).map B8).toArray 5)).alloc (.cells #[.int .i64 (N : Int), .int .i64 (sz : Int), .slice (some ⟨w.heap.size, 0, none⟩) M M, .slice none 0 0, .bool false, .int .i64 0, .slice none 0 0, .int .i64 0] 47)
  have hk3 := hk2.alloc (.cells #[.int .i64 (N : Int), .int .i64 (sz : Int), .slice (some ⟨w.heap.size, 0, none⟩) M M, .slice none 0 0, .bool false, .int .i64 0, .slice none 0 0, .int .i64 0] 47)
  have hMN := HMM.out
  subst hMN
  have D : RefM _ (w.heap.size + 1) (DS.new N sz) ⟨w.heap.size, .slice none 0 0, [], .slice none 0 0⟩ :=
    ⟨HOK.out, hbk, hk3, OwnP.nil _, rfl, fun p hp => by simp at hp, fun h => absurd h (by simp [DS.new])⟩
  refine ⟨w.heap.size + 1, fun k => BL (DS.new N sz) (w.heap.size + 1) ⟨w.heap.size, .slice none 0 0, [], .slice none 0 0⟩ k, by rfl, ⟨_, D, fun _ h => h, fun _ h => D.lt h⟩, fun k hk => ?_, hf⟩
  rcases hk with h | h | h | ⟨p, hp, _⟩ | ⟨h, _⟩
  · omega
  · simp only at h; omega
  · simp [Value.ownBlock] at h
  · simp at hp
  · simp [DS.new] at h

theorem OwnB.form {w : World} {v : Value} {xs : List Bool} (h : OwnB w v xs) : (v = .slice none 0 0 ∧ xs = []) ∨ ∃ g cap, v = .slice (some ⟨g, 0, none⟩) xs.length cap := by
  rcases h.2 with ⟨rfl, h0⟩ | ⟨g, cap, cur, rfl, _, _, h1, h2, _⟩
  · exact .inl ⟨rfl, List.eq_nil_of_length_eq_zero h0⟩
  · exact .inr ⟨g, cap, rfl⟩
theorem OwnB.rd {w : World} {A : Option Addr} {n c : Nat} {xs : List Bool} (h : OwnB w (.slice A n c) xs) : RdB w A xs := by
  obtain ⟨A', c', e, hr, _⟩ := rdB_own h rfl
  injection e with e1 e2 e3; subst e1; exact hr
/-- append([]bool{}, x...). -/
theorem wpList_appendB {ops : Array Oper} {rest : List Oper} {o : Oper} {a : Go.Act} {w : World} {Q : Exit → Go.Act → World → Prop} (hgd : o.guard = none) (s x : Operand)
    (ho : o.op = .call { callee := .builtin .append, args := #[s, x], argTypes := #[33, 33] })
    (k0 : Nat) (hk0 : w.heap.size = k0) (hs : a.eval s = .slice (some ⟨k0, 0, none⟩) 0 0) (A : Option Addr) (m c : Nat) (xs : List Bool) (hx : a.eval x = .slice A m c) (hm : xs.length = m) (hr : RdB w A xs) (hlen : m ≤ 140737488355328)
    (h : ∀ k c' w', OwnB w' (.slice (some ⟨k, 0, none⟩) m c') xs → Fr (fun _ => False) w w' → w.heap.size ≤ k → wpList Try.prog ops Q rest (a.put o.dst (.slice (some ⟨k, 0, none⟩) m c')) w') :
    wpList Try.prog ops Q (o :: rest) a (w.alloc (.cells #[] 4)) := by
  subst hk0
  obtain ⟨i, hi, hz, hsz, hby⟩ := info_parts Try.infoB
  have hf0 : Fr (fun _ => False) w (w.alloc (.cells #[] 4)) := (Fr.refl _ _).alloc _
  have hown : (w.alloc (.cells #[] 4)).ownsRow 0 4 1 (.slice (some ⟨w.heap.size, 0, none⟩) 0 0) 0 [] := World.ownsRow_made w #[] 0 (Nat.zero_le _) (by decide) rfl
  refine wpList_plain hgd fun K hK => ?_
  unfold Oper.wp execOp
  subst hm
  have hr' := hr.fr hf0 (fun _ _ _ h => h)
  rcases A with _ | ad
  · have h0 : xs = [] := by
      rcases Nat.eq_zero_or_pos xs.length with h0 | h0
      · exact List.eq_nil_of_length_eq_zero h0
      · obtain ⟨ad, h, _⟩ := hr h0; cases h
    subst h0
    have hrun : (Builtin.append_ #[33, 33] o.type #[.slice (some ⟨w.heap.size, 0, none⟩) 0 0, .slice none ([] : List Bool).length c]).run Try.prog (w.alloc (.cells #[] 4)) = .ok (.slice (some ⟨w.heap.size, 0, none⟩) 0 0) (w.alloc (.cells #[] 4)) := by
      simp [Builtin.append_, run_underlying Try.underlying33, sizeOf, typeInfo, hi, Builtin.lenOf, Builtin.firstCells, storeCells]
    simp only [ho, resolve, invoke, builtin, Sem.run_bind, Sem.run_pure, Result.andThen_ok, List.map_toArray, List.map_cons, List.map_nil, hs, hx, hrun]
    exact hK _ _ (h w.heap.size 0 _ hown hf0 (Nat.le_refl _))
  · have hnews : ∀ j u, (xs.map Value.bool)[j]? = some u → (w.alloc (.cells #[] 4)).cell? (ad.add j) = some u := by
      intro j u hu
      have hj : j < xs.length := by
        have := (List.getElem?_eq_some_iff.1 hu).1
        simpa using this
      obtain ⟨ad', h, hsp, hc⟩ := hr' (by omega)
      injection h with h
      subst h
      obtain ⟨b, o, sp⟩ := ad
      cases hsp
      rw [add_at, hc j hj]
      simp [hj] at hu
      rw [← hu]
    obtain ⟨v', w', h1, h2, h3, h4, h5⟩ := run_append_own_at (P := Try.prog) _ 0 33 o.type 4 i (.bool false) 1 1 Try.underlying33 hi hz hsz hby rfl (by decide) _ 0 [] hown ad xs.length c (xs.map Value.bool) (by simp)
      hnews (BV_one xs) (by unfold maxLen; omega) (by omega) (Nat.zero_le _)
    have hob : OwnB w' v' xs := by unfold OwnB; simpa using h2
    simp only [ho, resolve, invoke, builtin, Sem.run_bind, Sem.run_pure, Result.andThen_ok, List.map_toArray, List.map_cons, List.map_nil, hs, hx, h1]
    have hv : ∃ k cap, v' = .slice (some ⟨k, 0, none⟩) xs.length cap := by
      rcases hob.form with ⟨rfl, h0⟩ | hv
      · exact absurd (h4.1 rfl).1 (by simp)
      · exact hv
    obtain ⟨k, cap, rfl⟩ := hv
    refine hK _ _ (h k cap w' hob (hf0.trans (Fr.of_grown h3) (fun x hx e => ?_)) ?_)
    · have e' : w.heap.size = x := by simpa [Value.ownBlock] using e
      omega
    · rcases h5 with e | e
      · have : k = w.heap.size := by simpa [Value.ownBlock] using e
        omega
      · have : k = w.heap.size + 1 := by simpa [Value.ownBlock] using e
        omega

set_option maxRecDepth 100000 in
set_option maxHeartbeats 2000000 in
theorem refArm_any {w : World} {g : Nat} {s : DS} {G : Nat → Prop} (h : RefD w g s G) (n : Int) (hn : n ≤ 9223372036854775807) (A : Option Addr) (k c : Nat) (xs : List Bool) (hr : RdB w A xs) (hk : xs.length = k) (hb : k ≤ 140737488355328) (hA : ∀ ad, A = some ad → 0 < xs.length → ad.block ≠ g) :
    Calls Try.prog 18 #[.pointer (some ⟨g, 0, none⟩), .int .i64 n, .slice A k c] w fun e w' => e = .returned (.tuple #[]) ∧ RefTo w g G w' (s.arm n xs) := by
  obtain ⟨m, hm, hG, hlt⟩ := h
  have c5 : w.cell? ⟨g, 5, none⟩ = some (.int .i64 (s.left : Int)) := hm.cells rfl
  have f5 : w.frozen? ⟨g, 5, none⟩ = false := hm.blk.frozen 5
  have H := Lib.hid hm
  have HR := Lib.hid (fun u => hr.fr (Bk.fr_set (w := w) (g := g) 5 u) (fun ad e h0 hx => hA ad e h0 hx))
  have HK := Lib.hid hk
  have HG := Lib.hid hG
  have HN := Lib.hid hn
  have HLT := Lib.hid hlt
  have hgl := hm.blk.lt
  clear hm hr hk hA hG hn hlt
  by_cases h1 : n < 1
  all_goals
    first
      | (have hm : ((max n 1).toNat : Int) = 1 := by omega
         have HM := Lib.hid hm
         clear hm)
      | (have hm : ((max n 1).toNat : Int) = n := by omega
         have HM := Lib.hid hm
         have hge : 1 ≤ n := by omega
         clear hm)
    go_enter Try.func18, Try.ntmps18
    go_wp2_with (at_builtin; (
      refine wpList_appendB rfl (.tmp 13) (.tmp 14) rfl w.heap.size (by simp) rfl A k c xs rfl HK.out (HR.out _) hb ?_
      intro kb c' w1 ho hf hle
      have hz : w.heap.size ≤ kb := by simpa using hle
      have hbk := (H.out.blk.set 5 (.int .i64 ((max n 1).toNat : Int))).fr (S := fun _ => False) (w' := w1) (by rw [HM.out]; exact hf) (fun h => h)
      have hfr : Fr (fun x => x = g) w w1 := (Bk.fr_set 5 _).trans hf (fun _ _ h => h.elim)
      have hbk' : Bk w1 g 47 (rcells (s.arm n xs) m) := hbk
      have f6 : w1.frozen? ⟨g, 6, none⟩ = false := hbk'.frozen 6
      have c6 : w1.cell? ⟨g, 6, none⟩ = some m.KV := hbk'.cell 6
      have HBK := Lib.hid hbk'
      have HFR := Lib.hid hfr
      have HO := Lib.hid ho
      have HZ := Lib.hid hz
      clear hbk hbk' hfr ho hf hle))
    go_end0
    have hf2 : Fr (fun x => x = g) w (w1.setCell ⟨g, 6, none⟩ (.slice (some ⟨kb, 0, none⟩) k c')) := HFR.out.set 6 _
    have hf3 : Fr (fun x => x = g) w1 (w1.setCell ⟨g, 6, none⟩ (.slice (some ⟨kb, 0, none⟩) k c')) := Bk.fr_set 6 _
    have D : RefM (w1.setCell ⟨g, 6, none⟩ (.slice (some ⟨kb, 0, none⟩) k c')) g (s.arm n xs) ⟨m.bb, m.LV, m.ps, .slice (some ⟨kb, 0, none⟩) k c'⟩ :=
      ⟨H.out.ok.arm n HN.out xs, HBK.out.set 6 _, H.out.kept.fr hf2 H.out.bg, H.out.row.fr hf2 (fun k e hx => H.out.lg (by rw [e, hx])), H.out.q, fun p hp => ⟨(H.out.each p hp).1.fr hf2 (fun k e hx => by
        injection e with e
        exact H.out.pg hp (e.trans hx)), (H.out.each p hp).2⟩, fun _ => HO.out.fr hf3 (fun k e hx => by
        injection e with e
        have := HZ.out
        simp only at e; omega)⟩
    refine ⟨rfl, D.to (fun x hx => ?_) (hf2.mono (fun x _ e => HG.out _ (.inl e)))⟩
    rcases hx with e | e | e | e | ⟨_, e⟩
    · exact .inl (HG.out _ (.inl e))
    · exact .inl (HG.out _ (.inr (.inl e)))
    · exact .inl (HG.out _ (.inr (.inr (.inl e))))
    · exact .inl (HG.out _ (.inr (.inr (.inr (.inl e)))))
    · refine .inr ?_
      have e' : kb = x := by simpa [Value.ownBlock] using e
      have := HZ.out
      omega
end Go.Proofs.Ytnkkdpmmnenncaa
