/- The reference's Again. -/
import Derived.Test.YtmlckocgahfnkaaPc
namespace Go.Proofs.Ytmlckocgahfnkaa
open Go.RowKit

theorem NewRow.of {w W : World} (h : Fr (fun _ => False) w W) : NewRow w (W.alloc (.cells #[] 61)) (.slice (some ⟨W.heap.size, 0, none⟩) 0 0) 0 [] := (NewRow.fresh W).from h
theorem Fr.bkNew {w W : World} (_h : Fr (fun _ => False) w W) (t : TypeId) (cs : Array Value) : Bk (W.alloc (.cells cs t)) W.heap.size t cs := Bk.new W t cs
theorem slOne {w : World} {b : Nat} {q : KP} (h : Bk w b 61 #[.int .i64 q.pk.fr, .int .i64 q.pk.to, .int .i64 (q.pk.n : Int), .slice q.A q.pk.bs.length q.c]) : Sl w 4 (.slice (some ⟨b, 0, none⟩) 1 1) 1 q.cells :=
  Sl.at rfl rfl (fun j u hu => by rw [Nat.zero_add, h.cell]; simpa [KP.cells, KP.sl] using hu)
theorem kpc_ins (a b : List KP) (q : KP) : kpc (a ++ q :: b) = kpc a ++ q.cells ++ kpc b := by simp [kpc]
theorem q_one (q : KP) : ∀ u ∈ q.cells, u.oneCell' = true := fun u hu => kpc_one [q] u (by simpa [kpc] using hu)

set_option maxRecDepth 100000 in
set_option maxHeartbeats 8000000 in
theorem ragain_none (g : Nat) (s : NS) (m : RL) (a : Int) (w : World) (h : RefM w g s m) (hw : s.waits a = false) :
    Calls Try.prog 24 #[.pointer (some ⟨g, 0, none⟩), .int .i64 a] w fun e w' => e = .returned (.int .i64 2) ∧ w = w' := by
  obtain ⟨A, c, hLV, _, _, _⟩ := h.row.form
  have c2 : w.cell? ⟨g, 2, none⟩ = some (.slice A m.ks.length c) := by rw [← hLV]; exact h.cells rfl
  unfold NS.waits at hw
  rw [← h.ll] at hw
  generalize m.ks.length = n at *
  clear h hLV
  by_cases h0 : a < 0
  · have d0 : decide (a < 0) = true := by simpa using h0
    go_enter Try.func24, Try.ntmps24
    go_wp2
    go_ret
    exact ⟨rfl, rfl⟩
  · have d0 : decide (a < 0) = false := by simpa using h0
    have d1 : (n : Int) ≤ a := by simp at hw; omega
    go_enter Try.func24, Try.ntmps24
    go_wp2
    go_ret
    exact ⟨rfl, rfl⟩

theorem allocSize (W : World) (o : Obj) : (W.alloc o).heap.size = W.heap.size + 1 := by simp
theorem mem_ins {ks : List KP} {k : Nat} {q x : KP} (hq : q ∈ ks) (h : x ∈ ks.take k ++ q :: ks.drop k) : x ∈ ks := by
  rcases List.mem_append.1 h with h | h
  · exact List.mem_of_mem_take h
  · rcases List.mem_cons.1 h with rfl | h
    · exact hq
    · exact List.mem_of_mem_drop h

set_option maxRecDepth 100000 in
set_option maxHeartbeats 8000000 in
theorem ragain_last (g i : Nat) (s : NS) (b off c : Nat) (CV : Value) (ks : List KP) (w : World) (h : RefM w g s ⟨.slice (some ⟨b, off, none⟩) ks.length c, CV, ks⟩) (hi : i < ks.length) (hq : ks.length < 4096) (hck : c = s.past i) :
    Calls Try.prog 24 #[.pointer (some ⟨g, 0, none⟩), .int .i64 (i : Int)] w fun e w' => e = .returned (.int .i64 0) ∧ ∃ m', RefM w' g (s.again i) m' ∧ Fr (fun x => x = g) w w' ∧ ∀ x, RB g m' x → RB g ⟨.slice (some ⟨b, off, none⟩) ks.length c, CV, ks⟩ x ∨ w.heap.size ≤ x := by
  obtain ⟨A0, c0, hLV, hlc, hcm, _⟩ := h.row.form
  simp only at hLV hlc
  injection hLV with e1 _ e3
  subst e1 e3
  have hll := h.ll
  simp only at hll
  have hb := World.block_lt_of_cell? w _ (h.at4 hi).1
  simp only at hb
  obtain ⟨e0, e1, e2, e3⟩ := h.at4 hi
  have c2 : w.cell? ⟨g, 2, none⟩ = some (.slice (some ⟨b, off, none⟩) ks.length c) := h.cells rfl
  have hgl := h.blk.lt
  have hpk := h.pk (i := i) hi
  simp only at hpk
  have hqm := getD_mem hi
  generalize ks.getD i default = q at *
  unfold KP.sl at e3
  have fa : Fr (fun _ => False) w (w.alloc (.cells #[.int .i64 q.pk.fr, .int .i64 q.pk.to, .int .i64 (q.pk.n : Int), .slice q.A q.pk.bs.length q.c] 61)) := (Fr.refl _ _).alloc _
  have ka := Bk.new w 61 #[.int .i64 q.pk.fr, .int .i64 q.pk.to, .int .i64 (q.pk.n : Int), .slice q.A q.pk.bs.length q.c]
  have h1 := h.fr0 fa
  have hXn := s.past_le i (by omega)
  obtain ⟨X, hX⟩ : ∃ X, s.past i = X := ⟨_, rfl⟩
  rw [hX] at hck hXn
  obtain ⟨n, hn⟩ : ∃ n, ks.length = n := ⟨_, rfl⟩
  have HC := Lib.hid (fun w' (hf : Fr (fun _ => False) (w.alloc (.cells #[.int .i64 q.pk.fr, .int .i64 q.pk.to, .int .i64 (q.pk.n : Int), .slice q.A q.pk.bs.length q.c] 61)) w') => show w'.cell? ⟨g, 2, none⟩ = some (.slice (some ⟨b, off, none⟩) n c) from by rw [← hn]; exact (h1.fr0 hf).cells rfl)
  have HE := Lib.hid (fun w' (hf : Fr (fun _ => False) (w.alloc (.cells #[.int .i64 q.pk.fr, .int .i64 q.pk.to, .int .i64 (q.pk.n : Int), .slice q.A q.pk.bs.length q.c] 61)) w') (k : Nat) (hk : k < n) => show w'.cell? ⟨b, off + k * 4 + 2, none⟩ = some (.int .i64 ((s.l.getD k default).n : Int)) from by
    have hk' : k < ks.length := by rw [hn]; exact hk
    have h2 := ((h1.fr0 hf).at4 hk').2.2.1
    rw [h2, ← h1.pk hk'])
  have HKB := Lib.hid (fun w' (hf : Fr (fun _ => False) (w.alloc (.cells #[.int .i64 q.pk.fr, .int .i64 q.pk.to, .int .i64 (q.pk.n : Int), .slice q.A q.pk.bs.length q.c] 61)) w') => show Bk w' w.heap.size 61 #[.int .i64 q.pk.fr, .int .i64 q.pk.to, .int .i64 (q.pk.n : Int), .slice q.A q.pk.bs.length q.c] from ka.fr hf (fun h => h))
  have HS1 := Lib.hid (fun W (hf : Fr (fun _ => False) (w.alloc (.cells #[.int .i64 q.pk.fr, .int .i64 q.pk.to, .int .i64 (q.pk.n : Int), .slice q.A q.pk.bs.length q.c] 61)) W) (k : Nat) (hk : k ≤ n) => slTake (ks := ks) (h1.row.fr0 hf) (k := k) (by omega))
  have HS2 := Lib.hid (fun W (hf : Fr (fun _ => False) (w.alloc (.cells #[.int .i64 q.pk.fr, .int .i64 q.pk.to, .int .i64 (q.pk.n : Int), .slice q.A q.pk.bs.length q.c] 61)) W) (k : Nat) (hk : k ≤ n) => slDrop (ks := ks) (h1.row.fr0 hf) (k := k) (c' := c - k) (by omega))
  have H := Lib.hid h1
  have HN := Lib.hid hn
  have HX := Lib.hid hX
  have HQ := Lib.hid (And.intro hpk hqm)
  have FA := Lib.hid (fa.mono (T := fun x => x = g) (fun _ _ h => h.elim))
  unfold maxLen at hcm
  have hcm' : (c : Int) ≤ 9223372036854775807 := by omega
  rw [hn] at c2 hlc hi hq hll
  rw [hn] at HS2
  have hi0 : (0 : Int) ≤ (i : Int) := by omega
  have hlt : (i : Int) < (n : Int) := by omega
  have hn2 : (n : Int) < 4096 := by omega
  have HXr := Lib.hid (show X = runOf s.l q.pk.n s.l.length i from by
    rw [runOf_fuel s.l.length (s.l.length + 1) i (by omega) (by omega), runOf_yes (by omega) (by rw [hpk]), ← hX, ← hpk]; rfl)
  have HLL := Lib.hid hll
  clear h h1 fa ka hX hn hpk hqm hll
  go_enter Try.func24, Try.ntmps24
  go_wp2_with fail
  generalize w.alloc (.cells #[.int .i64 q.pk.fr, .int .i64 q.pk.to, .int .i64 (q.pk.n : Int), .slice q.A q.pk.bs.length q.c] 61) = W1 at *
  obtain ⟨pb, hpb⟩ : ∃ pb, w.heap.size = pb := ⟨_, rfl⟩
  rw [hpb] at HKB ⊢
  clear e0 e1 e2 e3 c2
  go_loopw [6] (fun u wr => ∃ k : Nat, u = .int .i64 (k : Int) ∧ k ≤ n ∧ X = runOf s.l q.pk.n s.l.length k ∧ Fr (fun _ => False) W1 wr) (fun u _ => n - (intOf u).toNat)
  case atStart => exact ⟨i, rfl, by omega, HXr.out, Fr.refl _ _⟩
  case round =>
    obtain ⟨k, rfl, hk, hX, hf⟩ := hrel
    have HX' := Lib.hid hX
    have HF := Lib.hid hf
    have c3 := HC.out wr hf
    have hk0 : (0 : Int) ≤ (k : Int) := by omega
    have e1 : wr.cell? ⟨pb, 2, none⟩ = some (.int .i64 (q.pk.n : Int)) := (HKB.out wr hf).cell 2
    clear hX hf
    by_cases hlt2 : k < n
    · have hlt' : (k : Int) < n := by omega
      have e2 := HE.out wr HF.out k hlt2
      by_cases hq2 : (s.l.getD k default).n = q.pk.n
      · have d : ((((s.l.getD k default).n : Nat) : Int) == ((q.pk.n : Nat) : Int)) = true := by rw [beq_iff_eq]; omega
        have HXX := Lib.hid (HX'.out.trans (show runOf s.l q.pk.n s.l.length k = runOf s.l q.pk.n s.l.length (k + 1) by
          rw [runOf_fuel s.l.length (s.l.length + 1) k (by omega) (by omega), runOf_yes (by have := HLL.out; omega) hq2]))
        clear hq2
        generalize (((s.l.getD k default).n : Nat) : Int) = x at *
        go_wp2_with fail
        go_quiet (fail)
        go_wp2
        refine ⟨⟨k + 1, by simp, by omega, HXX.out, HF.out.drewN _⟩, ?_⟩
        first | omega | (show _ < _; simp [intOf]; omega)
      · have d : ((((s.l.getD k default).n : Nat) : Int) == ((q.pk.n : Nat) : Int)) = false := by rw [beq_eq_false_iff_ne]; omega
        have hkX := HX'.out.trans (runOf_no (l := s.l) (n := q.pk.n) (f := s.l.length) (k := k) (fun h => hq2 h.2))
        clear hq2
        exact absurd hlt2 (by omega)
    · have hkX := HX'.out.trans (runOf_no (l := s.l) (n := q.pk.n) (f := s.l.length) (k := k) (fun h => by have h2 := HLL.out; omega))
      obtain rfl : k = n := by omega
      subst hkX
      obtain rfl : X = c := by omega
      have HKP := Lib.hid (fun w' (hf : Fr (fun _ => False) W1 w') => have hb' := HKB.out w' hf; show w'.cell? ⟨pb, 0, none⟩ = some (.int .i64 q.pk.fr) ∧ w'.cell? ⟨pb, 1, none⟩ = some (.int .i64 q.pk.to) ∧ w'.cell? ⟨pb, 2, none⟩ = some (.int .i64 (q.pk.n : Int)) ∧ w'.cell? ⟨pb, 3, none⟩ = some (.slice q.A q.pk.bs.length q.c) from ⟨hb'.cell 0, hb'.cell 1, hb'.cell 2, hb'.cell 3⟩)
      replace HS1 := Lib.hid (fun W hf => HS1.out W hf X hk)
      replace HS2 := Lib.hid (fun W => show Sl W 4 (.slice (some ⟨b, off, none⟩) 0 0) 0 (kpc (ks.drop X)) from by rw [List.drop_eq_nil_of_le (by have := HN.out; omega)]; exact Sl.none)
      have hkc : (X : Int) ≤ (X : Int) := by omega
      skip
      go_wp2_with fail
      go_quiet (fail)
      go_wp2_with fail
      refine wp_region_Z [] (fun w' => Fr (fun _ => False) W1 w') (by kernel_rfl) ((HF.out.drewN _).drew) (fun hHeld => ?_)
      refine anyZ_pure (i := 1) (v := ?_) (some 56) rfl rfl (by kernel_rfl) (by kernel_rfl) (by kernel_rfl) (by kernel_rfl) (fun _ _ _ h => h) (Or.inl ⟨by rfl, ?_⟩) (fun _ => hHeld) ?_
      rotate_left
      · intro w' _
        go_simp
        first | done | with_reducible rfl
      try simp only [Go.Act.put, List.setIfInBounds_toArray, List.set_cons_zero, List.set_cons_succ]
      refine anyZ_pure (i := 2) (v := ?_) (some 57) rfl rfl (by kernel_rfl) (by kernel_rfl) (by kernel_rfl) (by kernel_rfl) (fun _ _ _ h => h) (Or.inl ⟨by rfl, ?_⟩) (fun _ => hHeld) ?_
      rotate_left
      · intro w' _
        go_simp
        first | done | with_reducible rfl
      try simp only [Go.Act.put, List.setIfInBounds_toArray, List.set_cons_zero, List.set_cons_succ]
      refine anyZ_pure (i := 3) (v := ?_) (some 58) rfl rfl (by kernel_rfl) (by kernel_rfl) (by kernel_rfl) (by kernel_rfl) (fun _ _ _ h => h) (Or.inl ⟨by rfl, ?_⟩) (fun _ => hHeld) ?_
      rotate_left
      · intro w' _
        go_simp
        first | done | with_reducible rfl
      try simp only [Go.Act.put, List.setIfInBounds_toArray, List.set_cons_zero, List.set_cons_succ]
      refine anyZ_read (i := 4) (v := ?_) (some 59) [6, 7, 10, 11] rfl rfl (by kernel_rfl) (by kernel_rfl) (by kernel_rfl) (by kernel_rfl) (by kernel_rfl) (by kernel_rfl) (fun _ _ _ h => h) (Or.inl ⟨by rfl, ?_⟩) hHeld ?_
      rotate_left
      · intro w' hSw
        have q1 := HC.out w' hSw
        go_simp
        first | done | with_reducible rfl
      try simp only [Go.Act.put, List.setIfInBounds_toArray, List.set_cons_zero, List.set_cons_succ]
      refine anyZ_pure (i := 5) (v := ?_) (some 60) rfl rfl (by kernel_rfl) (by kernel_rfl) (by kernel_rfl) (by kernel_rfl) (fun _ _ _ h => h) (Or.inl ⟨by rfl, ?_⟩) (fun _ => hHeld) ?_
      rotate_left
      · intro w' _
        go_simp
        first | done | with_reducible rfl
      try simp only [Go.Act.put, List.setIfInBounds_toArray, List.set_cons_zero, List.set_cons_succ]
      refine anyZ_pure (i := 6) (v := ?_) (some 61) rfl rfl (by kernel_rfl) (by kernel_rfl) (by kernel_rfl) (by kernel_rfl) (fun _ _ _ h => h) (Or.inl ⟨by rfl, ?_⟩) (fun _ => hHeld) ?_
      rotate_left
      · intro w' _
        go_simp
        first | done | with_reducible rfl
      try simp only [Go.Act.put, List.setIfInBounds_toArray, List.set_cons_zero, List.set_cons_succ]
      refine anyZ_read (i := 8) (v := ?_) (some 63) [9, 10, 11] rfl rfl (by kernel_rfl) (by kernel_rfl) (by kernel_rfl) (by kernel_rfl) (by kernel_rfl) (by kernel_rfl) (fun _ _ _ h => h) (Or.inl ⟨by rfl, ?_⟩) hHeld ?_
      rotate_left
      · intro w' hSw
        obtain ⟨q1, q2, q3, q4⟩ := HKP.out w' hSw
        go_simp
        first | done | with_reducible rfl
      try simp only [Go.Act.put, List.setIfInBounds_toArray, List.set_cons_zero, List.set_cons_succ]
      refine anyZ_ready (rs := [0, 9]) (by kernel_rfl) (by simp) ?_
      refine AllZ.step rfl (fun K hK => ?_) (AllZ.step rfl (fun K hK => ?_) AllZ.nil)
      · skip
        go_simp
        have HA0 := Lib.hid hHeld
        refine hK.out _ _ (hHeld.alloc _) (fun hHeld => ?_)
        clear hK K
        try change anyZ _ _ _ _ _ _ _ _ (Go.Act.put _ (some 55) _) _
        try simp only [Go.Act.put, List.setIfInBounds_toArray, List.set_cons_zero, List.set_cons_succ]
        refine anyZ_ready (rs := [7, 9]) (by kernel_rfl) (by simp) ?_
        refine AllZ.step rfl (fun K hK => ?_) (AllZ.step rfl (fun K hK => ?_) AllZ.nil)
        · skip
          have hnr := (NewRow.of HA0.out)
          refine stepOf_appendR Try.teQ rfl (.tmp 55) (.tmp 61) rfl _ 0 [] rfl hnr.row (.slice (some ⟨b, off, none⟩) X X) X (kpc (ks.take X)) rfl (HS1.out _ hHeld) (kpc_one _) (by unfold maxLen; omega) (by omega) ?_
          intro A8 c8 w8 hr8 hf8 hm8
          have N8 := Lib.hid (hnr.step hr8 hf8 hm8)
          clear hnr hr8 hf8 hm8
          simp only [Nat.zero_add, List.nil_append] at N8 ⊢
          refine hK.out _ _ (N8.out.fr) (fun hHeld => ?_)
          clear hK K
          try change anyZ _ _ _ _ _ _ _ _ (Go.Act.put _ (some 62) _) _
          try simp only [Go.Act.put, List.setIfInBounds_toArray, List.set_cons_zero, List.set_cons_succ]
          refine anyZ_ready (rs := [9]) (by kernel_rfl) (by simp) ?_
          refine AllZ.step rfl (fun K hK => ?_) AllZ.nil
          go_simp
          have HA9 := Lib.hid hHeld
          have kb9 := Fr.bkNew HA9.out 61 #[.int .i64 q.pk.fr, .int .i64 q.pk.to, .int .i64 (q.pk.n : Int), .slice q.A q.pk.bs.length q.c]
          have KB9 := Lib.hid kb9
          clear kb9
          refine hK.out _ _ (hHeld.alloc _) (fun hHeld => ?_)
          clear hK K
          try change anyZ _ _ _ _ _ _ _ _ (Go.Act.put _ (some 64) _) _
          try simp only [Go.Act.put, List.setIfInBounds_toArray, List.set_cons_zero, List.set_cons_succ]
          refine anyZ_ready (rs := [10]) (by kernel_rfl) (by simp) ?_
          refine AllZ.step rfl (fun K hK => ?_) AllZ.nil
          have N8' := N8.out.fr0 ((Fr.refl _ _).alloc (.cells #[.int .i64 q.pk.fr, .int .i64 q.pk.to, .int .i64 (q.pk.n : Int), .slice q.A q.pk.bs.length q.c] 61))
          refine stepOf_appendR Try.teQ rfl (.tmp 62) (.tmp 64) rfl _ X (kpc (ks.take X)) rfl N8'.row _ 1 q.cells rfl (slOne KB9.out) (q_one q) (by unfold maxLen; omega) (by omega) ?_
          intro A10 c10 w10 hr10 hf10 hm10
          have N10 := Lib.hid (N8'.step hr10 hf10 hm10)
          clear N8' hr10 hf10 hm10
          refine hK.out _ _ (N10.out.fr) (fun hHeld => ?_)
          clear hK K
          try change anyZ _ _ _ _ _ _ _ _ (Go.Act.put _ (some 65) _) _
          try simp only [Go.Act.put, List.setIfInBounds_toArray, List.set_cons_zero, List.set_cons_succ]
          refine anyZ_pure (i := 11) (v := ?_) (some 7) rfl rfl (by kernel_rfl) (by kernel_rfl) (by kernel_rfl) (by kernel_rfl) (fun _ _ _ h => h) (Or.inl ⟨by rfl, ?_⟩) (fun _ => hHeld) ?_
          rotate_left
          · intro w' _
            go_simp
            first | done | with_reducible rfl
          try simp only [Go.Act.put, List.setIfInBounds_toArray, List.set_cons_zero, List.set_cons_succ]
          refine anyZ_done (by kernel_rfl) ?_ _
          clear hHeld
          have e10 := HC.out w10 N10.out.fr
          go_wp2_with (at_builtin; (refine wpList_appendR Try.teQ rfl (.tmp 67) (.tmp 73) rfl _ (X + 1) (kpc (ks.take X) ++ q.cells) rfl N10.out.row _ 0 (kpc (ks.drop X)) rfl (HS2.out _) (kpc_one _) (by unfold maxLen; omega) (by omega) ?_; intro A11 c11 w11 hr11 hf11 hm11; have n11 := N10.out.step hr11 hf11 hm11; have N11 := Lib.hid n11; have k2 : w11.cell? ⟨g, 2, none⟩ = some (.slice (some ⟨b, off, none⟩) X X) := HC.out w11 n11.fr; have z2 : w11.frozen? ⟨g, 2, none⟩ = false := (H.out.blk.fr n11.fr (fun h => h)).frozen 2; clear hr11 hf11 hm11 n11))
          go_ret
          have hl : s.again i = { s with l := (ks.take X ++ q :: ks.drop X).map KP.pk } := by
            unfold NS.again
            rw [HX.out, HQ.out.1, H.out.l]
            simp [List.map_append, List.map_take, List.map_drop]
          rw [hl]
          have n11 := N11.out
          rw [← kpc_ins] at n11
          obtain ⟨m', q1, q2, q3⟩ := RefM.relist H.out (n := X + 1 + 0) (ks' := ks.take X ++ q :: ks.drop X) (fun x hx => mem_ins HQ.out.2 hx) (by have := HN.out; simp; omega) n11
          exact ⟨rfl, m', q1, FA.out.trans q2 (fun _ _ h => h) , fun x hx => (q3 x hx).imp id (fun h => Nat.le_trans FA.out.size h)⟩
        · skip
          go_simp
          have HA9 := Lib.hid hHeld
          have kb9 := Fr.bkNew HA9.out 61 #[.int .i64 q.pk.fr, .int .i64 q.pk.to, .int .i64 (q.pk.n : Int), .slice q.A q.pk.bs.length q.c]
          rw [allocSize] at kb9
          have KB9 := Lib.hid kb9
          clear kb9
          refine hK.out _ _ (hHeld.alloc _) (fun hHeld => ?_)
          clear hK K
          try change anyZ _ _ _ _ _ _ _ _ (Go.Act.put _ (some 64) _) _
          try simp only [Go.Act.put, List.setIfInBounds_toArray, List.set_cons_zero, List.set_cons_succ]
          refine anyZ_ready (rs := [7]) (by kernel_rfl) (by simp) ?_
          refine AllZ.step rfl (fun K hK => ?_) AllZ.nil
          have hnr := ((NewRow.of HA0.out).fr0 ((Fr.refl _ _).alloc (.cells #[.int .i64 q.pk.fr, .int .i64 q.pk.to, .int .i64 (q.pk.n : Int), .slice q.A q.pk.bs.length q.c] 61)))
          refine stepOf_appendR Try.teQ rfl (.tmp 55) (.tmp 61) rfl _ 0 [] rfl hnr.row (.slice (some ⟨b, off, none⟩) X X) X (kpc (ks.take X)) rfl (HS1.out _ hHeld) (kpc_one _) (by unfold maxLen; omega) (by omega) ?_
          intro A8 c8 w8 hr8 hf8 hm8
          have N8 := Lib.hid (hnr.step hr8 hf8 hm8)
          have KB8 := Lib.hid (KB9.out.fr hf8 (fun e => by have := own_fresh e; simp at this))
          clear hnr hr8 hf8 hm8
          simp only [Nat.zero_add, List.nil_append] at N8 ⊢
          refine hK.out _ _ (N8.out.fr) (fun hHeld => ?_)
          clear hK K
          try change anyZ _ _ _ _ _ _ _ _ (Go.Act.put _ (some 62) _) _
          try simp only [Go.Act.put, List.setIfInBounds_toArray, List.set_cons_zero, List.set_cons_succ]
          refine anyZ_ready (rs := [10]) (by kernel_rfl) (by simp) ?_
          refine AllZ.step rfl (fun K hK => ?_) AllZ.nil
          have N8' := N8.out
          refine stepOf_appendR Try.teQ rfl (.tmp 62) (.tmp 64) rfl _ X (kpc (ks.take X)) rfl N8'.row _ 1 q.cells rfl (slOne KB8.out) (q_one q) (by unfold maxLen; omega) (by omega) ?_
          intro A10 c10 w10 hr10 hf10 hm10
          have N10 := Lib.hid (N8'.step hr10 hf10 hm10)
          clear N8' hr10 hf10 hm10
          refine hK.out _ _ (N10.out.fr) (fun hHeld => ?_)
          clear hK K
          try change anyZ _ _ _ _ _ _ _ _ (Go.Act.put _ (some 65) _) _
          try simp only [Go.Act.put, List.setIfInBounds_toArray, List.set_cons_zero, List.set_cons_succ]
          refine anyZ_pure (i := 11) (v := ?_) (some 7) rfl rfl (by kernel_rfl) (by kernel_rfl) (by kernel_rfl) (by kernel_rfl) (fun _ _ _ h => h) (Or.inl ⟨by rfl, ?_⟩) (fun _ => hHeld) ?_
          rotate_left
          · intro w' _
            go_simp
            first | done | with_reducible rfl
          try simp only [Go.Act.put, List.setIfInBounds_toArray, List.set_cons_zero, List.set_cons_succ]
          refine anyZ_done (by kernel_rfl) ?_ _
          clear hHeld
          have e10 := HC.out w10 N10.out.fr
          go_wp2_with (at_builtin; (refine wpList_appendR Try.teQ rfl (.tmp 67) (.tmp 73) rfl _ (X + 1) (kpc (ks.take X) ++ q.cells) rfl N10.out.row _ 0 (kpc (ks.drop X)) rfl (HS2.out _) (kpc_one _) (by unfold maxLen; omega) (by omega) ?_; intro A11 c11 w11 hr11 hf11 hm11; have n11 := N10.out.step hr11 hf11 hm11; have N11 := Lib.hid n11; have k2 : w11.cell? ⟨g, 2, none⟩ = some (.slice (some ⟨b, off, none⟩) X X) := HC.out w11 n11.fr; have z2 : w11.frozen? ⟨g, 2, none⟩ = false := (H.out.blk.fr n11.fr (fun h => h)).frozen 2; clear hr11 hf11 hm11 n11))
          go_ret
          have hl : s.again i = { s with l := (ks.take X ++ q :: ks.drop X).map KP.pk } := by
            unfold NS.again
            rw [HX.out, HQ.out.1, H.out.l]
            simp [List.map_append, List.map_take, List.map_drop]
          rw [hl]
          have n11 := N11.out
          rw [← kpc_ins] at n11
          obtain ⟨m', q1, q2, q3⟩ := RefM.relist H.out (n := X + 1 + 0) (ks' := ks.take X ++ q :: ks.drop X) (fun x hx => mem_ins HQ.out.2 hx) (by have := HN.out; simp; omega) n11
          exact ⟨rfl, m', q1, FA.out.trans q2 (fun _ _ h => h) , fun x hx => (q3 x hx).imp id (fun h => Nat.le_trans FA.out.size h)⟩
      · skip
        go_simp
        have HA9 := Lib.hid hHeld
        have kb9 := Fr.bkNew HA9.out 61 #[.int .i64 q.pk.fr, .int .i64 q.pk.to, .int .i64 (q.pk.n : Int), .slice q.A q.pk.bs.length q.c]
        have KB9 := Lib.hid kb9
        clear kb9
        refine hK.out _ _ (hHeld.alloc _) (fun hHeld => ?_)
        clear hK K
        try change anyZ _ _ _ _ _ _ _ _ (Go.Act.put _ (some 64) _) _
        try simp only [Go.Act.put, List.setIfInBounds_toArray, List.set_cons_zero, List.set_cons_succ]
        refine anyZ_ready (rs := [0]) (by kernel_rfl) (by simp) ?_
        refine AllZ.step rfl (fun K hK => ?_) AllZ.nil
        go_simp
        have HA0 := Lib.hid hHeld
        refine hK.out _ _ (hHeld.alloc _) (fun hHeld => ?_)
        clear hK K
        try change anyZ _ _ _ _ _ _ _ _ (Go.Act.put _ (some 55) _) _
        try simp only [Go.Act.put, List.setIfInBounds_toArray, List.set_cons_zero, List.set_cons_succ]
        refine anyZ_ready (rs := [7]) (by kernel_rfl) (by simp) ?_
        refine AllZ.step rfl (fun K hK => ?_) AllZ.nil
        have hnr := (NewRow.of HA0.out)
        rw [allocSize] at hnr
        refine stepOf_appendR Try.teQ rfl (.tmp 55) (.tmp 61) rfl _ 0 [] rfl hnr.row (.slice (some ⟨b, off, none⟩) X X) X (kpc (ks.take X)) rfl (HS1.out _ hHeld) (kpc_one _) (by unfold maxLen; omega) (by omega) ?_
        intro A8 c8 w8 hr8 hf8 hm8
        have N8 := Lib.hid (hnr.step hr8 hf8 hm8)
        have KB8 := Lib.hid ((KB9.out.fr ((Fr.refl (fun _ => False) _).alloc _) (fun h => h)).fr hf8 (fun e => by have := own_fresh e; simp at this))
        clear hnr hr8 hf8 hm8
        simp only [Nat.zero_add, List.nil_append] at N8 ⊢
        refine hK.out _ _ (N8.out.fr) (fun hHeld => ?_)
        clear hK K
        try change anyZ _ _ _ _ _ _ _ _ (Go.Act.put _ (some 62) _) _
        try simp only [Go.Act.put, List.setIfInBounds_toArray, List.set_cons_zero, List.set_cons_succ]
        refine anyZ_ready (rs := [10]) (by kernel_rfl) (by simp) ?_
        refine AllZ.step rfl (fun K hK => ?_) AllZ.nil
        have N8' := N8.out
        refine stepOf_appendR Try.teQ rfl (.tmp 62) (.tmp 64) rfl _ X (kpc (ks.take X)) rfl N8'.row _ 1 q.cells rfl (slOne KB8.out) (q_one q) (by unfold maxLen; omega) (by omega) ?_
        intro A10 c10 w10 hr10 hf10 hm10
        have N10 := Lib.hid (N8'.step hr10 hf10 hm10)
        clear N8' hr10 hf10 hm10
        refine hK.out _ _ (N10.out.fr) (fun hHeld => ?_)
        clear hK K
        try change anyZ _ _ _ _ _ _ _ _ (Go.Act.put _ (some 65) _) _
        try simp only [Go.Act.put, List.setIfInBounds_toArray, List.set_cons_zero, List.set_cons_succ]
        refine anyZ_pure (i := 11) (v := ?_) (some 7) rfl rfl (by kernel_rfl) (by kernel_rfl) (by kernel_rfl) (by kernel_rfl) (fun _ _ _ h => h) (Or.inl ⟨by rfl, ?_⟩) (fun _ => hHeld) ?_
        rotate_left
        · intro w' _
          go_simp
          first | done | with_reducible rfl
        try simp only [Go.Act.put, List.setIfInBounds_toArray, List.set_cons_zero, List.set_cons_succ]
        refine anyZ_done (by kernel_rfl) ?_ _
        clear hHeld
        have e10 := HC.out w10 N10.out.fr
        go_wp2_with (at_builtin; (refine wpList_appendR Try.teQ rfl (.tmp 67) (.tmp 73) rfl _ (X + 1) (kpc (ks.take X) ++ q.cells) rfl N10.out.row _ 0 (kpc (ks.drop X)) rfl (HS2.out _) (kpc_one _) (by unfold maxLen; omega) (by omega) ?_; intro A11 c11 w11 hr11 hf11 hm11; have n11 := N10.out.step hr11 hf11 hm11; have N11 := Lib.hid n11; have k2 : w11.cell? ⟨g, 2, none⟩ = some (.slice (some ⟨b, off, none⟩) X X) := HC.out w11 n11.fr; have z2 : w11.frozen? ⟨g, 2, none⟩ = false := (H.out.blk.fr n11.fr (fun h => h)).frozen 2; clear hr11 hf11 hm11 n11))
        go_ret
        have hl : s.again i = { s with l := (ks.take X ++ q :: ks.drop X).map KP.pk } := by
          unfold NS.again
          rw [HX.out, HQ.out.1, H.out.l]
          simp [List.map_append, List.map_take, List.map_drop]
        rw [hl]
        have n11 := N11.out
        rw [← kpc_ins] at n11
        obtain ⟨m', q1, q2, q3⟩ := RefM.relist H.out (n := X + 1 + 0) (ks' := ks.take X ++ q :: ks.drop X) (fun x hx => mem_ins HQ.out.2 hx) (by have := HN.out; simp; omega) n11
        exact ⟨rfl, m', q1, FA.out.trans q2 (fun _ _ h => h) , fun x hx => (q3 x hx).imp id (fun h => Nat.le_trans FA.out.size h)⟩

set_option maxRecDepth 100000 in
set_option maxHeartbeats 8000000 in
theorem ragain_mid (g i : Nat) (s : NS) (b off c : Nat) (CV : Value) (ks : List KP) (w : World) (h : RefM w g s ⟨.slice (some ⟨b, off, none⟩) ks.length c, CV, ks⟩) (hi : i < ks.length) (hq : ks.length < 4096) (hck : ¬ (c = s.past i)) :
    Calls Try.prog 24 #[.pointer (some ⟨g, 0, none⟩), .int .i64 (i : Int)] w fun e w' => e = .returned (.int .i64 0) ∧ ∃ m', RefM w' g (s.again i) m' ∧ Fr (fun x => x = g) w w' ∧ ∀ x, RB g m' x → RB g ⟨.slice (some ⟨b, off, none⟩) ks.length c, CV, ks⟩ x ∨ w.heap.size ≤ x := by
  obtain ⟨A0, c0, hLV, hlc, hcm, _⟩ := h.row.form
  simp only at hLV hlc
  injection hLV with e1 _ e3
  subst e1 e3
  have hll := h.ll
  simp only at hll
  have hb := World.block_lt_of_cell? w _ (h.at4 hi).1
  simp only at hb
  obtain ⟨e0, e1, e2, e3⟩ := h.at4 hi
  have c2 : w.cell? ⟨g, 2, none⟩ = some (.slice (some ⟨b, off, none⟩) ks.length c) := h.cells rfl
  have hgl := h.blk.lt
  have hpk := h.pk (i := i) hi
  simp only at hpk
  have hqm := getD_mem hi
  generalize ks.getD i default = q at *
  unfold KP.sl at e3
  have fa : Fr (fun _ => False) w (w.alloc (.cells #[.int .i64 q.pk.fr, .int .i64 q.pk.to, .int .i64 (q.pk.n : Int), .slice q.A q.pk.bs.length q.c] 61)) := (Fr.refl _ _).alloc _
  have ka := Bk.new w 61 #[.int .i64 q.pk.fr, .int .i64 q.pk.to, .int .i64 (q.pk.n : Int), .slice q.A q.pk.bs.length q.c]
  have h1 := h.fr0 fa
  have hXn := s.past_le i (by omega)
  obtain ⟨X, hX⟩ : ∃ X, s.past i = X := ⟨_, rfl⟩
  rw [hX] at hck hXn
  obtain ⟨n, hn⟩ : ∃ n, ks.length = n := ⟨_, rfl⟩
  have HC := Lib.hid (fun w' (hf : Fr (fun _ => False) (w.alloc (.cells #[.int .i64 q.pk.fr, .int .i64 q.pk.to, .int .i64 (q.pk.n : Int), .slice q.A q.pk.bs.length q.c] 61)) w') => show w'.cell? ⟨g, 2, none⟩ = some (.slice (some ⟨b, off, none⟩) n c) from by rw [← hn]; exact (h1.fr0 hf).cells rfl)
  have HE := Lib.hid (fun w' (hf : Fr (fun _ => False) (w.alloc (.cells #[.int .i64 q.pk.fr, .int .i64 q.pk.to, .int .i64 (q.pk.n : Int), .slice q.A q.pk.bs.length q.c] 61)) w') (k : Nat) (hk : k < n) => show w'.cell? ⟨b, off + k * 4 + 2, none⟩ = some (.int .i64 ((s.l.getD k default).n : Int)) from by
    have hk' : k < ks.length := by rw [hn]; exact hk
    have h2 := ((h1.fr0 hf).at4 hk').2.2.1
    rw [h2, ← h1.pk hk'])
  have HKB := Lib.hid (fun w' (hf : Fr (fun _ => False) (w.alloc (.cells #[.int .i64 q.pk.fr, .int .i64 q.pk.to, .int .i64 (q.pk.n : Int), .slice q.A q.pk.bs.length q.c] 61)) w') => show Bk w' w.heap.size 61 #[.int .i64 q.pk.fr, .int .i64 q.pk.to, .int .i64 (q.pk.n : Int), .slice q.A q.pk.bs.length q.c] from ka.fr hf (fun h => h))
  have HS1 := Lib.hid (fun W (hf : Fr (fun _ => False) (w.alloc (.cells #[.int .i64 q.pk.fr, .int .i64 q.pk.to, .int .i64 (q.pk.n : Int), .slice q.A q.pk.bs.length q.c] 61)) W) (k : Nat) (hk : k ≤ n) => slTake (ks := ks) (h1.row.fr0 hf) (k := k) (by omega))
  have HS2 := Lib.hid (fun W (hf : Fr (fun _ => False) (w.alloc (.cells #[.int .i64 q.pk.fr, .int .i64 q.pk.to, .int .i64 (q.pk.n : Int), .slice q.A q.pk.bs.length q.c] 61)) W) (k : Nat) (hk : k ≤ n) => slDrop (ks := ks) (h1.row.fr0 hf) (k := k) (c' := c - k) (by omega))
  have H := Lib.hid h1
  have HN := Lib.hid hn
  have HX := Lib.hid hX
  have HQ := Lib.hid (And.intro hpk hqm)
  have FA := Lib.hid (fa.mono (T := fun x => x = g) (fun _ _ h => h.elim))
  unfold maxLen at hcm
  have hcm' : (c : Int) ≤ 9223372036854775807 := by omega
  rw [hn] at c2 hlc hi hq hll
  rw [hn] at HS2
  have hi0 : (0 : Int) ≤ (i : Int) := by omega
  have hlt : (i : Int) < (n : Int) := by omega
  have hn2 : (n : Int) < 4096 := by omega
  have HXr := Lib.hid (show X = runOf s.l q.pk.n s.l.length i from by
    rw [runOf_fuel s.l.length (s.l.length + 1) i (by omega) (by omega), runOf_yes (by omega) (by rw [hpk]), ← hX, ← hpk]; rfl)
  have HLL := Lib.hid hll
  clear h h1 fa ka hX hn hpk hqm hll
  go_enter Try.func24, Try.ntmps24
  go_wp2_with fail
  generalize w.alloc (.cells #[.int .i64 q.pk.fr, .int .i64 q.pk.to, .int .i64 (q.pk.n : Int), .slice q.A q.pk.bs.length q.c] 61) = W1 at *
  obtain ⟨pb, hpb⟩ : ∃ pb, w.heap.size = pb := ⟨_, rfl⟩
  rw [hpb] at HKB ⊢
  clear e0 e1 e2 e3 c2
  go_loopw [6] (fun u wr => ∃ k : Nat, u = .int .i64 (k : Int) ∧ k ≤ n ∧ X = runOf s.l q.pk.n s.l.length k ∧ Fr (fun _ => False) W1 wr) (fun u _ => n - (intOf u).toNat)
  case atStart => exact ⟨i, rfl, by omega, HXr.out, Fr.refl _ _⟩
  case round =>
    obtain ⟨k, rfl, hk, hX, hf⟩ := hrel
    have HX' := Lib.hid hX
    have HF := Lib.hid hf
    have c3 := HC.out wr hf
    have hk0 : (0 : Int) ≤ (k : Int) := by omega
    have e1 : wr.cell? ⟨pb, 2, none⟩ = some (.int .i64 (q.pk.n : Int)) := (HKB.out wr hf).cell 2
    clear hX hf
    by_cases hlt2 : k < n
    · have hlt' : (k : Int) < n := by omega
      have e2 := HE.out wr HF.out k hlt2
      by_cases hq2 : (s.l.getD k default).n = q.pk.n
      · have d : ((((s.l.getD k default).n : Nat) : Int) == ((q.pk.n : Nat) : Int)) = true := by rw [beq_iff_eq]; omega
        have HXX := Lib.hid (HX'.out.trans (show runOf s.l q.pk.n s.l.length k = runOf s.l q.pk.n s.l.length (k + 1) by
          rw [runOf_fuel s.l.length (s.l.length + 1) k (by omega) (by omega), runOf_yes (by have := HLL.out; omega) hq2]))
        clear hq2
        generalize (((s.l.getD k default).n : Nat) : Int) = x at *
        go_wp2_with fail
        go_quiet (fail)
        go_wp2
        refine ⟨⟨k + 1, by simp, by omega, HXX.out, HF.out.drewN _⟩, ?_⟩
        first | omega | (show _ < _; simp [intOf]; omega)
      · have d : ((((s.l.getD k default).n : Nat) : Int) == ((q.pk.n : Nat) : Int)) = false := by rw [beq_eq_false_iff_ne]; omega
        have hkX := HX'.out.trans (runOf_no (l := s.l) (n := q.pk.n) (f := s.l.length) (k := k) (fun h => hq2 h.2))
        clear hq2
        subst hkX
        have HKP := Lib.hid (fun w' (hf : Fr (fun _ => False) W1 w') => have hb' := HKB.out w' hf; show w'.cell? ⟨pb, 0, none⟩ = some (.int .i64 q.pk.fr) ∧ w'.cell? ⟨pb, 1, none⟩ = some (.int .i64 q.pk.to) ∧ w'.cell? ⟨pb, 2, none⟩ = some (.int .i64 (q.pk.n : Int)) ∧ w'.cell? ⟨pb, 3, none⟩ = some (.slice q.A q.pk.bs.length q.c) from ⟨hb'.cell 0, hb'.cell 1, hb'.cell 2, hb'.cell 3⟩)
        replace HS1 := Lib.hid (fun W hf => HS1.out W hf X hk)
        replace HS2 := Lib.hid (fun W hf => HS2.out W hf X hk)
        have hkc : (X : Int) ≤ (c : Int) := by omega
        have hkn : (X : Int) ≤ (n : Int) := by omega
        generalize (((s.l.getD X default).n : Nat) : Int) = x at *
        go_wp2_with fail
        go_quiet (fail)
        go_wp2_with fail
        refine wp_region_Z [] (fun w' => Fr (fun _ => False) W1 w') (by kernel_rfl) ((HF.out.drewN _).drew) (fun hHeld => ?_)
        refine anyZ_pure (i := 1) (v := ?_) (some 56) rfl rfl (by kernel_rfl) (by kernel_rfl) (by kernel_rfl) (by kernel_rfl) (fun _ _ _ h => h) (Or.inl ⟨by rfl, ?_⟩) (fun _ => hHeld) ?_
        rotate_left
        · intro w' _
          go_simp
          first | done | with_reducible rfl
        try simp only [Go.Act.put, List.setIfInBounds_toArray, List.set_cons_zero, List.set_cons_succ]
        refine anyZ_pure (i := 2) (v := ?_) (some 57) rfl rfl (by kernel_rfl) (by kernel_rfl) (by kernel_rfl) (by kernel_rfl) (fun _ _ _ h => h) (Or.inl ⟨by rfl, ?_⟩) (fun _ => hHeld) ?_
        rotate_left
        · intro w' _
          go_simp
          first | done | with_reducible rfl
        try simp only [Go.Act.put, List.setIfInBounds_toArray, List.set_cons_zero, List.set_cons_succ]
        refine anyZ_pure (i := 3) (v := ?_) (some 58) rfl rfl (by kernel_rfl) (by kernel_rfl) (by kernel_rfl) (by kernel_rfl) (fun _ _ _ h => h) (Or.inl ⟨by rfl, ?_⟩) (fun _ => hHeld) ?_
        rotate_left
        · intro w' _
          go_simp
          first | done | with_reducible rfl
        try simp only [Go.Act.put, List.setIfInBounds_toArray, List.set_cons_zero, List.set_cons_succ]
        refine anyZ_read (i := 4) (v := ?_) (some 59) [6, 7, 10, 11] rfl rfl (by kernel_rfl) (by kernel_rfl) (by kernel_rfl) (by kernel_rfl) (by kernel_rfl) (by kernel_rfl) (fun _ _ _ h => h) (Or.inl ⟨by rfl, ?_⟩) hHeld ?_
        rotate_left
        · intro w' hSw
          have q1 := HC.out w' hSw
          go_simp
          first | done | with_reducible rfl
        try simp only [Go.Act.put, List.setIfInBounds_toArray, List.set_cons_zero, List.set_cons_succ]
        refine anyZ_pure (i := 5) (v := ?_) (some 60) rfl rfl (by kernel_rfl) (by kernel_rfl) (by kernel_rfl) (by kernel_rfl) (fun _ _ _ h => h) (Or.inl ⟨by rfl, ?_⟩) (fun _ => hHeld) ?_
        rotate_left
        · intro w' _
          go_simp
          first | done | with_reducible rfl
        try simp only [Go.Act.put, List.setIfInBounds_toArray, List.set_cons_zero, List.set_cons_succ]
        refine anyZ_pure (i := 6) (v := ?_) (some 61) rfl rfl (by kernel_rfl) (by kernel_rfl) (by kernel_rfl) (by kernel_rfl) (fun _ _ _ h => h) (Or.inl ⟨by rfl, ?_⟩) (fun _ => hHeld) ?_
        rotate_left
        · intro w' _
          go_simp
          first | done | with_reducible rfl
        try simp only [Go.Act.put, List.setIfInBounds_toArray, List.set_cons_zero, List.set_cons_succ]
        refine anyZ_read (i := 8) (v := ?_) (some 63) [9, 10, 11] rfl rfl (by kernel_rfl) (by kernel_rfl) (by kernel_rfl) (by kernel_rfl) (by kernel_rfl) (by kernel_rfl) (fun _ _ _ h => h) (Or.inl ⟨by rfl, ?_⟩) hHeld ?_
        rotate_left
        · intro w' hSw
          obtain ⟨q1, q2, q3, q4⟩ := HKP.out w' hSw
          go_simp
          first | done | with_reducible rfl
        try simp only [Go.Act.put, List.setIfInBounds_toArray, List.set_cons_zero, List.set_cons_succ]
        refine anyZ_ready (rs := [0, 9]) (by kernel_rfl) (by simp) ?_
        refine AllZ.step rfl (fun K hK => ?_) (AllZ.step rfl (fun K hK => ?_) AllZ.nil)
        · skip
          go_simp
          have HA0 := Lib.hid hHeld
          refine hK.out _ _ (hHeld.alloc _) (fun hHeld => ?_)
          clear hK K
          try change anyZ _ _ _ _ _ _ _ _ (Go.Act.put _ (some 55) _) _
          try simp only [Go.Act.put, List.setIfInBounds_toArray, List.set_cons_zero, List.set_cons_succ]
          refine anyZ_ready (rs := [7, 9]) (by kernel_rfl) (by simp) ?_
          refine AllZ.step rfl (fun K hK => ?_) (AllZ.step rfl (fun K hK => ?_) AllZ.nil)
          · skip
            have hnr := (NewRow.of HA0.out)
            refine stepOf_appendR Try.teQ rfl (.tmp 55) (.tmp 61) rfl _ 0 [] rfl hnr.row (.slice (some ⟨b, off, none⟩) X c) X (kpc (ks.take X)) rfl (HS1.out _ hHeld) (kpc_one _) (by unfold maxLen; omega) (by omega) ?_
            intro A8 c8 w8 hr8 hf8 hm8
            have N8 := Lib.hid (hnr.step hr8 hf8 hm8)
            clear hnr hr8 hf8 hm8
            simp only [Nat.zero_add, List.nil_append] at N8 ⊢
            refine hK.out _ _ (N8.out.fr) (fun hHeld => ?_)
            clear hK K
            try change anyZ _ _ _ _ _ _ _ _ (Go.Act.put _ (some 62) _) _
            try simp only [Go.Act.put, List.setIfInBounds_toArray, List.set_cons_zero, List.set_cons_succ]
            refine anyZ_ready (rs := [9]) (by kernel_rfl) (by simp) ?_
            refine AllZ.step rfl (fun K hK => ?_) AllZ.nil
            go_simp
            have HA9 := Lib.hid hHeld
            have kb9 := Fr.bkNew HA9.out 61 #[.int .i64 q.pk.fr, .int .i64 q.pk.to, .int .i64 (q.pk.n : Int), .slice q.A q.pk.bs.length q.c]
            have KB9 := Lib.hid kb9
            clear kb9
            refine hK.out _ _ (hHeld.alloc _) (fun hHeld => ?_)
            clear hK K
            try change anyZ _ _ _ _ _ _ _ _ (Go.Act.put _ (some 64) _) _
            try simp only [Go.Act.put, List.setIfInBounds_toArray, List.set_cons_zero, List.set_cons_succ]
            refine anyZ_ready (rs := [10]) (by kernel_rfl) (by simp) ?_
            refine AllZ.step rfl (fun K hK => ?_) AllZ.nil
            have N8' := N8.out.fr0 ((Fr.refl _ _).alloc (.cells #[.int .i64 q.pk.fr, .int .i64 q.pk.to, .int .i64 (q.pk.n : Int), .slice q.A q.pk.bs.length q.c] 61))
            refine stepOf_appendR Try.teQ rfl (.tmp 62) (.tmp 64) rfl _ X (kpc (ks.take X)) rfl N8'.row _ 1 q.cells rfl (slOne KB9.out) (q_one q) (by unfold maxLen; omega) (by omega) ?_
            intro A10 c10 w10 hr10 hf10 hm10
            have N10 := Lib.hid (N8'.step hr10 hf10 hm10)
            clear N8' hr10 hf10 hm10
            refine hK.out _ _ (N10.out.fr) (fun hHeld => ?_)
            clear hK K
            try change anyZ _ _ _ _ _ _ _ _ (Go.Act.put _ (some 65) _) _
            try simp only [Go.Act.put, List.setIfInBounds_toArray, List.set_cons_zero, List.set_cons_succ]
            refine anyZ_pure (i := 11) (v := ?_) (some 7) rfl rfl (by kernel_rfl) (by kernel_rfl) (by kernel_rfl) (by kernel_rfl) (fun _ _ _ h => h) (Or.inl ⟨by rfl, ?_⟩) (fun _ => hHeld) ?_
            rotate_left
            · intro w' _
              go_simp
              first | done | with_reducible rfl
            try simp only [Go.Act.put, List.setIfInBounds_toArray, List.set_cons_zero, List.set_cons_succ]
            refine anyZ_done (by kernel_rfl) ?_ _
            clear hHeld
            have e10 := HC.out w10 N10.out.fr
            go_wp2_with (at_builtin; (refine wpList_appendR Try.teQ rfl (.tmp 67) (.tmp 73) rfl _ (X + 1) (kpc (ks.take X) ++ q.cells) rfl N10.out.row _ (n - X) (kpc (ks.drop X)) rfl (HS2.out _ N10.out.fr) (kpc_one _) (by unfold maxLen; omega) (by omega) ?_; intro A11 c11 w11 hr11 hf11 hm11; have n11 := N10.out.step hr11 hf11 hm11; have N11 := Lib.hid n11; have k2 : w11.cell? ⟨g, 2, none⟩ = some (.slice (some ⟨b, off, none⟩) n c) := HC.out w11 n11.fr; have z2 : w11.frozen? ⟨g, 2, none⟩ = false := (H.out.blk.fr n11.fr (fun h => h)).frozen 2; clear hr11 hf11 hm11 n11))
            go_ret
            have hl : s.again i = { s with l := (ks.take X ++ q :: ks.drop X).map KP.pk } := by
              unfold NS.again
              rw [HX.out, HQ.out.1, H.out.l]
              simp [List.map_append, List.map_take, List.map_drop]
            rw [hl]
            have n11 := N11.out
            rw [← kpc_ins] at n11
            obtain ⟨m', q1, q2, q3⟩ := RefM.relist H.out (n := X + 1 + (n - X)) (ks' := ks.take X ++ q :: ks.drop X) (fun x hx => mem_ins HQ.out.2 hx) (by have := HN.out; simp; omega) n11
            exact ⟨rfl, m', q1, FA.out.trans q2 (fun _ _ h => h) , fun x hx => (q3 x hx).imp id (fun h => Nat.le_trans FA.out.size h)⟩
          · skip
            go_simp
            have HA9 := Lib.hid hHeld
            have kb9 := Fr.bkNew HA9.out 61 #[.int .i64 q.pk.fr, .int .i64 q.pk.to, .int .i64 (q.pk.n : Int), .slice q.A q.pk.bs.length q.c]
            rw [allocSize] at kb9
            have KB9 := Lib.hid kb9
            clear kb9
            refine hK.out _ _ (hHeld.alloc _) (fun hHeld => ?_)
            clear hK K
            try change anyZ _ _ _ _ _ _ _ _ (Go.Act.put _ (some 64) _) _
            try simp only [Go.Act.put, List.setIfInBounds_toArray, List.set_cons_zero, List.set_cons_succ]
            refine anyZ_ready (rs := [7]) (by kernel_rfl) (by simp) ?_
            refine AllZ.step rfl (fun K hK => ?_) AllZ.nil
            have hnr := ((NewRow.of HA0.out).fr0 ((Fr.refl _ _).alloc (.cells #[.int .i64 q.pk.fr, .int .i64 q.pk.to, .int .i64 (q.pk.n : Int), .slice q.A q.pk.bs.length q.c] 61)))
            refine stepOf_appendR Try.teQ rfl (.tmp 55) (.tmp 61) rfl _ 0 [] rfl hnr.row (.slice (some ⟨b, off, none⟩) X c) X (kpc (ks.take X)) rfl (HS1.out _ hHeld) (kpc_one _) (by unfold maxLen; omega) (by omega) ?_
            intro A8 c8 w8 hr8 hf8 hm8
            have N8 := Lib.hid (hnr.step hr8 hf8 hm8)
            have KB8 := Lib.hid (KB9.out.fr hf8 (fun e => by have := own_fresh e; simp at this))
            clear hnr hr8 hf8 hm8
            simp only [Nat.zero_add, List.nil_append] at N8 ⊢
            refine hK.out _ _ (N8.out.fr) (fun hHeld => ?_)
            clear hK K
            try change anyZ _ _ _ _ _ _ _ _ (Go.Act.put _ (some 62) _) _
            try simp only [Go.Act.put, List.setIfInBounds_toArray, List.set_cons_zero, List.set_cons_succ]
            refine anyZ_ready (rs := [10]) (by kernel_rfl) (by simp) ?_
            refine AllZ.step rfl (fun K hK => ?_) AllZ.nil
            have N8' := N8.out
            refine stepOf_appendR Try.teQ rfl (.tmp 62) (.tmp 64) rfl _ X (kpc (ks.take X)) rfl N8'.row _ 1 q.cells rfl (slOne KB8.out) (q_one q) (by unfold maxLen; omega) (by omega) ?_
            intro A10 c10 w10 hr10 hf10 hm10
            have N10 := Lib.hid (N8'.step hr10 hf10 hm10)
            clear N8' hr10 hf10 hm10
            refine hK.out _ _ (N10.out.fr) (fun hHeld => ?_)
            clear hK K
            try change anyZ _ _ _ _ _ _ _ _ (Go.Act.put _ (some 65) _) _
            try simp only [Go.Act.put, List.setIfInBounds_toArray, List.set_cons_zero, List.set_cons_succ]
            refine anyZ_pure (i := 11) (v := ?_) (some 7) rfl rfl (by kernel_rfl) (by kernel_rfl) (by kernel_rfl) (by kernel_rfl) (fun _ _ _ h => h) (Or.inl ⟨by rfl, ?_⟩) (fun _ => hHeld) ?_
            rotate_left
            · intro w' _
              go_simp
              first | done | with_reducible rfl
            try simp only [Go.Act.put, List.setIfInBounds_toArray, List.set_cons_zero, List.set_cons_succ]
            refine anyZ_done (by kernel_rfl) ?_ _
            clear hHeld
            have e10 := HC.out w10 N10.out.fr
            go_wp2_with (at_builtin; (refine wpList_appendR Try.teQ rfl (.tmp 67) (.tmp 73) rfl _ (X + 1) (kpc (ks.take X) ++ q.cells) rfl N10.out.row _ (n - X) (kpc (ks.drop X)) rfl (HS2.out _ N10.out.fr) (kpc_one _) (by unfold maxLen; omega) (by omega) ?_; intro A11 c11 w11 hr11 hf11 hm11; have n11 := N10.out.step hr11 hf11 hm11; have N11 := Lib.hid n11; have k2 : w11.cell? ⟨g, 2, none⟩ = some (.slice (some ⟨b, off, none⟩) n c) := HC.out w11 n11.fr; have z2 : w11.frozen? ⟨g, 2, none⟩ = false := (H.out.blk.fr n11.fr (fun h => h)).frozen 2; clear hr11 hf11 hm11 n11))
            go_ret
            have hl : s.again i = { s with l := (ks.take X ++ q :: ks.drop X).map KP.pk } := by
              unfold NS.again
              rw [HX.out, HQ.out.1, H.out.l]
              simp [List.map_append, List.map_take, List.map_drop]
            rw [hl]
            have n11 := N11.out
            rw [← kpc_ins] at n11
            obtain ⟨m', q1, q2, q3⟩ := RefM.relist H.out (n := X + 1 + (n - X)) (ks' := ks.take X ++ q :: ks.drop X) (fun x hx => mem_ins HQ.out.2 hx) (by have := HN.out; simp; omega) n11
            exact ⟨rfl, m', q1, FA.out.trans q2 (fun _ _ h => h) , fun x hx => (q3 x hx).imp id (fun h => Nat.le_trans FA.out.size h)⟩
        · skip
          go_simp
          have HA9 := Lib.hid hHeld
          have kb9 := Fr.bkNew HA9.out 61 #[.int .i64 q.pk.fr, .int .i64 q.pk.to, .int .i64 (q.pk.n : Int), .slice q.A q.pk.bs.length q.c]
          have KB9 := Lib.hid kb9
          clear kb9
          refine hK.out _ _ (hHeld.alloc _) (fun hHeld => ?_)
          clear hK K
          try change anyZ _ _ _ _ _ _ _ _ (Go.Act.put _ (some 64) _) _
          try simp only [Go.Act.put, List.setIfInBounds_toArray, List.set_cons_zero, List.set_cons_succ]
          refine anyZ_ready (rs := [0]) (by kernel_rfl) (by simp) ?_
          refine AllZ.step rfl (fun K hK => ?_) AllZ.nil
          go_simp
          have HA0 := Lib.hid hHeld
          refine hK.out _ _ (hHeld.alloc _) (fun hHeld => ?_)
          clear hK K
          try change anyZ _ _ _ _ _ _ _ _ (Go.Act.put _ (some 55) _) _
          try simp only [Go.Act.put, List.setIfInBounds_toArray, List.set_cons_zero, List.set_cons_succ]
          refine anyZ_ready (rs := [7]) (by kernel_rfl) (by simp) ?_
          refine AllZ.step rfl (fun K hK => ?_) AllZ.nil
          have hnr := (NewRow.of HA0.out)
          rw [allocSize] at hnr
          refine stepOf_appendR Try.teQ rfl (.tmp 55) (.tmp 61) rfl _ 0 [] rfl hnr.row (.slice (some ⟨b, off, none⟩) X c) X (kpc (ks.take X)) rfl (HS1.out _ hHeld) (kpc_one _) (by unfold maxLen; omega) (by omega) ?_
          intro A8 c8 w8 hr8 hf8 hm8
          have N8 := Lib.hid (hnr.step hr8 hf8 hm8)
          have KB8 := Lib.hid ((KB9.out.fr ((Fr.refl (fun _ => False) _).alloc _) (fun h => h)).fr hf8 (fun e => by have := own_fresh e; simp at this))
          clear hnr hr8 hf8 hm8
          simp only [Nat.zero_add, List.nil_append] at N8 ⊢
          refine hK.out _ _ (N8.out.fr) (fun hHeld => ?_)
          clear hK K
          try change anyZ _ _ _ _ _ _ _ _ (Go.Act.put _ (some 62) _) _
          try simp only [Go.Act.put, List.setIfInBounds_toArray, List.set_cons_zero, List.set_cons_succ]
          refine anyZ_ready (rs := [10]) (by kernel_rfl) (by simp) ?_
          refine AllZ.step rfl (fun K hK => ?_) AllZ.nil
          have N8' := N8.out
          refine stepOf_appendR Try.teQ rfl (.tmp 62) (.tmp 64) rfl _ X (kpc (ks.take X)) rfl N8'.row _ 1 q.cells rfl (slOne KB8.out) (q_one q) (by unfold maxLen; omega) (by omega) ?_
          intro A10 c10 w10 hr10 hf10 hm10
          have N10 := Lib.hid (N8'.step hr10 hf10 hm10)
          clear N8' hr10 hf10 hm10
          refine hK.out _ _ (N10.out.fr) (fun hHeld => ?_)
          clear hK K
          try change anyZ _ _ _ _ _ _ _ _ (Go.Act.put _ (some 65) _) _
          try simp only [Go.Act.put, List.setIfInBounds_toArray, List.set_cons_zero, List.set_cons_succ]
          refine anyZ_pure (i := 11) (v := ?_) (some 7) rfl rfl (by kernel_rfl) (by kernel_rfl) (by kernel_rfl) (by kernel_rfl) (fun _ _ _ h => h) (Or.inl ⟨by rfl, ?_⟩) (fun _ => hHeld) ?_
          rotate_left
          · intro w' _
            go_simp
            first | done | with_reducible rfl
          try simp only [Go.Act.put, List.setIfInBounds_toArray, List.set_cons_zero, List.set_cons_succ]
          refine anyZ_done (by kernel_rfl) ?_ _
          clear hHeld
          have e10 := HC.out w10 N10.out.fr
          go_wp2_with (at_builtin; (refine wpList_appendR Try.teQ rfl (.tmp 67) (.tmp 73) rfl _ (X + 1) (kpc (ks.take X) ++ q.cells) rfl N10.out.row _ (n - X) (kpc (ks.drop X)) rfl (HS2.out _ N10.out.fr) (kpc_one _) (by unfold maxLen; omega) (by omega) ?_; intro A11 c11 w11 hr11 hf11 hm11; have n11 := N10.out.step hr11 hf11 hm11; have N11 := Lib.hid n11; have k2 : w11.cell? ⟨g, 2, none⟩ = some (.slice (some ⟨b, off, none⟩) n c) := HC.out w11 n11.fr; have z2 : w11.frozen? ⟨g, 2, none⟩ = false := (H.out.blk.fr n11.fr (fun h => h)).frozen 2; clear hr11 hf11 hm11 n11))
          go_ret
          have hl : s.again i = { s with l := (ks.take X ++ q :: ks.drop X).map KP.pk } := by
            unfold NS.again
            rw [HX.out, HQ.out.1, H.out.l]
            simp [List.map_append, List.map_take, List.map_drop]
          rw [hl]
          have n11 := N11.out
          rw [← kpc_ins] at n11
          obtain ⟨m', q1, q2, q3⟩ := RefM.relist H.out (n := X + 1 + (n - X)) (ks' := ks.take X ++ q :: ks.drop X) (fun x hx => mem_ins HQ.out.2 hx) (by have := HN.out; simp; omega) n11
          exact ⟨rfl, m', q1, FA.out.trans q2 (fun _ _ h => h) , fun x hx => (q3 x hx).imp id (fun h => Nat.le_trans FA.out.size h)⟩
    · have hkX := HX'.out.trans (runOf_no (l := s.l) (n := q.pk.n) (f := s.l.length) (k := k) (fun h => by have h2 := HLL.out; omega))
      have hkn2 : k = n := by omega
      subst hkX
      have HKP := Lib.hid (fun w' (hf : Fr (fun _ => False) W1 w') => have hb' := HKB.out w' hf; show w'.cell? ⟨pb, 0, none⟩ = some (.int .i64 q.pk.fr) ∧ w'.cell? ⟨pb, 1, none⟩ = some (.int .i64 q.pk.to) ∧ w'.cell? ⟨pb, 2, none⟩ = some (.int .i64 (q.pk.n : Int)) ∧ w'.cell? ⟨pb, 3, none⟩ = some (.slice q.A q.pk.bs.length q.c) from ⟨hb'.cell 0, hb'.cell 1, hb'.cell 2, hb'.cell 3⟩)
      replace HS1 := Lib.hid (fun W hf => HS1.out W hf X hk)
      replace HS2 := Lib.hid (fun W hf => HS2.out W hf X hk)
      have hkc : (X : Int) ≤ (c : Int) := by omega
      have hkn : (X : Int) ≤ (n : Int) := by omega
      have d9 : ¬ ((X : Int) < (n : Int)) := by omega
      clear hkn2
      go_wp2_with fail
      go_quiet (fail)
      go_wp2_with fail
      refine wp_region_Z [] (fun w' => Fr (fun _ => False) W1 w') (by kernel_rfl) ((HF.out.drewN _).drew) (fun hHeld => ?_)
      refine anyZ_pure (i := 1) (v := ?_) (some 56) rfl rfl (by kernel_rfl) (by kernel_rfl) (by kernel_rfl) (by kernel_rfl) (fun _ _ _ h => h) (Or.inl ⟨by rfl, ?_⟩) (fun _ => hHeld) ?_
      rotate_left
      · intro w' _
        go_simp
        first | done | with_reducible rfl
      try simp only [Go.Act.put, List.setIfInBounds_toArray, List.set_cons_zero, List.set_cons_succ]
      refine anyZ_pure (i := 2) (v := ?_) (some 57) rfl rfl (by kernel_rfl) (by kernel_rfl) (by kernel_rfl) (by kernel_rfl) (fun _ _ _ h => h) (Or.inl ⟨by rfl, ?_⟩) (fun _ => hHeld) ?_
      rotate_left
      · intro w' _
        go_simp
        first | done | with_reducible rfl
      try simp only [Go.Act.put, List.setIfInBounds_toArray, List.set_cons_zero, List.set_cons_succ]
      refine anyZ_pure (i := 3) (v := ?_) (some 58) rfl rfl (by kernel_rfl) (by kernel_rfl) (by kernel_rfl) (by kernel_rfl) (fun _ _ _ h => h) (Or.inl ⟨by rfl, ?_⟩) (fun _ => hHeld) ?_
      rotate_left
      · intro w' _
        go_simp
        first | done | with_reducible rfl
      try simp only [Go.Act.put, List.setIfInBounds_toArray, List.set_cons_zero, List.set_cons_succ]
      refine anyZ_read (i := 4) (v := ?_) (some 59) [6, 7, 10, 11] rfl rfl (by kernel_rfl) (by kernel_rfl) (by kernel_rfl) (by kernel_rfl) (by kernel_rfl) (by kernel_rfl) (fun _ _ _ h => h) (Or.inl ⟨by rfl, ?_⟩) hHeld ?_
      rotate_left
      · intro w' hSw
        have q1 := HC.out w' hSw
        go_simp
        first | done | with_reducible rfl
      try simp only [Go.Act.put, List.setIfInBounds_toArray, List.set_cons_zero, List.set_cons_succ]
      refine anyZ_pure (i := 5) (v := ?_) (some 60) rfl rfl (by kernel_rfl) (by kernel_rfl) (by kernel_rfl) (by kernel_rfl) (fun _ _ _ h => h) (Or.inl ⟨by rfl, ?_⟩) (fun _ => hHeld) ?_
      rotate_left
      · intro w' _
        go_simp
        first | done | with_reducible rfl
      try simp only [Go.Act.put, List.setIfInBounds_toArray, List.set_cons_zero, List.set_cons_succ]
      refine anyZ_pure (i := 6) (v := ?_) (some 61) rfl rfl (by kernel_rfl) (by kernel_rfl) (by kernel_rfl) (by kernel_rfl) (fun _ _ _ h => h) (Or.inl ⟨by rfl, ?_⟩) (fun _ => hHeld) ?_
      rotate_left
      · intro w' _
        go_simp
        first | done | with_reducible rfl
      try simp only [Go.Act.put, List.setIfInBounds_toArray, List.set_cons_zero, List.set_cons_succ]
      refine anyZ_read (i := 8) (v := ?_) (some 63) [9, 10, 11] rfl rfl (by kernel_rfl) (by kernel_rfl) (by kernel_rfl) (by kernel_rfl) (by kernel_rfl) (by kernel_rfl) (fun _ _ _ h => h) (Or.inl ⟨by rfl, ?_⟩) hHeld ?_
      rotate_left
      · intro w' hSw
        obtain ⟨q1, q2, q3, q4⟩ := HKP.out w' hSw
        go_simp
        first | done | with_reducible rfl
      try simp only [Go.Act.put, List.setIfInBounds_toArray, List.set_cons_zero, List.set_cons_succ]
      refine anyZ_ready (rs := [0, 9]) (by kernel_rfl) (by simp) ?_
      refine AllZ.step rfl (fun K hK => ?_) (AllZ.step rfl (fun K hK => ?_) AllZ.nil)
      · skip
        go_simp
        have HA0 := Lib.hid hHeld
        refine hK.out _ _ (hHeld.alloc _) (fun hHeld => ?_)
        clear hK K
        try change anyZ _ _ _ _ _ _ _ _ (Go.Act.put _ (some 55) _) _
        try simp only [Go.Act.put, List.setIfInBounds_toArray, List.set_cons_zero, List.set_cons_succ]
        refine anyZ_ready (rs := [7, 9]) (by kernel_rfl) (by simp) ?_
        refine AllZ.step rfl (fun K hK => ?_) (AllZ.step rfl (fun K hK => ?_) AllZ.nil)
        · skip
          have hnr := (NewRow.of HA0.out)
          refine stepOf_appendR Try.teQ rfl (.tmp 55) (.tmp 61) rfl _ 0 [] rfl hnr.row (.slice (some ⟨b, off, none⟩) X c) X (kpc (ks.take X)) rfl (HS1.out _ hHeld) (kpc_one _) (by unfold maxLen; omega) (by omega) ?_
          intro A8 c8 w8 hr8 hf8 hm8
          have N8 := Lib.hid (hnr.step hr8 hf8 hm8)
          clear hnr hr8 hf8 hm8
          simp only [Nat.zero_add, List.nil_append] at N8 ⊢
          refine hK.out _ _ (N8.out.fr) (fun hHeld => ?_)
          clear hK K
          try change anyZ _ _ _ _ _ _ _ _ (Go.Act.put _ (some 62) _) _
          try simp only [Go.Act.put, List.setIfInBounds_toArray, List.set_cons_zero, List.set_cons_succ]
          refine anyZ_ready (rs := [9]) (by kernel_rfl) (by simp) ?_
          refine AllZ.step rfl (fun K hK => ?_) AllZ.nil
          go_simp
          have HA9 := Lib.hid hHeld
          have kb9 := Fr.bkNew HA9.out 61 #[.int .i64 q.pk.fr, .int .i64 q.pk.to, .int .i64 (q.pk.n : Int), .slice q.A q.pk.bs.length q.c]
          have KB9 := Lib.hid kb9
          clear kb9
          refine hK.out _ _ (hHeld.alloc _) (fun hHeld => ?_)
          clear hK K
          try change anyZ _ _ _ _ _ _ _ _ (Go.Act.put _ (some 64) _) _
          try simp only [Go.Act.put, List.setIfInBounds_toArray, List.set_cons_zero, List.set_cons_succ]
          refine anyZ_ready (rs := [10]) (by kernel_rfl) (by simp) ?_
          refine AllZ.step rfl (fun K hK => ?_) AllZ.nil
          have N8' := N8.out.fr0 ((Fr.refl _ _).alloc (.cells #[.int .i64 q.pk.fr, .int .i64 q.pk.to, .int .i64 (q.pk.n : Int), .slice q.A q.pk.bs.length q.c] 61))
          refine stepOf_appendR Try.teQ rfl (.tmp 62) (.tmp 64) rfl _ X (kpc (ks.take X)) rfl N8'.row _ 1 q.cells rfl (slOne KB9.out) (q_one q) (by unfold maxLen; omega) (by omega) ?_
          intro A10 c10 w10 hr10 hf10 hm10
          have N10 := Lib.hid (N8'.step hr10 hf10 hm10)
          clear N8' hr10 hf10 hm10
          refine hK.out _ _ (N10.out.fr) (fun hHeld => ?_)
          clear hK K
          try change anyZ _ _ _ _ _ _ _ _ (Go.Act.put _ (some 65) _) _
          try simp only [Go.Act.put, List.setIfInBounds_toArray, List.set_cons_zero, List.set_cons_succ]
          refine anyZ_pure (i := 11) (v := ?_) (some 7) rfl rfl (by kernel_rfl) (by kernel_rfl) (by kernel_rfl) (by kernel_rfl) (fun _ _ _ h => h) (Or.inl ⟨by rfl, ?_⟩) (fun _ => hHeld) ?_
          rotate_left
          · intro w' _
            go_simp
            first | done | with_reducible rfl
          try simp only [Go.Act.put, List.setIfInBounds_toArray, List.set_cons_zero, List.set_cons_succ]
          refine anyZ_done (by kernel_rfl) ?_ _
          clear hHeld
          have e10 := HC.out w10 N10.out.fr
          go_wp2_with (at_builtin; (refine wpList_appendR Try.teQ rfl (.tmp 67) (.tmp 73) rfl _ (X + 1) (kpc (ks.take X) ++ q.cells) rfl N10.out.row _ (n - X) (kpc (ks.drop X)) rfl (HS2.out _ N10.out.fr) (kpc_one _) (by unfold maxLen; omega) (by omega) ?_; intro A11 c11 w11 hr11 hf11 hm11; have n11 := N10.out.step hr11 hf11 hm11; have N11 := Lib.hid n11; have k2 : w11.cell? ⟨g, 2, none⟩ = some (.slice (some ⟨b, off, none⟩) n c) := HC.out w11 n11.fr; have z2 : w11.frozen? ⟨g, 2, none⟩ = false := (H.out.blk.fr n11.fr (fun h => h)).frozen 2; clear hr11 hf11 hm11 n11))
          go_ret
          have hl : s.again i = { s with l := (ks.take X ++ q :: ks.drop X).map KP.pk } := by
            unfold NS.again
            rw [HX.out, HQ.out.1, H.out.l]
            simp [List.map_append, List.map_take, List.map_drop]
          rw [hl]
          have n11 := N11.out
          rw [← kpc_ins] at n11
          obtain ⟨m', q1, q2, q3⟩ := RefM.relist H.out (n := X + 1 + (n - X)) (ks' := ks.take X ++ q :: ks.drop X) (fun x hx => mem_ins HQ.out.2 hx) (by have := HN.out; simp; omega) n11
          exact ⟨rfl, m', q1, FA.out.trans q2 (fun _ _ h => h) , fun x hx => (q3 x hx).imp id (fun h => Nat.le_trans FA.out.size h)⟩
        · skip
          go_simp
          have HA9 := Lib.hid hHeld
          have kb9 := Fr.bkNew HA9.out 61 #[.int .i64 q.pk.fr, .int .i64 q.pk.to, .int .i64 (q.pk.n : Int), .slice q.A q.pk.bs.length q.c]
          rw [allocSize] at kb9
          have KB9 := Lib.hid kb9
          clear kb9
          refine hK.out _ _ (hHeld.alloc _) (fun hHeld => ?_)
          clear hK K
          try change anyZ _ _ _ _ _ _ _ _ (Go.Act.put _ (some 64) _) _
          try simp only [Go.Act.put, List.setIfInBounds_toArray, List.set_cons_zero, List.set_cons_succ]
          refine anyZ_ready (rs := [7]) (by kernel_rfl) (by simp) ?_
          refine AllZ.step rfl (fun K hK => ?_) AllZ.nil
          have hnr := ((NewRow.of HA0.out).fr0 ((Fr.refl _ _).alloc (.cells #[.int .i64 q.pk.fr, .int .i64 q.pk.to, .int .i64 (q.pk.n : Int), .slice q.A q.pk.bs.length q.c] 61)))
          refine stepOf_appendR Try.teQ rfl (.tmp 55) (.tmp 61) rfl _ 0 [] rfl hnr.row (.slice (some ⟨b, off, none⟩) X c) X (kpc (ks.take X)) rfl (HS1.out _ hHeld) (kpc_one _) (by unfold maxLen; omega) (by omega) ?_
          intro A8 c8 w8 hr8 hf8 hm8
          have N8 := Lib.hid (hnr.step hr8 hf8 hm8)
          have KB8 := Lib.hid (KB9.out.fr hf8 (fun e => by have := own_fresh e; simp at this))
          clear hnr hr8 hf8 hm8
          simp only [Nat.zero_add, List.nil_append] at N8 ⊢
          refine hK.out _ _ (N8.out.fr) (fun hHeld => ?_)
          clear hK K
          try change anyZ _ _ _ _ _ _ _ _ (Go.Act.put _ (some 62) _) _
          try simp only [Go.Act.put, List.setIfInBounds_toArray, List.set_cons_zero, List.set_cons_succ]
          refine anyZ_ready (rs := [10]) (by kernel_rfl) (by simp) ?_
          refine AllZ.step rfl (fun K hK => ?_) AllZ.nil
          have N8' := N8.out
          refine stepOf_appendR Try.teQ rfl (.tmp 62) (.tmp 64) rfl _ X (kpc (ks.take X)) rfl N8'.row _ 1 q.cells rfl (slOne KB8.out) (q_one q) (by unfold maxLen; omega) (by omega) ?_
          intro A10 c10 w10 hr10 hf10 hm10
          have N10 := Lib.hid (N8'.step hr10 hf10 hm10)
          clear N8' hr10 hf10 hm10
          refine hK.out _ _ (N10.out.fr) (fun hHeld => ?_)
          clear hK K
          try change anyZ _ _ _ _ _ _ _ _ (Go.Act.put _ (some 65) _) _
          try simp only [Go.Act.put, List.setIfInBounds_toArray, List.set_cons_zero, List.set_cons_succ]
          refine anyZ_pure (i := 11) (v := ?_) (some 7) rfl rfl (by kernel_rfl) (by kernel_rfl) (by kernel_rfl) (by kernel_rfl) (fun _ _ _ h => h) (Or.inl ⟨by rfl, ?_⟩) (fun _ => hHeld) ?_
          rotate_left
          · intro w' _
            go_simp
            first | done | with_reducible rfl
          try simp only [Go.Act.put, List.setIfInBounds_toArray, List.set_cons_zero, List.set_cons_succ]
          refine anyZ_done (by kernel_rfl) ?_ _
          clear hHeld
          have e10 := HC.out w10 N10.out.fr
          go_wp2_with (at_builtin; (refine wpList_appendR Try.teQ rfl (.tmp 67) (.tmp 73) rfl _ (X + 1) (kpc (ks.take X) ++ q.cells) rfl N10.out.row _ (n - X) (kpc (ks.drop X)) rfl (HS2.out _ N10.out.fr) (kpc_one _) (by unfold maxLen; omega) (by omega) ?_; intro A11 c11 w11 hr11 hf11 hm11; have n11 := N10.out.step hr11 hf11 hm11; have N11 := Lib.hid n11; have k2 : w11.cell? ⟨g, 2, none⟩ = some (.slice (some ⟨b, off, none⟩) n c) := HC.out w11 n11.fr; have z2 : w11.frozen? ⟨g, 2, none⟩ = false := (H.out.blk.fr n11.fr (fun h => h)).frozen 2; clear hr11 hf11 hm11 n11))
          go_ret
          have hl : s.again i = { s with l := (ks.take X ++ q :: ks.drop X).map KP.pk } := by
            unfold NS.again
            rw [HX.out, HQ.out.1, H.out.l]
            simp [List.map_append, List.map_take, List.map_drop]
          rw [hl]
          have n11 := N11.out
          rw [← kpc_ins] at n11
          obtain ⟨m', q1, q2, q3⟩ := RefM.relist H.out (n := X + 1 + (n - X)) (ks' := ks.take X ++ q :: ks.drop X) (fun x hx => mem_ins HQ.out.2 hx) (by have := HN.out; simp; omega) n11
          exact ⟨rfl, m', q1, FA.out.trans q2 (fun _ _ h => h) , fun x hx => (q3 x hx).imp id (fun h => Nat.le_trans FA.out.size h)⟩
      · skip
        go_simp
        have HA9 := Lib.hid hHeld
        have kb9 := Fr.bkNew HA9.out 61 #[.int .i64 q.pk.fr, .int .i64 q.pk.to, .int .i64 (q.pk.n : Int), .slice q.A q.pk.bs.length q.c]
        have KB9 := Lib.hid kb9
        clear kb9
        refine hK.out _ _ (hHeld.alloc _) (fun hHeld => ?_)
        clear hK K
        try change anyZ _ _ _ _ _ _ _ _ (Go.Act.put _ (some 64) _) _
        try simp only [Go.Act.put, List.setIfInBounds_toArray, List.set_cons_zero, List.set_cons_succ]
        refine anyZ_ready (rs := [0]) (by kernel_rfl) (by simp) ?_
        refine AllZ.step rfl (fun K hK => ?_) AllZ.nil
        go_simp
        have HA0 := Lib.hid hHeld
        refine hK.out _ _ (hHeld.alloc _) (fun hHeld => ?_)
        clear hK K
        try change anyZ _ _ _ _ _ _ _ _ (Go.Act.put _ (some 55) _) _
        try simp only [Go.Act.put, List.setIfInBounds_toArray, List.set_cons_zero, List.set_cons_succ]
        refine anyZ_ready (rs := [7]) (by kernel_rfl) (by simp) ?_
        refine AllZ.step rfl (fun K hK => ?_) AllZ.nil
        have hnr := (NewRow.of HA0.out)
        rw [allocSize] at hnr
        refine stepOf_appendR Try.teQ rfl (.tmp 55) (.tmp 61) rfl _ 0 [] rfl hnr.row (.slice (some ⟨b, off, none⟩) X c) X (kpc (ks.take X)) rfl (HS1.out _ hHeld) (kpc_one _) (by unfold maxLen; omega) (by omega) ?_
        intro A8 c8 w8 hr8 hf8 hm8
        have N8 := Lib.hid (hnr.step hr8 hf8 hm8)
        have KB8 := Lib.hid ((KB9.out.fr ((Fr.refl (fun _ => False) _).alloc _) (fun h => h)).fr hf8 (fun e => by have := own_fresh e; simp at this))
        clear hnr hr8 hf8 hm8
        simp only [Nat.zero_add, List.nil_append] at N8 ⊢
        refine hK.out _ _ (N8.out.fr) (fun hHeld => ?_)
        clear hK K
        try change anyZ _ _ _ _ _ _ _ _ (Go.Act.put _ (some 62) _) _
        try simp only [Go.Act.put, List.setIfInBounds_toArray, List.set_cons_zero, List.set_cons_succ]
        refine anyZ_ready (rs := [10]) (by kernel_rfl) (by simp) ?_
        refine AllZ.step rfl (fun K hK => ?_) AllZ.nil
        have N8' := N8.out
        refine stepOf_appendR Try.teQ rfl (.tmp 62) (.tmp 64) rfl _ X (kpc (ks.take X)) rfl N8'.row _ 1 q.cells rfl (slOne KB8.out) (q_one q) (by unfold maxLen; omega) (by omega) ?_
        intro A10 c10 w10 hr10 hf10 hm10
        have N10 := Lib.hid (N8'.step hr10 hf10 hm10)
        clear N8' hr10 hf10 hm10
        refine hK.out _ _ (N10.out.fr) (fun hHeld => ?_)
        clear hK K
        try change anyZ _ _ _ _ _ _ _ _ (Go.Act.put _ (some 65) _) _
        try simp only [Go.Act.put, List.setIfInBounds_toArray, List.set_cons_zero, List.set_cons_succ]
        refine anyZ_pure (i := 11) (v := ?_) (some 7) rfl rfl (by kernel_rfl) (by kernel_rfl) (by kernel_rfl) (by kernel_rfl) (fun _ _ _ h => h) (Or.inl ⟨by rfl, ?_⟩) (fun _ => hHeld) ?_
        rotate_left
        · intro w' _
          go_simp
          first | done | with_reducible rfl
        try simp only [Go.Act.put, List.setIfInBounds_toArray, List.set_cons_zero, List.set_cons_succ]
        refine anyZ_done (by kernel_rfl) ?_ _
        clear hHeld
        have e10 := HC.out w10 N10.out.fr
        go_wp2_with (at_builtin; (refine wpList_appendR Try.teQ rfl (.tmp 67) (.tmp 73) rfl _ (X + 1) (kpc (ks.take X) ++ q.cells) rfl N10.out.row _ (n - X) (kpc (ks.drop X)) rfl (HS2.out _ N10.out.fr) (kpc_one _) (by unfold maxLen; omega) (by omega) ?_; intro A11 c11 w11 hr11 hf11 hm11; have n11 := N10.out.step hr11 hf11 hm11; have N11 := Lib.hid n11; have k2 : w11.cell? ⟨g, 2, none⟩ = some (.slice (some ⟨b, off, none⟩) n c) := HC.out w11 n11.fr; have z2 : w11.frozen? ⟨g, 2, none⟩ = false := (H.out.blk.fr n11.fr (fun h => h)).frozen 2; clear hr11 hf11 hm11 n11))
        go_ret
        have hl : s.again i = { s with l := (ks.take X ++ q :: ks.drop X).map KP.pk } := by
          unfold NS.again
          rw [HX.out, HQ.out.1, H.out.l]
          simp [List.map_append, List.map_take, List.map_drop]
        rw [hl]
        have n11 := N11.out
        rw [← kpc_ins] at n11
        obtain ⟨m', q1, q2, q3⟩ := RefM.relist H.out (n := X + 1 + (n - X)) (ks' := ks.take X ++ q :: ks.drop X) (fun x hx => mem_ins HQ.out.2 hx) (by have := HN.out; simp; omega) n11
        exact ⟨rfl, m', q1, FA.out.trans q2 (fun _ _ h => h) , fun x hx => (q3 x hx).imp id (fun h => Nat.le_trans FA.out.size h)⟩

theorem ragain_any (g i : Nat) (s : NS) (m : RL) (w : World) (h : RefM w g s m) (hi : i < s.l.length) (hq : s.l.length < 4096) :
    Calls Try.prog 24 #[.pointer (some ⟨g, 0, none⟩), .int .i64 (i : Int)] w fun e w' => e = .returned (.int .i64 0) ∧ ∃ m', RefM w' g (s.again i) m' ∧ Fr (fun x => x = g) w w' ∧ ∀ x, RB g m' x → RB g m x ∨ w.heap.size ≤ x := by
  have hll := h.ll
  obtain ⟨A, c, hLV, hlc, hcm, hA⟩ := h.row.form
  obtain ⟨LV, CV, ks⟩ := m
  simp only at *
  subst hLV
  obtain ⟨b, off, rfl⟩ := hA (by omega)
  by_cases hck : c = s.past i
  · exact ragain_last g i s b off c CV ks w h (by omega) (by omega) hck
  · exact ragain_mid g i s b off c CV ks w h (by omega) (by omega) hck
end Go.Proofs.Ytmlckocgahfnkaa
