/- match: the reference's Pop and Keep. -/
import Derived.Test.YtkinbcmnfpkncaaRs
namespace Go.Proofs.Ytkinbcmnfpkncaa
open Go.RowKit Go.Maps

theorem tcs_take (L : List (Int × Int)) (k : Nat) (h : k ≤ L.length) : tcs (L.take k) = (tcs L).take (k * 2) := by
  have : (tcs (L.take k)).length = k * 2 := by rw [tcs_len, List.length_take]; congr 1; omega
  conv => rhs; rw [← List.take_append_drop k L, tcs_append]
  rw [List.take_left' this]
theorem tcs_drop (L : List (Int × Int)) (k : Nat) (h : k ≤ L.length) : tcs (L.drop k) = (tcs L).drop (k * 2) := by
  have : (tcs (L.take k)).length = k * 2 := by rw [tcs_len, List.length_take]; congr 1; omega
  conv => rhs; rw [← List.take_append_drop k L, tcs_append]
  rw [List.drop_left' this]
theorem RT.take {w : World} {b off n c : Nat} {L : List (Int × Int)} (h : RT w (.slice (some ⟨b, off, none⟩) n c) L) {k : Nat} (hk : k ≤ L.length) : Sl w 2 (.slice (some ⟨b, off, none⟩) k c) k (tcs (L.take k)) :=
  Sl.at rfl (by rw [tcs_len, List.length_take]; congr 1; omega) (fun j u hu => by
    rw [tcs_take L k hk] at hu
    refine Row.cell h ?_
    rw [List.getElem?_take] at hu
    split at hu
    · exact hu
    · cases hu)
theorem RT.drop {w : World} {b off n c c' : Nat} {L : List (Int × Int)} (h : RT w (.slice (some ⟨b, off, none⟩) n c) L) {k : Nat} (hk : k ≤ L.length) : Sl w 2 (.slice (some ⟨b, off + k * 2, none⟩) (L.length - k) c') (L.length - k) (tcs (L.drop k)) :=
  Sl.at rfl (by rw [tcs_len, List.length_drop]) (fun j u hu => by
    rw [tcs_drop L k hk, List.getElem?_drop] at hu
    rw [Nat.add_assoc]
    exact Row.cell h hu)
theorem run_toQ (b off n c i : Nat) (hi : i < n) (hnc : n ≤ c) : ∀ w, (Instr.sliceAt 56 (.slice (some ⟨b, off, none⟩) n c) none (some (.int .i64 (i : Int))) none).run Try.prog w = .ok (.slice (some ⟨b, off, none⟩) i c) w := fun w => by
  have hck : ¬ (c = 0) := by omega
  have h1 : (i : Int) ≤ (c : Int) := by omega
  simp [go_sem, Instr.sliceAt, hck, h1]
theorem run_fromQ (b off n c i : Nat) (hi : i < n) (hnc : n ≤ c) : ∃ A' c', (∀ w, (Instr.sliceAt 56 (.slice (some ⟨b, off, none⟩) n c) (some (.int .i64 ((i : Int) + 1))) none none).run Try.prog w = .ok (.slice A' (n - (i + 1)) c') w) ∧
    ∀ w (L : List (Int × Int)), L.length = n → RT w (.slice (some ⟨b, off, none⟩) n c) L → Sl w 2 (.slice A' (n - (i + 1)) c') (n - (i + 1)) (tcs (L.drop (i + 1))) := by
  have hb0 : (0 : Int) ≤ (i : Int) + 1 := by omega
  have hkn : (i : Int) + 1 ≤ (n : Int) := by omega
  have htn : ((i : Int) + 1).toNat = i + 1 := by omega
  by_cases hck : c = i + 1
  · have hn : n - (i + 1) = 0 := by omega
    refine ⟨some ⟨b, off, none⟩, 0, fun w => ?_, fun w L hl h => ?_⟩
    · subst hck
      obtain rfl : n = i + 1 := by omega
      have hb1 : (i : Int) + 1 ≤ ((i + 1 : Nat) : Int) := by omega
      simp [go_sem, Instr.sliceAt, htn, hb0, hb1]
    · rw [hn, List.drop_of_length_le (by omega)]
      exact Sl.none
  · refine ⟨some ⟨b, off + (i + 1) * 2, none⟩, c - (i + 1), fun w => ?_, fun w L hl h => ?_⟩
    · simp [go_sem, Instr.sliceAt, htn, hb0, hkn, hck]
    · have := h.drop (k := i + 1) (c' := c - (i + 1)) (by omega)
      rwa [hl] at this
theorem rowZeroQ (w : World) : Row (w.alloc (.cells #[] tQ)) tQ 2 (.slice (some ⟨w.heap.size, 0, none⟩) 0 0) 0 [] :=
  ⟨rfl, .inr ⟨w.heap.size, 0, 0, #[], rfl, Bk.new _ _ _, Nat.le_refl _, by simp [maxLen], by simp, fun j hj => by simp at hj⟩⟩
/-- The first task of a list is no more. -/
def popL (L : List (Int × Int)) (c : Int) : List (Int × Int) := L.eraseP fun p => decide (p.1 = c)
theorem popL_at {L : List (Int × Int)} {c : Int} {a d : List (Int × Int)} {p : Int × Int} (hL : L = a ++ p :: d) (ha : ∀ q ∈ a, q.1 ≠ c) (hp : p.1 = c) : popL L c = a ++ d ∧ hdL L c = #[.int .i64 p.2, .bool true] := by
  subst hL
  constructor
  · unfold popL
    rw [List.eraseP_append_right _ (fun q hq => by simp; exact ha q hq), List.eraseP_cons_of_pos (by simp [hp])]
  · unfold hdL
    rw [List.find?_append, List.find?_eq_none.2 (fun q hq => by simp; exact ha q hq)]
    simp [hp]
theorem popL_none {L : List (Int × Int)} {c : Int} (ha : ∀ q ∈ L, q.1 ≠ c) : popL L c = L ∧ hdL L c = #[.int .i64 0, .bool false] := by
  constructor
  · exact List.eraseP_of_forall_not (fun q hq => by simp; exact ha q hq)
  · unfold hdL
    rw [List.find?_eq_none.2 (fun q hq => by simp; exact ha q hq)]

set_option maxRecDepth 100000 in
set_option maxHeartbeats 8000000 in
theorem rpop_any {w : World} {g : Nat} {F : Nat → Prop} {most : Int} {L : List (Int × Int)} {v : Value} (h : RfM w g F most L v) (c : Int) :
    Calls Try.prog 12 #[.pointer (some ⟨g, 0, none⟩), .int .i64 c] w fun e w' => e = .returned (.tuple (hdL L c)) ∧ RfTo w g F w' most (popL L c) := by
  obtain ⟨A, cp, rfl, hnc, -, -⟩ := Row.form h.row
  obtain ⟨n, hn⟩ : ∃ n, L.length = n := ⟨_, rfl⟩
  rw [hn] at h hnc
  have H := Lib.hid h
  have HN := Lib.hid hn
  have HNC := Lib.hid hnc
  have HLL : Hid (n ≤ 1000000) := Lib.hid (by rw [← hn]; exact h.ll)
  have q1 : w.cell? ⟨g, 1, none⟩ = some (.slice A n cp) := h.blk.cell 1
  obtain ⟨out, hout⟩ : ∃ out, hdL L c = out := ⟨_, rfl⟩
  obtain ⟨L', hL'⟩ : ∃ L', popL L c = L' := ⟨_, rfl⟩
  rw [hout, hL']
  have HO := Lib.hid hout
  have HP' := Lib.hid hL'
  clear h hn hnc hout hL'
  go_enter Try.func12, Try.ntmps12
  go_wp2_with fail
  go_loopw [6] (fun v wr => ∃ (k : Nat), v = .int .i64 (k : Int) ∧ k ≤ n ∧ Hid (∀ p ∈ L.take k, p.1 ≠ c) ∧ wr = w) (fun v _ => n - (intOf v).toNat)
  case atStart => exact ⟨0, rfl, Nat.zero_le _, Lib.hid (fun p hp => by simp at hp), rfl⟩
  case round =>
    obtain ⟨k, rfl, hk, HM, rfl⟩ := hrel
    by_cases hlt : k < n
    · have di : decide ((k : Int) < (n : Int)) = true := decide_eq_true (by omega)
      have di' : decide (k < n) = true := decide_eq_true hlt
      have k0 : (0 : Int) ≤ (k : Int) := by omega
      have k1 : (k : Int) < (n : Int) := by omega
      have hkl : k < L.length := by rw [HN.out]; exact hlt
      obtain ⟨p, hp⟩ : ∃ p, L[k] = p := ⟨_, rfl⟩
      obtain ⟨b, off, rfl, hc⟩ := H.out.task hkl hp
      obtain ⟨c0, c1⟩ := hc _ (Fr.refl _ _)
      have HP : Hid (L = L.take k ++ p :: L.drop (k + 1)) := Lib.hid (by rw [← hp, ← List.drop_eq_getElem_cons hkl]; exact (List.take_append_drop k L).symm)
      have HK := Lib.hid hlt
      have hwk := wrap_succ (k := k) (by have := HLL.out; omega)
      clear hk hlt hkl hp hc
      obtain ⟨x, y⟩ := p
      simp only at c0 c1
      by_cases hxc : x = c
      · have hxe : (x == c) = true := by rw [beq_iff_eq]; exact hxc
        obtain ⟨e1, e2⟩ := popL_at HP.out HM.out hxc
        have hout : out = #[.int .i64 y, .bool true] := HO.out.symm.trans e2
        have HL2 : Hid (L' = L.take k ++ L.drop (k + 1)) := Lib.hid (HP'.out.symm.trans e1)
        subst hout
        obtain ⟨A2, c2, hsl2, hdr2⟩ := run_fromQ b off n cp k HK.out HNC.out
        have hsl1 := run_toQ b off n cp k HK.out HNC.out
        have HS1 : Hid (∀ W, Fr (fun _ => False) wr W → Sl W 2 (.slice (some ⟨b, off, none⟩) k cp) k (tcs (L.take k))) := Lib.hid (fun W hf => (H.out.fr0 hf).row.take (by rw [HN.out]; exact Nat.le_of_lt HK.out))
        have HS2 : Hid (∀ W, Fr (fun _ => False) wr W → Sl W 2 (.slice A2 (n - (k + 1)) c2) (n - (k + 1)) (tcs (L.drop (k + 1)))) := Lib.hid (fun W hf => hdr2 W L HN.out (H.out.fr0 hf).row)
        have HC : Hid (∀ w', Fr (fun _ => False) wr w' → w'.cell? ⟨g, 1, none⟩ = some (.slice (some ⟨b, off, none⟩) n cp)) := Lib.hid (fun w' hf => (H.out.fr0 hf).blk.cell 1)
        clear hxc e1 e2 hdr2
        go_wp2_with fail
        clear c0 c1 q1
        refine wp_region_Z [19] (fun w' => Fr (fun _ => False) wr w') (by kernel_rfl) ((Fr.refl _ _).drew) (fun hHeld => ?_)
        refine anyZ_pure (i := 0) (v := ?_) (some 35) rfl rfl (by kernel_rfl) (by kernel_rfl) (by kernel_rfl) (by kernel_rfl) (fun _ _ _ h => h) (Or.inl ⟨by rfl, ?_⟩) (fun _ => hHeld) ?_
        rotate_left
        · intro w' _
          go_simp
          first | done | with_reducible rfl
        try simp only [Act.put, List.setIfInBounds_toArray, List.set_cons_zero, List.set_cons_succ]
        refine anyZ_pure (i := 2) (v := ?_) (some 37) rfl rfl (by kernel_rfl) (by kernel_rfl) (by kernel_rfl) (by kernel_rfl) (fun _ _ _ h => h) (Or.inl ⟨by rfl, ?_⟩) (fun _ => hHeld) ?_
        rotate_left
        · intro w' _
          go_simp
          first | done | with_reducible rfl
        try simp only [Act.put, List.setIfInBounds_toArray, List.set_cons_zero, List.set_cons_succ]
        refine anyZ_pure (i := 3) (v := ?_) (some 38) rfl rfl (by kernel_rfl) (by kernel_rfl) (by kernel_rfl) (by kernel_rfl) (fun _ _ _ h => h) (Or.inl ⟨by rfl, ?_⟩) (fun _ => hHeld) ?_
        rotate_left
        · intro w' _
          go_simp
          first | done | with_reducible rfl
        try simp only [Act.put, List.setIfInBounds_toArray, List.set_cons_zero, List.set_cons_succ]
        refine anyZ_pure (i := 4) (v := ?_) (some 39) rfl rfl (by kernel_rfl) (by kernel_rfl) (by kernel_rfl) (by kernel_rfl) (fun _ _ _ h => h) (Or.inl ⟨by rfl, ?_⟩) (fun _ => hHeld) ?_
        rotate_left
        · intro w' _
          go_simp
          first | done | with_reducible rfl
        try simp only [Act.put, List.setIfInBounds_toArray, List.set_cons_zero, List.set_cons_succ]
        refine anyZ_read (i := 5) (v := ?_) (some 40) [7, 8, 16, 17, 18, 19] rfl rfl (by kernel_rfl) (by kernel_rfl) (by kernel_rfl) (by kernel_rfl) (by kernel_rfl) (by kernel_rfl) (fun _ _ _ h => h) (Or.inl ⟨by rfl, ?_⟩) hHeld ?_
        rotate_left
        · intro w' hSw
          have q1 := HC.out w' hSw
          go_simp
          first | done | with_reducible rfl
        try simp only [Act.put, List.setIfInBounds_toArray, List.set_cons_zero, List.set_cons_succ]
        refine anyZ_pure (i := 6) (v := ?_) (some 41) rfl rfl (by kernel_rfl) (by kernel_rfl) (by kernel_rfl) (by kernel_rfl) (fun _ _ _ h => h) (Or.inl ⟨by rfl, ?_⟩) (fun _ => hHeld) ?_
        rotate_left
        · intro w' _
          go_simp
          first | done | with_reducible rfl
        try simp only [Act.put, List.setIfInBounds_toArray, List.set_cons_zero, List.set_cons_succ]
        refine anyZ_pure (i := 7) (v := ?_) (some 42) rfl rfl (by kernel_rfl) (by kernel_rfl) (by kernel_rfl) (by kernel_rfl) (fun _ _ _ h => h) (Or.inl ⟨by rfl, ?_⟩) (fun _ => hHeld) ?_
        rotate_left
        · intro w' _
          have hs := hsl1 w'
          go_simp
          first | done | with_reducible rfl
        try simp only [Act.put, List.setIfInBounds_toArray, List.set_cons_zero, List.set_cons_succ]
        refine anyZ_pure (i := 9) (v := ?_) (some 44) rfl rfl (by kernel_rfl) (by kernel_rfl) (by kernel_rfl) (by kernel_rfl) (fun _ _ _ h => h) (Or.inl ⟨by rfl, ?_⟩) (fun _ => hHeld) ?_
        rotate_left
        · intro w' _
          go_simp
          first | done | with_reducible rfl
        try simp only [Act.put, List.setIfInBounds_toArray, List.set_cons_zero, List.set_cons_succ]
        refine anyZ_pure (i := 10) (v := ?_) (some 45) rfl rfl (by kernel_rfl) (by kernel_rfl) (by kernel_rfl) (by kernel_rfl) (fun _ _ _ h => h) (Or.inl ⟨by rfl, ?_⟩) (fun _ => hHeld) ?_
        rotate_left
        · intro w' _
          go_simp
          first | done | with_reducible rfl
        try simp only [Act.put, List.setIfInBounds_toArray, List.set_cons_zero, List.set_cons_succ]
        refine anyZ_pure (i := 11) (v := ?_) (some 46) rfl rfl (by kernel_rfl) (by kernel_rfl) (by kernel_rfl) (by kernel_rfl) (fun _ _ _ h => h) (Or.inl ⟨by rfl, ?_⟩) (fun _ => hHeld) ?_
        rotate_left
        · intro w' _
          go_simp
          first | done | with_reducible rfl
        try simp only [Act.put, List.setIfInBounds_toArray, List.set_cons_zero, List.set_cons_succ]
        refine anyZ_read (i := 12) (v := ?_) (some 47) [15, 16, 17, 18, 19] rfl rfl (by kernel_rfl) (by kernel_rfl) (by kernel_rfl) (by kernel_rfl) (by kernel_rfl) (by kernel_rfl) (fun _ _ _ h => h) (Or.inl ⟨by rfl, ?_⟩) hHeld ?_
        rotate_left
        · intro w' hSw
          have q1 := HC.out w' hSw
          go_simp
          first | done | with_reducible rfl
        try simp only [Act.put, List.setIfInBounds_toArray, List.set_cons_zero, List.set_cons_succ]
        refine anyZ_pure (i := 13) (v := ?_) (some 48) rfl rfl (by kernel_rfl) (by kernel_rfl) (by kernel_rfl) (by kernel_rfl) (fun _ _ _ h => h) (Or.inl ⟨by rfl, ?_⟩) (fun _ => hHeld) ?_
        rotate_left
        · intro w' _
          go_simp
          first | done | with_reducible rfl
        try simp only [Act.put, List.setIfInBounds_toArray, List.set_cons_zero, List.set_cons_succ]
        refine anyZ_pure (i := 14) (v := ?_) (some 49) rfl rfl (by kernel_rfl) (by kernel_rfl) (by kernel_rfl) (by kernel_rfl) (fun _ _ _ h => h) (Or.inl ⟨by rfl, ?_⟩) (fun _ => hHeld) ?_
        rotate_left
        · intro w' _
          go_simp
          first | done | with_reducible rfl
        try simp only [Act.put, List.setIfInBounds_toArray, List.set_cons_zero, List.set_cons_succ]
        refine anyZ_pure (i := 15) (v := ?_) (some 50) rfl rfl (by kernel_rfl) (by kernel_rfl) (by kernel_rfl) (by kernel_rfl) (fun _ _ _ h => h) (Or.inl ⟨by rfl, ?_⟩) (fun _ => hHeld) ?_
        rotate_left
        · intro w' _
          have hs := hsl2 w'
          go_simp
          first | done | with_reducible rfl
        try simp only [Act.put, List.setIfInBounds_toArray, List.set_cons_zero, List.set_cons_succ]
        refine anyZ_ready (rs := [1]) (by kernel_rfl) (by simp) ?_
        refine AllZ.step rfl (fun K hK => ?_) AllZ.nil
        go_simp
        refine hK.out _ _ (hHeld.alloc _) (fun hHeld => ?_)
        clear hK K
        try change anyZ _ _ _ _ _ _ _ _ (Act.put _ (some 36) _) _
        try simp only [Act.put, List.setIfInBounds_toArray, List.set_cons_zero, List.set_cons_succ]
        refine anyZ_ready (rs := [8]) (by kernel_rfl) (by simp) ?_
        refine AllZ.step rfl (fun K hK => ?_) AllZ.nil
        refine stepOf_appendR teQ rfl (.tmp 36) (.tmp 42) rfl (.slice (some ⟨wr.heap.size, 0, none⟩) 0 0) 0 [] rfl (by first | exact (rowZeroQ wr.drew) | exact (rowZeroQ wr).fr0 (Fr.refl _ _).drew) (.slice (some ⟨b, off, none⟩) k cp) k (tcs (L.take k)) rfl (HS1.out _ hHeld) (tcs_one _) (by have := HK.out; have := HLL.out; unfold maxLen; omega) (by have := HK.out; have := HLL.out; omega) ?_
        intro A8 c8 w8 hr8 hf8 hm8
        have f8 : Fr (fun _ => False) wr w8 := hHeld.trans hf8 (fun x hx e => by have e' : wr.heap.size = x := by simpa [Value.ownBlock] using e
                                                                                 omega)
        have HF8 := Lib.hid f8
        have HM8 : Hid (∀ x, (Value.slice A8 (0 + k) c8).ownBlock = some x → wr.heap.size ≤ x) := Lib.hid (fun x hx => by
          rcases hm8 with e | ⟨z, e, hz⟩
          · rw [e] at hx; have e' : wr.heap.size = x := by simpa [Value.ownBlock] using hx
            omega
          · rw [e] at hx; injection hx with hx; have := hHeld.size; omega)
        have HR8 := Lib.hid hr8
        clear hr8 hf8 hm8 f8
        simp only [Nat.zero_add, List.nil_append] at HR8 HM8 ⊢
        refine hK.out _ _ (HF8.out) (fun hHeld => ?_)
        clear hK K
        try change anyZ _ _ _ _ _ _ _ _ (Act.put _ (some 43) _) _
        try simp only [Act.put, List.setIfInBounds_toArray, List.set_cons_zero, List.set_cons_succ]
        refine anyZ_ready (rs := [16]) (by kernel_rfl) (by simp) ?_
        refine AllZ.step rfl (fun K hK => ?_) AllZ.nil
        refine stepOf_appendR teQ rfl (.tmp 43) (.tmp 50) rfl (.slice A8 k c8) k (tcs (L.take k)) rfl HR8.out (.slice A2 (n - (k + 1)) c2) (n - (k + 1)) (tcs (L.drop (k + 1))) rfl (HS2.out _ HF8.out) (tcs_one _) (by have := HK.out; have := HLL.out; unfold maxLen; omega) (by have := HK.out; have := HLL.out; omega) ?_
        intro A9 c9 w9 hr9 hf9 hm9
        have f9 : Fr (fun _ => False) wr w9 := HF8.out.trans hf9 (fun x hx e => by have := HM8.out x e; omega)
        have HF9 := Lib.hid f9
        have HM9 : Hid (∀ x, (Value.slice A9 (k + (n - (k + 1))) c9).ownBlock = some x → wr.heap.size ≤ x) := Lib.hid (fun x hx => by
          rcases hm9 with e | ⟨z, e, hz⟩
          · exact HM8.out x (e ▸ hx)
          · rw [e] at hx; injection hx with hx; have := HF8.out.size; omega)
        have HR9 := Lib.hid hr9
        have k2 : w9.cell? ⟨g, 1, none⟩ = some (.slice (some ⟨b, off, none⟩) n cp) := HC.out w9 f9
        have z2 : w9.frozen? ⟨g, 1, none⟩ = false := (H.out.fr0 f9).blk.frozen 1
        clear hr9 hf9 hm9 f9 HC
        refine hK.out _ _ (HF9.out) (fun hHeld => ?_)
        clear hK K
        try change anyZ _ _ _ _ _ _ _ _ (Act.put _ (some 51) _) _
        try simp only [Act.put, List.setIfInBounds_toArray, List.set_cons_zero, List.set_cons_succ]
        refine anyZ_pure (i := 17) (v := ?_) (some 52) rfl rfl (by kernel_rfl) (by kernel_rfl) (by kernel_rfl) (by kernel_rfl) (fun _ _ _ h => h) (Or.inl ⟨by rfl, ?_⟩) (fun _ => hHeld) ?_
        rotate_left
        · intro w' _
          go_simp
          first | done | with_reducible rfl
        try simp only [Act.put, List.setIfInBounds_toArray, List.set_cons_zero, List.set_cons_succ]
        refine anyZ_pure (i := 18) (v := ?_) (some 53) rfl rfl (by kernel_rfl) (by kernel_rfl) (by kernel_rfl) (by kernel_rfl) (fun _ _ _ h => h) (Or.inl ⟨by rfl, ?_⟩) (fun _ => hHeld) ?_
        rotate_left
        · intro w' _
          go_simp
          first | done | with_reducible rfl
        try simp only [Act.put, List.setIfInBounds_toArray, List.set_cons_zero, List.set_cons_succ]
        refine anyZ_ready (rs := [19]) (by kernel_rfl) (by simp) ?_
        refine AllZ.last rfl (by kernel_rfl) (fun K hK => ?_) AllZ.nil
        go_simp
        refine hK.out _ _ ?_
        clear hK K
        try change anyZ _ _ _ _ _ _ _ _ (Act.put _ none _) _
        try simp only [Act.put, List.setIfInBounds_toArray, List.set_cons_zero, List.set_cons_succ]
        refine anyZ_done (by kernel_rfl) ?_ _
        clear hHeld
        go_wp2
        go_ret2
        refine ⟨rfl, ?_⟩
        rw [HL2.out]
        have hl9 : (L.take k ++ L.drop (k + 1)).length = k + (n - (k + 1)) := by rw [List.length_append, List.length_take, List.length_drop, HN.out]; have := HK.out; omega
        refine H.out.relay (HF9.out.mono (fun _ _ h => h.elim)) (v' := .slice A9 (k + (n - (k + 1))) c9) ?_ ?_ ?_ (Fr.setCell (S := fun x => x = g) (p := ⟨g, 1, none⟩) (Fr.refl _ _) (fun _ => rfl) _) (by have := HK.out; have := HLL.out; omega)
        · unfold RT
          rw [tcs_append, hl9]
          exact HR9.out
        · exact fun x hx => .inr (HM9.out x hx)
        · have := (H.out.fr0 HF9.out).blk.set 1 (.slice A9 (k + (n - (k + 1))) c9)
          simpa using this
      · have hxe : (x == c) = false := by rw [beq_eq_false_iff_ne]; exact hxc
        have HM2 : Hid (∀ p ∈ L.take (k + 1), p.1 ≠ c) := Lib.hid (fun q hq => by
          have e : L.take (k + 1) = L.take k ++ [(x, y)] := by
            have h1 := HP.out
            conv => lhs; rw [h1]
            rw [List.take_append, List.length_take, List.take_take]
            have : min k L.length = k := by have := HK.out; have := HN.out; omega
            simp [this]
          rw [e, List.mem_append] at hq
          rcases hq with hq | hq
          · exact HM.out q hq
          · simp at hq; subst hq; exact hxc)
        clear hxc
        go_wp2
        go_roundw
        case rel => exact ⟨k + 1, by first | rfl | (push_cast; rfl) | (go_num; done), HK.out, HM2, by first | rfl | trivial⟩
        case measure =>
          show n - ((k : Int) + 1).toNat < n - ((k : Int)).toNat
          exact meas_up HK.out
    · have di : decide ((k : Int) < (n : Int)) = false := decide_eq_false (by omega)
      have di' : decide (k < n) = false := decide_eq_false hlt
      obtain rfl : k = n := by omega
      obtain ⟨e1, e2⟩ := popL_none (L := L) (c := c) (fun q hq => HM.out q (by rw [List.take_of_length_le (by rw [HN.out]; exact Nat.le_refl _)]; exact hq))
      have hout : out = #[.int .i64 0, .bool false] := HO.out.symm.trans e2
      have HL2 : Hid (L' = L) := Lib.hid (HP'.out.symm.trans e1)
      subst hout
      clear hk hlt e1 e2
      go_wp2
      go_ret2
      refine ⟨rfl, ?_⟩
      rw [HL2.out]
      have := H.out
      exact this.to (Fr.refl _ _)
end Go.Proofs.Ytkinbcmnfpkncaa
