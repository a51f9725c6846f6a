/- dedup: Put, NewTable. -/
import Derived.Test.YtdfkoehcmgcoiaaJk
namespace Go.Proofs.Ytdfkoehcmgcoiaa
open Go.RowKit Go.Maps

theorem Own8.bk {w : World} {e : TypeId} {A : Option Addr} {n c : Nat} {xs : List UInt8} (h : Own8 w e (.slice A n c) xs) {ad : Addr} (ha : A = some ad) : (Value.slice A n c).ownBlock = some ad.block ∧ ∃ cs, Bk w ad.block e cs := by
  subst ha
  rcases h.2 with ⟨h1, _⟩ | ⟨g, cap, cur, h1, _, hh, _⟩
  · injection h1 with h1; cases h1
  · injection h1 with h1 h2 h3
    injection h1 with h1
    subst h1
    exact ⟨rfl, cur, hh⟩

set_option maxRecDepth 100000 in
set_option maxHeartbeats 8000000 in
theorem put_any {g : Nat} {F : Nat → Prop} {t : DT} {w : World} (h : Tab w g F t) (ok : t.ok) {c s : Int} (hc : I64 c) (hs : I64 s) {A : Option Addr} {n cap : Nat} {a : List UInt8} (hr : Rd8 w A a) (hn : a.length = n) (hb : n ≤ 140737488355328) :
    Calls Try.prog 9 #[.pointer (some ⟨g, 0, none⟩), .int .i64 c, .int .i64 s, .slice A n cap] w fun e w' => e = .returned (.int .i64 (t.kind c s)) ∧ TabTo w g F w' (t.put c s a) := by
  obtain ⟨ba, br, Da, Dr, hM⟩ := h
  have CK := Lib.hid (fun w' (hf : Fr (fun _ => False) w w') => kind_any (hM.fr hf (fun _ _ h => h)) ok hc hs)
  have CC := Lib.hid (fun w' (hf : Fr (fun _ => False) w w') => clone_any A n cap a w' (hr.fr hf (fun _ _ _ h => h)) hn hb)
  have HM := Lib.hid hM
  have HOK := Lib.hid ok
  have HN := Lib.hid hn
  have HC := Lib.hid hc
  obtain ⟨g0, hg0⟩ : ∃ g0, w.heap.size = g0 := ⟨_, rfl⟩
  obtain ⟨W, hW⟩ : ∃ W, w.alloc (.cells #[.int .i64 c, .int .i64 s] 48) = W := ⟨_, rfl⟩
  have KW : Hid (Bk W g0 48 #[.int .i64 c, .int .i64 s]) := Lib.hid (by rw [← hW, ← hg0]; exact Bk.new _ _ _)
  have FW : Hid (Fr (fun _ => False) w W) := Lib.hid (by rw [← hW]; exact (Fr.refl _ _).alloc _)
  have q0 := KW.out.cell 0
  have q1 := KW.out.cell 1
  obtain ⟨kd, hkd⟩ : ∃ kd, t.kind c s = kd := ⟨_, rfl⟩
  rw [hkd] at CK ⊢
  clear hM ok hc hs hr hn hb
  unfold kyV at CK
  by_cases h0 : kd = 0
  · obtain ⟨hm, _, hns⟩ := DT.kind_new.1 (hkd.trans h0)
    have HPUT : Hid (t.put c s a = (t.keep c s a).forget c) := Lib.hid (by unfold DT.put; rw [if_pos (hkd.trans h0)])
    have HMY := Lib.hid hm
    have HNS := Lib.hid hns
    subst h0
    clear hm hns hkd
    go_enter Try.func9, Try.ntmps9
    go_wp2_with fail
    clear q0 q1 hW
    refine (CK.out W FW.out).mono ?_; rintro e w1 ⟨rfl, hf1⟩
    have HF1 := Lib.hid (FW.out.trans hf1 (fun _ _ h => h))
    have KK := Lib.hid (KW.out.fr hf1 (fun h => h))
    clear hf1 CK
    go_wp2_with fail
    refine wp_region_Z [4] (fun w' => Fr (fun _ => False) w1 w') (by kernel_rfl) ((Fr.refl _ _).drew) (fun hHeld => ?_)
    refine anyZ_pure (i := 0) (v := ?_) (some 19) rfl rfl (by kernel_rfl) (by kernel_rfl) (by kernel_rfl) (by kernel_rfl) (fun _ _ _ h => h) (Or.inl ⟨by rfl, ?_⟩) (fun _ => hHeld) ?_
    rotate_left
    · intro w' _
      go_simp
      first | done | with_reducible rfl
    try simp only [Act.put, List.setIfInBounds_toArray, List.set_cons_zero, List.set_cons_succ]
    refine anyZ_read (i := 1) (v := ?_) (some 20) [4] rfl rfl (by kernel_rfl) (by kernel_rfl) (by kernel_rfl) (by kernel_rfl) (by kernel_rfl) (by kernel_rfl) (fun _ _ _ h => h) (Or.inl ⟨by rfl, ?_⟩) hHeld ?_
    rotate_left
    · intro w' hSw
      have q0 := (KK.out.fr hSw (fun h => h)).cell 0; have q1 := (KK.out.fr hSw (fun h => h)).cell 1
      go_simp
      first | done | with_reducible rfl
    try simp only [Act.put, List.setIfInBounds_toArray, List.set_cons_zero, List.set_cons_succ]
    refine anyZ_pure (i := 2) (v := ?_) (some 21) rfl rfl (by kernel_rfl) (by kernel_rfl) (by kernel_rfl) (by kernel_rfl) (fun _ _ _ h => h) (Or.inl ⟨by rfl, ?_⟩) (fun _ => hHeld) ?_
    rotate_left
    · intro w' _
      go_simp
      first | done | with_reducible rfl
    try simp only [Act.put, List.setIfInBounds_toArray, List.set_cons_zero, List.set_cons_succ]
    refine anyZ_ready (rs := [3]) (by kernel_rfl) (by simp) ?_
    refine AllZ.step rfl (fun K hK => ?_) AllZ.nil
    go_simp
    refine (CC.out _ (HF1.out.trans hHeld (fun _ _ h => h))).mono ?_; rintro e w2 ⟨A2, c2, rfl, ho, hfr⟩
    have HR3 := Lib.hid ((hHeld.trans hfr.1 (fun _ _ h => h)).mono (T := F) (fun _ _ h => h.elim))
    have HO := Lib.hid ho
    have HR2 := Lib.hid (fun k hk => (show w.heap.size ≤ k by have h1 := hfr.2 k hk; have h2 := HF1.out.size; have h3 := hHeld.size; omega))
    have HF2 := Lib.hid (hHeld.trans hfr.1 (fun _ _ h => h))
    clear ho hfr CC
    try go_simp
    refine hK.out _ _ (HF2.out) (fun hHeld => ?_)
    clear hK K
    try change anyZ _ _ _ _ _ _ _ _ (Act.put _ (some 22) _) _
    try simp only [Act.put, List.setIfInBounds_toArray, List.set_cons_zero, List.set_cons_succ]
    refine anyZ_ready (rs := [4]) (by kernel_rfl) (by simp) ?_
    refine AllZ.last rfl (by kernel_rfl) (fun K hK => ?_) AllZ.nil
    go_simp
    have CE := keep_any (FN := fun k => w.heap.size ≤ k ∧ k < w2.heap.size) (HM.out.fr (HF1.out.trans HF2.out (fun _ _ h => h)) (fun _ _ h => h)) HOK.out HMY.out HNS.out (cap := c2) HN.out HO.out.rd (fun ad e _ => ⟨⟨HR2.out _ (HO.out.bk e).1, HO.out.lt (HO.out.bk e).1⟩, (HO.out.bk e).2⟩) (fun k hk => hk.2)
    refine CE.mono ?_; rintro e w3 ⟨rfl, Da1, Dr1, hM1, hf3⟩
    clear CE
    have HM1 := Lib.hid hM1
    have HF3 := Lib.hid hf3
    clear hM1 hf3
    try go_simp
    refine hK.out _ _ ?_
    clear hK K
    try change anyZ _ _ _ _ _ _ _ _ (Act.put _ (some 23) _) _
    try simp only [Act.put, List.setIfInBounds_toArray, List.set_cons_zero, List.set_cons_succ]
    refine anyZ_done (by kernel_rfl) ?_ _
    have hk0 := HOK.out.took0.keep a HMY.out HNS.out
    have CF := Lib.hid (forget_any HM1.out hk0 HC.out (by rw [DT.keep_row, ins_len]; have := HOK.out.len c; have := HOK.out.w2; omega) (by rw [DT.keep_row]; exact List.ne_nil_of_mem ((mem_ins s s).2 (.inl rfl))))
    clear hk0
    go_wp2_with fail
    refine CF.out.mono ?_; rintro e w4 ⟨rfl, Da2, Dr2, hM2, hf4⟩
    have HM2 := Lib.hid hM2
    have HF4 := Lib.hid hf4
    clear hM2 hf4 CF
    go_wp2
    go_ret
    have z1 := HF1.out.size
    have z2 := HR3.out.size
    have z3 := HF3.out.size
    have z4 := HF4.out.size
    refine ⟨rfl, _, ⟨ba, br, Da2, Dr2, by rw [HPUT.out]; exact HM2.out⟩, ?_, fun k hk => ?_⟩
    · exact (((HF1.out.mono (T := F) (fun _ _ h => h.elim)).trans HR3.out (fun _ _ h => h)).trans HF3.out (fun _ _ h => h)).trans HF4.out (fun x hx e => by
        rcases e with e | e | e
        · exact e
        · have := e.1; omega
        · have := e.1; omega)
    · rcases hk with e | e | e
      · exact .inl e
      · exact .inr e.1
      · exact .inr (by have := e.1; omega)
  · have d0 : (kd == 0) = false := by simp [h0]
    have HPUT : Hid (t.put c s a = t) := Lib.hid (by unfold DT.put; rw [if_neg (by rw [hkd]; exact h0)])
    clear h0 hkd
    go_enter Try.func9, Try.ntmps9
    go_wp2_with fail
    clear q0 q1 hW
    refine (CK.out W FW.out).mono ?_; rintro e w1 ⟨rfl, hf1⟩
    have HF1 := Lib.hid (FW.out.trans hf1 (fun _ _ h => h))
    clear hf1 CK
    go_wp2
    go_ret
    refine ⟨rfl, ?_⟩
    rw [HPUT.out]
    exact Tab.to ⟨ba, br, Da, Dr, HM.out⟩ HF1.out

/-- A table that is new. -/
theorem tab_new (w : World) (win : Int) : ∃ W, ((w.alloc (.map #[] 0)).alloc (.map #[] 0)).alloc (.cells #[.int .i64 win, .map (some w.heap.size), .map (some (w.heap.size + 1))] 56) = W ∧ Fr (fun _ => False) w W ∧ Tab W (w.heap.size + 1 + 1) (fun k => w.heap.size ≤ k ∧ k < W.heap.size) (newT win) := by
  refine ⟨_, rfl, (((Fr.refl _ _).alloc _).alloc _).alloc _, w.heap.size, w.heap.size + 1, .map [], .map [], ?_⟩
  have hs : (((w.alloc (.map #[] 0)).alloc (.map #[] 0)).alloc (.cells #[.int .i64 win, .map (some w.heap.size), .map (some (w.heap.size + 1))] 56)).heap.size = w.heap.size + 1 + 1 + 1 := by simp
  have m1 : MV (w.alloc (.map #[] 0)) 48 w.heap.size (.map []) := MV.new w _
  have m2 : MV ((w.alloc (.map #[] 0)).alloc (.map #[] 0)) 3 (w.heap.size + 1) (.map []) := by
    have := MV.new (w.alloc (.map #[] 0)) 3
    simpa using this
  constructor
  · have := Bk.new ((w.alloc (.map #[] 0)).alloc (.map #[] 0)) 56 #[.int .i64 win, .map (some w.heap.size), .map (some (w.heap.size + 1))]
    simpa [newT] using this
  · exact (m1.fr (S := fun _ => False) (((Fr.refl _ _).alloc _).alloc _) (fun h => h))
  · exact (m2.fr (S := fun _ => False) ((Fr.refl _ _).alloc _) (fun h => h))
  · intro c _ _; rfl
  · intro c _ h; exact absurd rfl h
  · intro c c' v v' k _ _ h; exact (h.not rfl).elim
  · intro c s _ _ _; rfl
  · intro c s _ _ h; simp [newT] at h
  · omega
  · rfl
  · rfl
  · rw [hs]; omega
  · rw [hs]; omega
  · rw [hs]; omega
  · intro k hk; exact hk.2

set_option maxRecDepth 100000 in
set_option maxHeartbeats 2000000 in
theorem newT_any (win : Int) (w : World) :
    Calls Try.prog 17 #[.int .i64 win] w fun e w' => ∃ g, e = .returned (.pointer (some ⟨g, 0, none⟩)) ∧ Fr (fun _ => False) w w' ∧ Tab w' g (fun k => w.heap.size ≤ k ∧ k < w'.heap.size) (newT win) := by
  obtain ⟨W, hW, hf, ht⟩ := tab_new w win
  have hmm := @run_makeMap Try.prog
  go_enter Try.func17, Try.ntmps17
  go_wp2
  go_ret
  exact ⟨_, rfl, hf, ht⟩
set_option maxRecDepth 100000 in
set_option maxHeartbeats 2000000 in
theorem newTable_yes (win : Int) (w : World) (h1 : 1 ≤ win) (h2 : win ≤ 4096) :
    Calls Try.prog 8 #[.int .i64 win] w fun e w' => ∃ g, e = .returned (.tuple #[.pointer (some ⟨g, 0, none⟩), .int .i64 0]) ∧ Fr (fun _ => False) w w' ∧ Tab w' g (fun k => w.heap.size ≤ k ∧ k < w'.heap.size) (newT win) := by
  have C := Lib.hid (newT_any win w)
  have d1 : decide (win < 1) = false := decide_eq_false (by omega)
  have d2 : decide (4096 < win) = false := decide_eq_false (by omega)
  go_enter Try.func8, Try.ntmps8
  go_wp2_with fail
  refine C.out.mono ?_; rintro e w1 ⟨g, rfl, hf, ht⟩
  have HF := Lib.hid hf
  have HT := Lib.hid ht
  clear hf ht C
  go_wp2
  go_ret2
  exact ⟨g, rfl, HF.out, HT.out⟩
set_option maxRecDepth 100000 in
set_option maxHeartbeats 2000000 in
theorem newTable_no (win : Int) (w : World) (h : win < 1 ∨ 4096 < win) :
    Calls Try.prog 8 #[.int .i64 win] w fun e w' => e = .returned (.tuple #[.pointer none, .int .i64 1]) ∧ w = w' := by
  by_cases h1 : win < 1
  · have d1 : decide (win < 1) = true := decide_eq_true h1
    go_enter Try.func8, Try.ntmps8
    go_wp2
    go_ret2
    exact ⟨rfl, rfl⟩
  · have d1 : decide (win < 1) = false := decide_eq_false h1
    have d2 : decide (4096 < win) = true := decide_eq_true (by omega)
    go_enter Try.func8, Try.ntmps8
    go_wp2
    go_ret2
    exact ⟨rfl, rfl⟩
end Go.Proofs.Ytdfkoehcmgcoiaa
