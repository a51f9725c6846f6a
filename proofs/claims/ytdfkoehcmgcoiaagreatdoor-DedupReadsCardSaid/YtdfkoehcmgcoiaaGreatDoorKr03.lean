import Derived.Test.YtdfkoehcmgcoiaaGreatDoorKr02
import Derived.Laws.BytesArg
import Derived.Lib.SlBytesConst

/- dedup: Look. -/
namespace Go.Proofs.YtdfkoehcmgcoiaaGreatDoor
open Go.RowKit Go.Maps

/-- The answer that a request has. -/
def DT.look (t : DT) (c s : Int) : List UInt8 := if s ∈ t.row c then t.ans c s else []
/-- No answer is longer than B. -/
def DT.small (t : DT) (B : Nat) : Prop := ∀ c s, s ∈ t.row c → (t.ans c s).length ≤ B
theorem DT.small.look {t : DT} {B : Nat} (h : t.small B) (c s : Int) : (t.look c s).length ≤ B := by
  unfold DT.look; split
  · exact h c s (by assumption)
  · simp
theorem TabM.lookA {g ba br : Nat} {F : Nat → Prop} {t : DT} {Da Dr : DV} {w : World} (h : TabM w g ba br F t Da Dr) {c s : Int} (hc : I64 c) (hs : I64 s) :
    ∃ A cap, ∀ w', Fr (fun _ => False) w w' → ∀ ok, (Instr.lookup 77 (.map (some ba)) (kyV c s) ok).run Tryz.prog w' = .ok (if ok then .tuple #[.slice A (t.look c s).length cap, .bool (decide (s ∈ t.row c))] else .slice A (t.look c s).length cap) w' ∧ Rd8 w' A (t.look c s) ∧ ∀ ad, A = some ad → 0 < (t.look c s).length → F ad.block := by
  by_cases hm : s ∈ t.row c
  · obtain ⟨A, cap, h1, h2, h3⟩ := h.ans c s hc hs hm
    have e : t.look c s = t.ans c s := if_pos hm
    rw [e]
    refine ⟨A, cap, fun w' hf ok => ⟨?_, h2.fr hf (fun _ _ _ h => h), fun ad e h0 => (h3 ad e h0).1⟩⟩
    have := (h.ma.fr hf (fun h => h)).at1 kKey tKey (zeroAns w') (ky_of hc hs) h1
    cases ok
    · exact this.2
    · rw [decide_eq_true hm]; exact this.1
  · have e : t.look c s = [] := if_neg hm
    rw [e]
    refine ⟨none, 0, fun w' hf ok => ⟨?_, Rd8.nil _ _, fun ad e => by cases e⟩⟩
    have := (h.ma.fr hf (fun h => h)).at0 kKey tKey (zeroAns w') (ky_of hc hs) (h.noAns c s hc hs hm)
    cases ok
    · exact this.2
    · rw [decide_eq_false hm]; exact this.1

set_option maxRecDepth 100000 in
set_option maxHeartbeats 4000000 in
theorem look_any {g ba br : Nat} {F : Nat → Prop} {t : DT} {Da Dr : DV} {w : World} (h : TabM w g ba br F t Da Dr) (ok : t.ok) (sm : t.small 140737488355328) {c s : Int} (hc : I64 c) (hs : I64 s) :
    Calls Tryz.prog 15 #[.pointer (some ⟨g, 0, none⟩), .int .i64 c, .int .i64 s] w fun e w' => ∃ A' c', e = .returned (.tuple #[.int .i64 (t.kind c s), .slice A' (t.look c s).length c']) ∧ Own8 w' 5 (.slice A' (t.look c s).length c') (t.look c s) ∧ Fresh w w' (.slice A' (t.look c s).length c') := by
  have CK := Lib.hid (fun w' (hf : Fr (fun _ => False) w w') => kind_any (h.fr hf (fun _ _ h => h)) ok hc hs)
  obtain ⟨A, cap, hlk⟩ := h.lookA hc hs
  have hsm := sm.look c s
  have HLK := Lib.hid (fun w' (hf : Fr (fun _ => False) w w') => (hlk w' hf false).1)
  have HB := Lib.hid h.blk
  have CC := Lib.hid (fun w' (hf : Fr (fun _ => False) w w') => clone_any A (t.look c s).length cap (t.look c s) w' (hlk w' hf false).2.1 rfl hsm)
  generalize t.look c s = xs at *
  generalize t.kind c s = kd at *
  obtain ⟨n, hn⟩ : ∃ n, xs.length = n := ⟨_, rfl⟩
  rw [hn] at HLK CC ⊢
  obtain ⟨g0, hg0⟩ : ∃ g0, w.heap.size = g0 := ⟨_, rfl⟩
  obtain ⟨W, hW⟩ : ∃ W, w.alloc (.cells #[.int .i64 c, .int .i64 s] 57) = W := ⟨_, rfl⟩
  have KW : Hid (Bk W g0 57 #[.int .i64 c, .int .i64 s]) := Lib.hid (by rw [← hW, ← hg0]; exact Bk.new _ _ _)
  have FW : Hid (Fr (fun _ => False) w W) := Lib.hid (by rw [← hW]; exact (Fr.refl _ _).alloc _)
  have HC : Hid (∀ w', Fr (fun _ => False) W w' → w'.cell? ⟨g0, 0, none⟩ = some (.int .i64 c) ∧ w'.cell? ⟨g0, 1, none⟩ = some (.int .i64 s) ∧ w'.cell? ⟨g, 1, none⟩ = some (.map (some ba)) ∧ (Instr.lookup 77 (.map (some ba)) (.agg #[.int .i64 c, .int .i64 s]) false).run Tryz.prog w' = .ok (.slice A n cap) w') := Lib.hid (fun w' hf => by
    have g1 := KW.out.fr hf (fun h => h)
    have g2 := HB.out.fr (FW.out.trans hf (fun _ _ h => h)) (fun h => h)
    exact ⟨g1.cell 0, g1.cell 1, g2.cell 1, HLK.out w' (FW.out.trans hf (fun _ _ h => h))⟩)
  clear h ok sm hlk hsm hn hc hs HLK HB
  unfold kyV at CK
  go_enter Tryz.func15, Tryz.ntmps15
  go_wp2_with fail
  clear hW hg0
  refine wp_region_Z [9] (fun w' => Fr (fun _ => False) W w') (by kernel_rfl) ((Fr.refl _ _).drew) (fun hHeld => ?_)
  refine anyZ_pure (i := 0) (v := ?_) (some 12) rfl rfl (by kernel_rfl) (by kernel_rfl) (by kernel_rfl) (by kernel_rfl) (fun _ _ _ h => h) (Or.inl ⟨by rfl, ?_⟩) (fun _ => hHeld) ?_
  rotate_left
  · intro w' _
    go_simp
    first | done | with_reducible rfl
  try simp only [Act.put, List.setIfInBounds_toArray, List.set_cons_zero, List.set_cons_succ]
  refine anyZ_read (i := 1) (v := ?_) (some 13) [2, 9, 10, 11] rfl rfl (by kernel_rfl) (by kernel_rfl) (by kernel_rfl) (by kernel_rfl) (by kernel_rfl) (by kernel_rfl) (fun _ _ _ h => h) (Or.inl ⟨by rfl, ?_⟩) hHeld ?_
  rotate_left
  · intro w' hSw
    obtain ⟨x0, x1, x2, x3⟩ := HC.out w' hSw
    go_simp
    first | done | with_reducible rfl
  try simp only [Act.put, List.setIfInBounds_toArray, List.set_cons_zero, List.set_cons_succ]
  refine anyZ_pure (i := 3) (v := ?_) (some 15) rfl rfl (by kernel_rfl) (by kernel_rfl) (by kernel_rfl) (by kernel_rfl) (fun _ _ _ h => h) (Or.inl ⟨by rfl, ?_⟩) (fun _ => hHeld) ?_
  rotate_left
  · intro w' _
    go_simp
    first | done | with_reducible rfl
  try simp only [Act.put, List.setIfInBounds_toArray, List.set_cons_zero, List.set_cons_succ]
  refine anyZ_pure (i := 4) (v := ?_) (some 16) rfl rfl (by kernel_rfl) (by kernel_rfl) (by kernel_rfl) (by kernel_rfl) (fun _ _ _ h => h) (Or.inl ⟨by rfl, ?_⟩) (fun _ => hHeld) ?_
  rotate_left
  · intro w' _
    go_simp
    first | done | with_reducible rfl
  try simp only [Act.put, List.setIfInBounds_toArray, List.set_cons_zero, List.set_cons_succ]
  refine anyZ_pure (i := 5) (v := ?_) (some 17) rfl rfl (by kernel_rfl) (by kernel_rfl) (by kernel_rfl) (by kernel_rfl) (fun _ _ _ h => h) (Or.inl ⟨by rfl, ?_⟩) (fun _ => hHeld) ?_
  rotate_left
  · intro w' _
    go_simp
    first | done | with_reducible rfl
  try simp only [Act.put, List.setIfInBounds_toArray, List.set_cons_zero, List.set_cons_succ]
  refine anyZ_read (i := 6) (v := ?_) (some 18) [8, 9, 10, 11] rfl rfl (by kernel_rfl) (by kernel_rfl) (by kernel_rfl) (by kernel_rfl) (by kernel_rfl) (by kernel_rfl) (fun _ _ _ h => h) (Or.inl ⟨by rfl, ?_⟩) hHeld ?_
  rotate_left
  · intro w' hSw
    obtain ⟨x0, x1, x2, x3⟩ := HC.out w' hSw
    go_simp
    first | done | with_reducible rfl
  try simp only [Act.put, List.setIfInBounds_toArray, List.set_cons_zero, List.set_cons_succ]
  refine anyZ_read (i := 7) (v := ?_) (some 19) [8, 9, 10, 11] rfl rfl (by kernel_rfl) (by kernel_rfl) (by kernel_rfl) (by kernel_rfl) (by kernel_rfl) (by kernel_rfl) (fun _ _ _ h => h) (Or.inl ⟨by rfl, ?_⟩) hHeld ?_
  rotate_left
  · intro w' hSw
    obtain ⟨x0, x1, x2, x3⟩ := HC.out w' hSw
    go_simp
    first | done | with_reducible rfl
  try simp only [Act.put, List.setIfInBounds_toArray, List.set_cons_zero, List.set_cons_succ]
  refine anyZ_read (i := 8) (v := ?_) (some 20) [9, 10, 11] rfl rfl (by kernel_rfl) (by kernel_rfl) (by kernel_rfl) (by kernel_rfl) (by kernel_rfl) (by kernel_rfl) (fun _ _ _ h => h) (Or.inl ⟨by rfl, ?_⟩) hHeld ?_
  rotate_left
  · intro w' hSw
    obtain ⟨x0, x1, x2, x3⟩ := HC.out w' hSw
    go_simp
    first | done | with_reducible rfl
  try simp only [Act.put, List.setIfInBounds_toArray, List.set_cons_zero, List.set_cons_succ]
  refine anyZ_ready (rs := [2]) (by kernel_rfl) (by simp) ?_
  refine AllZ.step rfl (fun K hK => ?_) AllZ.nil
  go_simp
  refine (CK.out _ (FW.out.trans hHeld (fun _ _ h => h))).mono ?_; rintro e w2 ⟨rfl, hf2⟩
  have HF2 := Lib.hid (hHeld.trans hf2 (fun _ _ h => h))
  clear hf2
  try go_simp
  refine hK.out _ _ (HF2.out) (fun hHeld => ?_)
  clear hK K
  try change anyZ _ _ _ _ _ _ _ _ (Act.put _ (some 14) _) _
  try simp only [Act.put, List.setIfInBounds_toArray, List.set_cons_zero, List.set_cons_succ]
  refine anyZ_ready (rs := [9]) (by kernel_rfl) (by simp) ?_
  refine AllZ.last rfl (by kernel_rfl) (fun K hK => ?_) AllZ.nil
  go_simp
  refine (CC.out _ (FW.out.trans hHeld (fun _ _ h => h))).mono ?_; rintro e w9 ⟨A', c', rfl, ho, hfr⟩
  have HO := Lib.hid ho
  have HR := Lib.hid (hfr.1)
  have HR2 := Lib.hid (hfr.2)
  have HH := Lib.hid hHeld
  clear ho hfr
  try go_simp
  refine hK.out _ _ ?_
  clear hK K
  try change anyZ _ _ _ _ _ _ _ _ (Act.put _ (some 21) _) _
  try simp only [Act.put, List.setIfInBounds_toArray, List.set_cons_zero, List.set_cons_succ]
  refine anyZ_pure (i := 10) (v := ?_) (some 6) rfl rfl (by kernel_rfl) (by kernel_rfl) (by kernel_rfl) (by kernel_rfl) (fun _ _ _ h => h) (Or.inl ⟨by rfl, ?_⟩) (notYet (by kernel_rfl)) ?_
  rotate_left
  · intro w' _
    go_simp
    first | done | with_reducible rfl
  try simp only [Act.put, List.setIfInBounds_toArray, List.set_cons_zero, List.set_cons_succ]
  refine anyZ_pure (i := 11) (v := ?_) (some 7) rfl rfl (by kernel_rfl) (by kernel_rfl) (by kernel_rfl) (by kernel_rfl) (fun _ _ _ h => h) (Or.inl ⟨by rfl, ?_⟩) (notYet (by kernel_rfl)) ?_
  rotate_left
  · intro w' _
    go_simp
    first | done | with_reducible rfl
  try simp only [Act.put, List.setIfInBounds_toArray, List.set_cons_zero, List.set_cons_succ]
  refine anyZ_done (by kernel_rfl) ?_ _
  go_wp2
  go_ret2
  refine ⟨A', c', rfl, HO.out, (FW.out.trans HH.out (fun _ _ h => h)).trans HR.out (fun _ _ h => h), fun k hk => ?_⟩
  have := HR2.out k hk
  have := (FW.out.trans HH.out (fun _ _ h => h)).size
  omega
end Go.Proofs.YtdfkoehcmgcoiaaGreatDoor

/- What becomes of a table in memory behind keep. -/
namespace Go.Proofs.YtdfkoehcmgcoiaaGreatDoor
open Go.RowKit Go.Maps

theorem lit_ne {c x : Int} (h : x ≠ c) : (Lit.int .i64 x) ≠ .int .i64 c := by intro e; injection e with _ e; exact h e
theorem MV.update {w : World} {k t e : TypeId} {b : Nat} {D : DV} (h : MV w k b D) (K : Keyed Tryz.prog k) (ht : Tryz.prog.underlying t = some (.map k e)) (hn : Maps.size D < 9223372036854775807) {key val : Value} {kl : Lit} (hkey : keyOf Tryz.prog k key = some kl) :
    ∃ w', (Instr.mapUpdate t (.map (some b)) key val).run Tryz.prog w = .ok () w' ∧ MV w' k b (D.put kl (.held val)) ∧ Fr (fun x => x = b) w w' := by
  obtain ⟨w', h1, h2, h3⟩ := World.ownsMap.update h K ht (by unfold maxLen; exact hn) hkey (val := val) (d := .held val) (ps := []) rfl
  exact ⟨w', h1, MV.of h2, (Fr.of_grown h3).mono (fun _ _ e => (Option.some.inj e).symm)⟩
theorem Row.block {w : World} {v : Value} {r : List Int} (h : RI w v r) {k : Nat} (hk : v.ownBlock = some k) : ∃ cur, Bk w k 3 cur := Row.bk h hk
theorem RI.block_ne {w : World} {v : Value} {r : List Int} {b : Nat} {k : TypeId} {D : DV} (h : RI w v r) (hm : MV w k b D) : v.ownBlock ≠ some b := fun e => by
  obtain ⟨cur, hb⟩ := Row.bk h e
  exact hm.ne hb rfl
theorem DT.keep_row {t : DT} {c s : Int} (a : List UInt8) : (t.keep c s a).row c = insS (t.row c) s := by unfold DT.keep; simp
theorem DT.keep_row' {t : DT} {c s x : Int} (a : List UInt8) (h : x ≠ c) : (t.keep c s a).row x = t.row x := by unfold DT.keep; simp [h]
theorem DT.keep_ans {t : DT} {c s : Int} (a : List UInt8) : (t.keep c s a).ans c s = a := by unfold DT.keep; simp
theorem DT.keep_ans' {t : DT} {c s x y : Int} (a : List UInt8) (h : ¬ (x = c ∧ y = s)) : (t.keep c s a).ans x y = t.ans x y := by
  show (if x = c ∧ y = s then a else t.ans x y) = _
  rw [if_neg h]
theorem DT.keep_mem {t : DT} {c s x y : Int} (a : List UInt8) : y ∈ (t.keep c s a).row x ↔ (x = c ∧ y = s) ∨ y ∈ t.row x := by
  by_cases h : x = c
  · subst h; rw [DT.keep_row, mem_ins]; simp
  · rw [DT.keep_row' a h]; simp [h]

theorem TabM.kept {g ba br : Nat} {F FN : Nat → Prop} {t : DT} {Da Dr : DV} {w w1 w2 w3 : World} (h : TabM w g ba br F t Da Dr) (ok : t.ok0) {c s : Int} (hc : I64 c) (hs : I64 s) (hns : s ∉ t.row c) {v v' : Value} {A : Option Addr} {cap : Nat} {a : List UInt8}
    (hv : (t.row c ≠ [] → At Dr (.int .i64 c) v ∧ ∀ k, v.ownBlock = some k → F k) ∧ (t.row c = [] → v = .slice none 0 0)) (hrv : RI w v (t.row c))
    (hma : MV w1 57 ba (Da.put (ky c s) (.held (.slice A a.length cap)))) (f1 : Fr (fun k => k = ba) w w1)
    (hri : RI w2 v' (insS (t.row c) s)) (f2 : Fr (fun k => v.ownBlock = some k) w1 w2) (hmv : Moved w v v')
    (hmr : MV w3 3 br (Dr.put (.int .i64 c) (.held v'))) (f3 : Fr (fun k => k = br) w2 w3)
    (hA : Rd8 w A a) (hAb : ∀ ad, A = some ad → 0 < a.length → FN ad.block ∧ ∃ cs, Bk w ad.block 5 cs) (hFN : ∀ k, FN k → k < w.heap.size) :
    TabM w3 g ba br (fun k => F k ∨ FN k ∨ (w.heap.size ≤ k ∧ k < w3.heap.size)) (t.keep c s a) (Da.put (ky c s) (.held (.slice A a.length cap))) (Dr.put (.int .i64 c) (.held v')) ∧ Fr F w w3 := by
  have hvF : ∀ k, v.ownBlock = some k → F k := fun k hk => by
    by_cases hr : t.row c = []
    · rw [hv.2 hr] at hk; simp [Value.ownBlock] at hk
    · exact (hv.1 hr).2 k hk
  have f13 : Fr (fun k => k = ba ∨ v.ownBlock = some k ∨ k = br) w w3 :=
    ((f1.mono (T := fun k => k = ba ∨ v.ownBlock = some k ∨ k = br) (fun _ _ e => .inl e)).trans f2 (fun _ _ e => .inr (.inl e))).trans f3 (fun _ _ e => .inr (.inr e))
  have s1 := f1.size
  have s2 := f2.size
  have s3 := f3.size
  have vb := hrv.block_ne h.ma
  have vr := hrv.block_ne h.mr
  have bne : ∀ {k : Nat} {T : TypeId} {cs : Array Value}, Bk w k T cs → T ≠ 3 → ¬ (k = ba ∨ v.ownBlock = some k ∨ k = br) := fun hb hT => by
    rintro (e | e | e)
    · exact h.ma.ne hb e
    · exact Row.ne hrv hb (fun e => hT e.symm) e
    · exact h.mr.ne hb e
  have hold : ∀ c', I64 c' → c' ≠ c → ∀ v0, At Dr (.int .i64 c') v0 → ∀ k, v0.ownBlock = some k → v.ownBlock ≠ some k := fun c' hc' hne v0 h0 k hk e => by
    by_cases hr : t.row c = []
    · rw [hv.2 hr] at e; simp [Value.ownBlock] at e
    · exact hne (h.apart c' c v0 v k hc' hc h0 (hv.1 hr).1 hk e)
  have hatF : ∀ c', I64 c' → ∀ v0, At Dr (.int .i64 c') v0 → ∀ k, v0.ownBlock = some k → F k := fun c' hc' v0 h0 k hk => by
    by_cases hr : t.row c' = []
    · exact (h0.not (h.noRow c' hc' hr)).elim
    · obtain ⟨v1, h1, h2, h3⟩ := h.row c' hc' hr
      rw [h0.one h1] at hk
      exact h3 k hk
  have hnew : ∀ k, v'.ownBlock = some k → v.ownBlock = some k ∨ w.heap.size ≤ k := fun k hk => by
    rcases hmv with e | ⟨x, e, hx⟩
    · exact .inl (e ▸ hk)
    · rw [e] at hk; injection hk with hk; exact .inr (by omega)
  have hri3 : RI w3 v' (insS (t.row c) s) := Row.fr hri f3 (fun k hk e => by
    subst e
    rcases hnew k hk with e | e
    · exact vr e
    · have := h.mr.lt; omega)
  have hlt' : ∀ k, v'.ownBlock = some k → k < w3.heap.size := fun k hk => Row.lt hri3 hk
  refine ⟨?_, f13.mono (fun k _ e => ?_)⟩
  · constructor
    · exact h.blk.fr f13 (bne h.blk (by decide))
    · exact (hma.fr f2 vb).fr f3 h.ab
    · exact hmr
    · intro x hx hr
      have hxc : x ≠ c := by
        rintro rfl
        rw [DT.keep_row] at hr
        exact List.ne_nil_of_mem ((mem_ins s s).2 (.inl rfl)) hr
      rw [DT.keep_row' a hxc] at hr
      rw [has_put_other (lit_ne hxc)]
      exact h.noRow x hx hr
    · intro x hx hr
      by_cases hxc : x = c
      · subst hxc
        refine ⟨v', At.put h.mr (i_key x) v', by rw [DT.keep_row]; exact hri3, fun k hk => ?_⟩
        rcases hnew k hk with e | e
        · exact .inl (hvF k e)
        · exact .inr (.inr ⟨e, hlt' k hk⟩)
      · rw [DT.keep_row' a hxc] at hr ⊢
        obtain ⟨v0, h1, h2, h3⟩ := h.row x hx hr
        refine ⟨v0, h1.put_ne (lit_ne hxc), Row.fr h2 f13 (fun k hk e => ?_), fun k hk => .inl (h3 k hk)⟩
        rcases e with e | e | e
        · exact h2.block_ne h.ma (e ▸ hk)
        · exact hold x hx hxc v0 h1 k hk e
        · exact h2.block_ne h.mr (e ▸ hk)
    · intro x y v1 v2 k hx hy h1 h2 hk1 hk2
      have back : ∀ z, I64 z → z ≠ c → ∀ u, At (Dr.put (.int .i64 c) (.held v')) (.int .i64 z) u → At Dr (.int .i64 z) u := fun z _ hz u hu =>
        ⟨(has_put_other (lit_ne hz) _).symm.trans hu.1, fun q => (atKey_put_other (lit_ne hz) _ q).symm.trans (hu.2 q)⟩
      by_cases hxc : x = c
      · by_cases hyc : y = c
        · rw [hxc, hyc]
        · subst hxc
          have e1 : v1 = v' := h1.one (At.put h.mr (i_key x) v')
          subst e1
          have h2' := back y hy hyc v2 h2
          rcases hnew k hk1 with e | e
          · exact absurd e (hold y hy hyc v2 h2' k hk2)
          · have := h.flt k (hatF y hy v2 h2' k hk2); omega
      · by_cases hyc : y = c
        · subst hyc
          have e1 : v2 = v' := h2.one (At.put h.mr (i_key y) v')
          subst e1
          have h1' := back x hx hxc v1 h1
          rcases hnew k hk2 with e | e
          · exact absurd e (hold x hx hxc v1 h1' k hk1)
          · have := h.flt k (hatF x hx v1 h1' k hk1); omega
        · exact h.apart x y v1 v2 k hx hy (back x hx hxc v1 h1) (back y hy hyc v2 h2) hk1 hk2
    · intro x y hx hy hm
      rw [DT.keep_mem] at hm
      have hne : ¬ (x = c ∧ y = s) := fun e => hm (.inl e)
      rw [has_put_other (fun e => hne (ky_inj hx hy hc hs e))]
      exact h.noAns x y hx hy (fun e => hm (.inr e))
    · intro x y hx hy hm
      by_cases hxy : x = c ∧ y = s
      · obtain ⟨rfl, rfl⟩ := hxy
        rw [DT.keep_ans]
        refine ⟨A, cap, At.put h.ma (ky_key hx hy) _, hA.fr f13 (fun ad e h0 => ?_), fun ad e h0 => ?_⟩
        · obtain ⟨_, cs, hb⟩ := hAb ad e h0
          exact bne hb (by decide)
        · obtain ⟨h1, cs, hb⟩ := hAb ad e h0
          exact ⟨.inr (.inl h1), cs, hb.fr f13 (bne hb (by decide))⟩
      · rw [DT.keep_mem] at hm
        obtain ⟨A0, cap0, h1, h2, h3⟩ := h.ans x y hx hy (hm.resolve_left hxy)
        rw [DT.keep_ans' a hxy]
        refine ⟨A0, cap0, h1.put_ne (fun e => hxy (ky_inj hx hy hc hs e)), h2.fr f13 (fun ad e h0 => ?_), fun ad e h0 => ?_⟩
        · obtain ⟨_, cs, hb⟩ := h3 ad e h0
          exact bne hb (by decide)
        · obtain ⟨h4, cs, hb⟩ := h3 ad e h0
          exact ⟨.inl h4, cs, hb.fr f13 (bne hb (by decide))⟩
    · exact h.ab
    · rw [size_put (h.mr.tidy kInt), DT.keep_cs ok]
      by_cases hr : t.row c = []
      · rw [if_pos hr, h.noRow c hc hr, h.sr]; simp
      · obtain ⟨v0, h1, _⟩ := h.row c hc hr
        rw [if_neg hr, h1.1, h.sr]; simp
    · rw [size_put (h.ma.tidy kKey), DT.keep_n ok, h.noAns c s hc hs hns, h.sa]; simp
    · exact .inl h.fg
    · exact .inl h.fa
    · exact .inl h.fb
    · rintro k (e | e | e)
      · have := h.flt k e; omega
      · have := hFN k e; omega
      · exact e.2
  · rcases e with e | e | e
    · rw [e]; exact h.fa
    · exact hvF k e
    · rw [e]; exact h.fb
end Go.Proofs.YtdfkoehcmgcoiaaGreatDoor

/- dedup: keep. -/
namespace Go.Proofs.YtdfkoehcmgcoiaaGreatDoor
open Go.RowKit Go.Maps

set_option maxRecDepth 100000 in
set_option maxHeartbeats 8000000 in
theorem keep_any {g ba br : Nat} {F FN : Nat → Prop} {t : DT} {Da Dr : DV} {w : World} (h : TabM w g ba br F t Da Dr) (ok : t.ok) {c s : Int} (hm : mayR c s = true) (hns : s ∉ t.row c) {A : Option Addr} {n cap : Nat} {a : List UInt8} (hn : a.length = n)
    (hA : Rd8 w A a) (hAb : ∀ ad, A = some ad → 0 < a.length → FN ad.block ∧ ∃ cs, Bk w ad.block 5 cs) (hFN : ∀ k, FN k → k < w.heap.size) :
    Calls Tryz.prog 19 #[.pointer (some ⟨g, 0, none⟩), kyV c s, .slice A n cap] w fun e w' => e = .returned (.tuple #[]) ∧ ∃ Da' Dr', TabM w' g ba br (fun k => F k ∨ FN k ∨ (w.heap.size ≤ k ∧ k < w'.heap.size)) (t.keep c s a) Da' Dr' ∧ Fr F w w' := by
  subst hn
  have hms := DT.mayR_iff.1 hm
  have hc : I64 c := I64.of (by omega) (by omega)
  have hs : I64 s := I64.of (by omega) (by omega)
  have hlen : (t.row c).length ≤ 4096 := by have := ok.len c; have := ok.w2; omega
  have hsa : Maps.size Da < 9223372036854775807 := by rw [h.sa]; have := ok.n_le; omega
  have hsr : Maps.size Dr < 9223372036854775807 := by rw [h.sr]; have := ok.cs_len; omega
  obtain ⟨v, hv1, hv2, hv3⟩ := h.lookR hc
  have hrv := (hv1 w (Fr.refl _ _)).2
  obtain ⟨g0, hg0⟩ : ∃ g0, w.heap.size = g0 := ⟨_, rfl⟩
  obtain ⟨W, hW⟩ : ∃ W, w.alloc (.cells #[.int .i64 c, .int .i64 s] 57) = W := ⟨_, rfl⟩
  have KW : Hid (Bk W g0 57 #[.int .i64 c, .int .i64 s]) := Lib.hid (by rw [← hW, ← hg0]; exact Bk.new _ _ _)
  have FW : Hid (Fr (fun _ => False) w W) := Lib.hid (by rw [← hW]; exact (Fr.refl _ _).alloc _)
  have HB := Lib.hid (h.blk.fr FW.out (fun h => h))
  -- behind the answers' map
  have HMA : Hid (∀ w', Fr (fun _ => False) W w' → ∃ w1, (Instr.mapUpdate 77 (.map (some ba)) (.agg #[.int .i64 c, .int .i64 s]) (.slice A a.length cap)).run Tryz.prog w' = .ok () w1 ∧ MV w1 57 ba (Da.put (ky c s) (.held (.slice A a.length cap))) ∧ Fr (fun x => x = ba) w' w1) := Lib.hid (fun w' hf =>
    (h.ma.fr (FW.out.trans hf (fun _ _ h => h)) (fun h => h)).update kKey tKey hsa (ky_of hc hs))
  have HRO : Hid (∀ w', Fr (fun k => k = ba) W w' → (Instr.lookup 78 (.map (some br)) (.int .i64 c) false).run Tryz.prog w' = .ok v w' ∧ RI w' v (t.row c)) := Lib.hid (fun w' hf => by
    have f : Fr (fun k => k = ba) w w' := (FW.out.mono (fun _ _ h => h.elim)).trans hf (fun _ _ h => h)
    have hmr := h.mr.fr f (fun e => h.ab e.symm)
    by_cases hr : t.row c = []
    · have := hv3 hr
      subst this
      refine ⟨(hmr.at0 kInt tRow (zeroRow w') hc.key (h.noRow c hc hr)).2, ?_⟩
      rw [hr]; exact Row.nil _ _ _
    · refine ⟨(hmr.at1 kInt tRow (zeroRow w') hc.key (hv2 hr).1).2, Row.fr hrv f (fun k hk e => hrv.block_ne h.ma (e ▸ hk))⟩)
  have HMR : Hid (∀ w' v', Fr (fun k => k = ba ∨ v.ownBlock = some k) W w' → ∃ w1, (Instr.mapUpdate 78 (.map (some br)) (.int .i64 c) v').run Tryz.prog w' = .ok () w1 ∧ MV w1 3 br (Dr.put (.int .i64 c) (.held v')) ∧ Fr (fun x => x = br) w' w1) := Lib.hid (fun w' v' hf =>
    (h.mr.fr ((FW.out.mono (T := fun k => k = ba ∨ v.ownBlock = some k) (fun _ _ h => h.elim)).trans hf (fun _ _ h => h)) (by
      rintro (e | e)
      · exact h.ab e.symm
      · exact hrv.block_ne h.mr e)).update kInt tRow hsr hc.key)
  have HX : Hid (g0 ≠ ba ∧ g ≠ ba ∧ v.ownBlock ≠ some g0 ∧ v.ownBlock ≠ some g) := Lib.hid ⟨by have := h.ma.lt; omega, h.ma.ne h.blk, fun e => by have := Row.lt hrv e; omega, Row.ne hrv h.blk (by decide)⟩
  have HEND := Lib.hid (fun w1 w2 w3 v' hma f1 hri f2 hmv hmr f3 => TabM.kept (w1 := w1) (w2 := w2) (w3 := w3) (v' := v') (cap := cap) h ok.took0 hc hs hns ⟨hv2, hv3⟩ hrv hma f1 hri f2 hmv hmr f3 hA hAb hFN)
  have HSZ := Lib.hid (fun e : v.ownBlock = some W.heap.size => (show False by have := Row.lt hrv e; have := FW.out.size; omega))
  have HRS := Lib.hid (ok.rise c)
  generalize t.row c = r at *
  have HLEN := Lib.hid hlen
  clear h ok hm hns hA hAb hFN hms hc hs hlen hsa hsr hv1 hv2 hv3 hrv
  unfold kyV
  go_enter Tryz.func19, Tryz.ntmps19
  go_wp2_with fail
  clear hW
  have HG0 := Lib.hid hg0
  clear hg0
  refine wp_region_Z [6] (fun w' => Fr (fun _ => False) W w') (by kernel_rfl) ((Fr.refl _ _).drew) (fun hHeld => ?_)
  refine anyZ_pure (i := 0) (v := ?_) (some 9) rfl rfl (by kernel_rfl) (by kernel_rfl) (by kernel_rfl) (by kernel_rfl) (fun _ _ _ h => h) (Or.inl ⟨by rfl, ?_⟩) (fun _ => hHeld) ?_
  rotate_left
  · intro w' _
    go_simp
    first | done | with_reducible rfl
  try simp only [Act.put, List.setIfInBounds_toArray, List.set_cons_zero, List.set_cons_succ]
  refine anyZ_pure (i := 1) (v := ?_) (some 10) rfl rfl (by kernel_rfl) (by kernel_rfl) (by kernel_rfl) (by kernel_rfl) (fun _ _ _ h => h) (Or.inl ⟨by rfl, ?_⟩) (fun _ => hHeld) ?_
  rotate_left
  · intro w' _
    go_simp
    first | done | with_reducible rfl
  try simp only [Act.put, List.setIfInBounds_toArray, List.set_cons_zero, List.set_cons_succ]
  refine anyZ_pure (i := 2) (v := ?_) (some 11) rfl rfl (by kernel_rfl) (by kernel_rfl) (by kernel_rfl) (by kernel_rfl) (fun _ _ _ h => h) (Or.inl ⟨by rfl, ?_⟩) (fun _ => hHeld) ?_
  rotate_left
  · intro w' _
    go_simp
    first | done | with_reducible rfl
  try simp only [Act.put, List.setIfInBounds_toArray, List.set_cons_zero, List.set_cons_succ]
  refine anyZ_read (i := 3) (v := ?_) (some 12) [6] rfl rfl (by kernel_rfl) (by kernel_rfl) (by kernel_rfl) (by kernel_rfl) (by kernel_rfl) (by kernel_rfl) (fun _ _ _ h => h) (Or.inl ⟨by rfl, ?_⟩) hHeld ?_
  rotate_left
  · intro w' hSw
    have q0 := (KW.out.fr hSw (fun h => h)).cell 0; have q1 := (KW.out.fr hSw (fun h => h)).cell 1; have q2 := (HB.out.fr hSw (fun h => h)).cell 1
    go_simp
    first | done | with_reducible rfl
  try simp only [Act.put, List.setIfInBounds_toArray, List.set_cons_zero, List.set_cons_succ]
  refine anyZ_read (i := 4) (v := ?_) (some 13) [6] rfl rfl (by kernel_rfl) (by kernel_rfl) (by kernel_rfl) (by kernel_rfl) (by kernel_rfl) (by kernel_rfl) (fun _ _ _ h => h) (Or.inl ⟨by rfl, ?_⟩) hHeld ?_
  rotate_left
  · intro w' hSw
    have q0 := (KW.out.fr hSw (fun h => h)).cell 0; have q1 := (KW.out.fr hSw (fun h => h)).cell 1; have q2 := (HB.out.fr hSw (fun h => h)).cell 1
    go_simp
    first | done | with_reducible rfl
  try simp only [Act.put, List.setIfInBounds_toArray, List.set_cons_zero, List.set_cons_succ]
  refine anyZ_pure (i := 5) (v := ?_) (some 14) rfl rfl (by kernel_rfl) (by kernel_rfl) (by kernel_rfl) (by kernel_rfl) (fun _ _ _ h => h) (Or.inl ⟨by rfl, ?_⟩) (fun _ => hHeld) ?_
  rotate_left
  · intro w' _
    go_simp
    first | done | with_reducible rfl
  try simp only [Act.put, List.setIfInBounds_toArray, List.set_cons_zero, List.set_cons_succ]
  refine anyZ_ready (rs := [6]) (by kernel_rfl) (by simp) ?_
  refine AllZ.last rfl (by kernel_rfl) (fun K hK => ?_) AllZ.nil
  obtain ⟨w1, hrun, hm1, hf1⟩ := HMA.out _ hHeld
  go_simp
  have HM1 := Lib.hid hm1
  have HF1 := Lib.hid (hHeld.mono (T := fun k => k = ba) (fun _ _ h => h.elim) |>.trans hf1 (fun _ _ h => h))
  clear hm1 hf1 hrun hHeld
  refine hK.out _ _ ?_
  clear hK K
  try change anyZ _ _ _ _ _ _ _ _ (Act.put _ none _) _
  try simp only [Act.put, List.setIfInBounds_toArray, List.set_cons_zero, List.set_cons_succ]
  refine anyZ_done (by kernel_rfl) ?_ _
  have q2 : w1.cell? ⟨g, 2, none⟩ = some (.map (some br)) := (HB.out.fr HF1.out HX.out.2.1).cell 2
  have q0 : w1.cell? ⟨g0, 0, none⟩ = some (.int .i64 c) := (KW.out.fr HF1.out HX.out.1).cell 0
  have hlk := fun n => (HRO.out (w1.drewN n) (HF1.out.drewN n)).1
  go_wp2_with fail
  go_quiet (fail)
  clear hlk q2 q0
  have f2 := HF1.out.drewN nq
  have hri := (HRO.out _ f2).2
  have q1 : (w1.drewN nq).cell? ⟨g0, 1, none⟩ = some (.int .i64 s) := (KW.out.fr f2 HX.out.1).cell 1
  have CS := Lib.hid (search_any s hri HRS.out (by have := HLEN.out; omega))
  clear f2 hri
  go_wp2_with fail
  clear q1
  refine CS.out.mono ?_; rintro e w2 ⟨rfl, hf2⟩
  clear CS
  have HF2 := Lib.hid ((HF1.out.drewN nq).trans (hf2.mono (T := fun k => k = ba) (fun _ _ h => h.elim)) (fun _ _ h => h))
  have HF12 := Lib.hid ((Fr.refl (fun _ => False) w1).drewN nq |>.trans hf2 (fun _ _ h => h))
  have HRI := Lib.hid (HRO.out _ HF2.out).2
  have k2 := KW.out.fr HF2.out HX.out.1
  have b2 := HB.out.fr HF2.out HX.out.2.1
  have KK := Lib.hid k2
  have BB := Lib.hid b2
  clear hf2 k2 b2
  obtain ⟨ps, hps⟩ : ∃ ps, posR r s = ps := ⟨_, rfl⟩
  have HPS := Lib.hid hps
  rw [hps]
  clear hps
  go_wp2_with fail
  refine wp_region_Z [12] (fun w' => Fr (fun k => v.ownBlock = some k) w2 w') (by kernel_rfl) ((Fr.refl _ _).drew) (fun hHeld => ?_)
  refine anyZ_pure (i := 0) (v := ?_) (some 29) rfl rfl (by kernel_rfl) (by kernel_rfl) (by kernel_rfl) (by kernel_rfl) (fun _ _ _ h => h) (Or.inl ⟨by rfl, ?_⟩) (fun _ => hHeld) ?_
  rotate_left
  · intro w' _
    go_simp
    first | done | with_reducible rfl
  try simp only [Act.put, List.setIfInBounds_toArray, List.set_cons_zero, List.set_cons_succ]
  refine anyZ_pure (i := 1) (v := ?_) (some 30) rfl rfl (by kernel_rfl) (by kernel_rfl) (by kernel_rfl) (by kernel_rfl) (fun _ _ _ h => h) (Or.inl ⟨by rfl, ?_⟩) (fun _ => hHeld) ?_
  rotate_left
  · intro w' _
    go_simp
    first | done | with_reducible rfl
  try simp only [Act.put, List.setIfInBounds_toArray, List.set_cons_zero, List.set_cons_succ]
  refine anyZ_pure (i := 2) (v := ?_) (some 31) rfl rfl (by kernel_rfl) (by kernel_rfl) (by kernel_rfl) (by kernel_rfl) (fun _ _ _ h => h) (Or.inl ⟨by rfl, ?_⟩) (fun _ => hHeld) ?_
  rotate_left
  · intro w' _
    go_simp
    first | done | with_reducible rfl
  try simp only [Act.put, List.setIfInBounds_toArray, List.set_cons_zero, List.set_cons_succ]
  refine anyZ_read (i := 3) (v := ?_) (some 32) [12] rfl rfl (by kernel_rfl) (by kernel_rfl) (by kernel_rfl) (by kernel_rfl) (by kernel_rfl) (by kernel_rfl) (fun _ _ _ h => h) (Or.inl ⟨by rfl, ?_⟩) hHeld ?_
  rotate_left
  · intro w' hSw
    have q0 := (KK.out.fr hSw HX.out.2.2.1).cell 0; have q1 := (KK.out.fr hSw HX.out.2.2.1).cell 1; have q2 := (BB.out.fr hSw HX.out.2.2.2).cell 2
    go_simp
    first | done | with_reducible rfl
  try simp only [Act.put, List.setIfInBounds_toArray, List.set_cons_zero, List.set_cons_succ]
  refine anyZ_pure (i := 4) (v := ?_) (some 33) rfl rfl (by kernel_rfl) (by kernel_rfl) (by kernel_rfl) (by kernel_rfl) (fun _ _ _ h => h) (Or.inl ⟨by rfl, ?_⟩) (fun _ => hHeld) ?_
  rotate_left
  · intro w' _
    go_simp
    first | done | with_reducible rfl
  try simp only [Act.put, List.setIfInBounds_toArray, List.set_cons_zero, List.set_cons_succ]
  refine anyZ_read (i := 5) (v := ?_) (some 34) [12] rfl rfl (by kernel_rfl) (by kernel_rfl) (by kernel_rfl) (by kernel_rfl) (by kernel_rfl) (by kernel_rfl) (fun _ _ _ h => h) (Or.inl ⟨by rfl, ?_⟩) hHeld ?_
  rotate_left
  · intro w' hSw
    have q0 := (KK.out.fr hSw HX.out.2.2.1).cell 0; have q1 := (KK.out.fr hSw HX.out.2.2.1).cell 1; have q2 := (BB.out.fr hSw HX.out.2.2.2).cell 2
    go_simp
    first | done | with_reducible rfl
  try simp only [Act.put, List.setIfInBounds_toArray, List.set_cons_zero, List.set_cons_succ]
  refine anyZ_pure (i := 6) (v := ?_) (some 35) rfl rfl (by kernel_rfl) (by kernel_rfl) (by kernel_rfl) (by kernel_rfl) (fun _ _ _ h => h) (Or.inl ⟨by rfl, ?_⟩) (fun _ => hHeld) ?_
  rotate_left
  · intro w' _
    go_simp
    first | done | with_reducible rfl
  try simp only [Act.put, List.setIfInBounds_toArray, List.set_cons_zero, List.set_cons_succ]
  refine anyZ_pure (i := 7) (v := ?_) (some 36) rfl rfl (by kernel_rfl) (by kernel_rfl) (by kernel_rfl) (by kernel_rfl) (fun _ _ _ h => h) (Or.inl ⟨by rfl, ?_⟩) (fun _ => hHeld) ?_
  rotate_left
  · intro w' _
    go_simp
    first | done | with_reducible rfl
  try simp only [Act.put, List.setIfInBounds_toArray, List.set_cons_zero, List.set_cons_succ]
  refine anyZ_pure (i := 8) (v := ?_) (some 37) rfl rfl (by kernel_rfl) (by kernel_rfl) (by kernel_rfl) (by kernel_rfl) (fun _ _ _ h => h) (Or.inl ⟨by rfl, ?_⟩) (fun _ => hHeld) ?_
  rotate_left
  · intro w' _
    go_simp
    first | done | with_reducible rfl
  try simp only [Act.put, List.setIfInBounds_toArray, List.set_cons_zero, List.set_cons_succ]
  refine anyZ_read (i := 9) (v := ?_) (some 38) [10, 11, 12] rfl rfl (by kernel_rfl) (by kernel_rfl) (by kernel_rfl) (by kernel_rfl) (by kernel_rfl) (by kernel_rfl) (fun _ _ _ h => h) (Or.inl ⟨by rfl, ?_⟩) hHeld ?_
  rotate_left
  · intro w' hSw
    have q0 := (KK.out.fr hSw HX.out.2.2.1).cell 0; have q1 := (KK.out.fr hSw HX.out.2.2.1).cell 1; have q2 := (BB.out.fr hSw HX.out.2.2.2).cell 2
    go_simp
    first | done | with_reducible rfl
  try simp only [Act.put, List.setIfInBounds_toArray, List.set_cons_zero, List.set_cons_succ]
  refine anyZ_ready (rs := [10]) (by kernel_rfl) (by simp) ?_
  refine AllZ.step rfl (fun K hK => ?_) AllZ.nil
  go_simp
  refine hK.out _ _ (hHeld.alloc _) (fun hHeld => ?_)
  clear hK K
  try change anyZ _ _ _ _ _ _ _ _ (Act.put _ (some 39) _) _
  try simp only [Act.put, List.setIfInBounds_toArray, List.set_cons_zero, List.set_cons_succ]
  refine anyZ_ready (rs := [11]) (by kernel_rfl) (by simp) ?_
  refine AllZ.step rfl (fun K hK => ?_) AllZ.nil
  go_simp
  have CI := insert_any (w := (w2.alloc (.cells #[.int .i64 s] 3)).drew) (vb := w2.heap.size) (s := s) (r := r) (Row.fr0 HRI.out ((Fr.refl _ _).alloc _).drew) (Bk.new _ _ _).drew (fun e => by have := Row.lt HRI.out e; omega) (by have := HLEN.out; omega)
  rw [HPS.out] at CI
  refine CI.mono ?_; rintro e w3 ⟨v', rfl, hri3, hf3, hmv3⟩
  clear CI
  have HRI3 := Lib.hid hri3
  have HF3 := Lib.hid (((Fr.refl (fun _ => False) w2).alloc (.cells #[.int .i64 s] 3)).drew.mono (T := fun k => v.ownBlock = some k) (fun _ _ h => h.elim) |>.trans hf3 (fun _ _ h => h))
  have HMV3 := Lib.hid hmv3
  clear hri3 hf3 hmv3
  try go_simp
  refine hK.out _ _ (HF3.out) (fun hHeld => ?_)
  clear hK K
  try change anyZ _ _ _ _ _ _ _ _ (Act.put _ (some 40) _) _
  try simp only [Act.put, List.setIfInBounds_toArray, List.set_cons_zero, List.set_cons_succ]
  refine anyZ_ready (rs := [12]) (by kernel_rfl) (by simp) ?_
  refine AllZ.last rfl (by kernel_rfl) (fun K hK => ?_) AllZ.nil
  obtain ⟨w4, hrun, hm4, hf4⟩ := HMR.out w3 v' ((HF2.out.mono (T := fun k => k = ba ∨ v.ownBlock = some k) (fun _ _ e => .inl e)).trans HF3.out (fun _ _ e => .inr e))
  go_simp
  have HM4 := Lib.hid hm4
  have HF4 := Lib.hid hf4
  clear hm4 hf4 hrun
  refine hK.out _ _ ?_
  clear hK K
  try change anyZ _ _ _ _ _ _ _ _ (Act.put _ none _) _
  try simp only [Act.put, List.setIfInBounds_toArray, List.set_cons_zero, List.set_cons_succ]
  refine anyZ_done (by kernel_rfl) ?_ _
  go_wp2
  have f12 := (HF12.out.mono (T := fun k => v.ownBlock = some k) (fun _ _ h => h.elim)).trans HF3.out (fun _ _ h => h)
  have f1 : Fr (fun k => k = ba) w w1 := (FW.out.mono (fun _ _ h => h.elim)).trans HF1.out (fun _ _ h => h)
  have hmv : Moved w v v' := HMV3.out.imp id (fun ⟨x, e, hx⟩ => ⟨x, e, by have h1 := f1.size; have h2 := HF12.out.size; have hs2 : ((w2.alloc (.cells #[.int .i64 s] 3)).drew).heap.size = w2.heap.size + 1 := by { show (w2.alloc _).heap.size = _; simp }; omega⟩)
  obtain ⟨e1, e2⟩ := HEND.out w1 w3 w4 v' HM1.out f1 HRI3.out f12 hmv HM4.out HF4.out
  refine bodyPost_end (results_none rfl _ _ _) rfl ⟨rfl, _, _, e1, e2⟩
end Go.Proofs.YtdfkoehcmgcoiaaGreatDoor

/- What becomes of a table in memory behind forget. -/
namespace Go.Proofs.YtdfkoehcmgcoiaaGreatDoor
open Go.RowKit Go.Maps

/-- Some of a client's keys struck. -/
def delN (D : DV) (c : Int) (l : List Int) : DV := l.foldl (fun D s => D.del (ky c s)) D
theorem delN_snoc (D : DV) (c : Int) (l : List Int) (s : Int) : delN D c (l ++ [s]) = (delN D c l).del (ky c s) := by unfold delN; rw [List.foldl_append]; rfl
theorem delN_at {c : Int} {x y : Int} {v : Value} : ∀ (l : List Int) {D : DV}, (∀ s ∈ l, ky x y ≠ ky c s) → At D (ky x y) v → At (delN D c l) (ky x y) v
  | [], _, _, h => h
  | s :: l, D, hl, h => delN_at l (fun z hz => hl z (by simp [hz])) (h.del_ne (hl s (by simp)))
theorem delN_has0 {c : Int} {k : Lit} : ∀ (l : List Int) {D : DV}, has D k = false → has (delN D c l) k = false
  | [], _, h => h
  | s :: l, D, h => delN_has0 l (by
      by_cases e : k = ky c s
      · rw [e]; exact has_del_same
      · rw [has_del_other e]; exact h)
theorem delN_has {c s : Int} : ∀ (l : List Int) {D : DV}, s ∈ l → has (delN D c l) (ky c s) = false
  | x :: l, D, h => by
    rcases List.mem_cons.1 h with rfl | h
    · exact delN_has0 l has_del_same
    · exact delN_has l h
theorem delN_size {c : Int} : ∀ (l : List Int) {D : DV}, Tidy D → (∀ s ∈ l, has D (ky c s) = true) → l.Pairwise (fun a b => ky c a ≠ ky c b) → Maps.size (delN D c l) + l.length = Maps.size D
  | [], _, _, _, _ => rfl
  | s :: l, D, ht, hh, hp => by
    obtain ⟨p1, p2⟩ := List.pairwise_cons.1 hp
    have h1 := size_del (k := ky c s) ht
    rw [hh s (by simp)] at h1
    have h2 := delN_size l (D := D.del (ky c s)) (ht.del _) (fun z hz => by rw [has_del_other (p1 z hz).symm]; exact hh z (by simp [hz])) p2
    show Maps.size (delN (D.del (ky c s)) c l) + (l.length + 1) = _
    simp at h1
    omega
theorem DT.front_row {t : DT} {c : Int} {k : Nat} : (t.front c k).row c = (t.row c).drop k := by unfold DT.front; simp
theorem DT.front_row' {t : DT} {c x : Int} {k : Nat} (h : x ≠ c) : (t.front c k).row x = t.row x := by unfold DT.front; simp [h]
theorem drop_out {r : List Int} (h : Rise r) {k : Nat} {y : Int} (h1 : y ∈ r) (h2 : y ∉ r.drop k) : y ∈ r.take k := by
  rw [← List.take_append_drop k r, List.mem_append] at h1
  exact h1.resolve_right h2
theorem take_out {r : List Int} (h : Rise r) {k : Nat} {y : Int} (h1 : y ∈ r.drop k) : y ∉ r.take k := fun h2 => by
  have : (r.take k ++ r.drop k).Pairwise (· < ·) := by rw [List.take_append_drop]; exact h
  have := (List.pairwise_append.1 this).2.2 y h2 y h1
  omega

theorem TabM.fronted {g ba br : Nat} {F : Nat → Prop} {t : DT} {Da Dr : DV} {w w1 w2 w3 : World} (h : TabM w g ba br F t Da Dr) (ok : t.ok0) {c : Int} {k : Nat} (hc : I64 c) (hk : k < (t.row c).length) {v v' : Value}
    (hv : At Dr (.int .i64 c) v) (hvF : ∀ k, v.ownBlock = some k → F k) (hrv : RI w v (t.row c))
    (hma : MV w1 57 ba (delN Da c ((t.row c).take k))) (f1 : Fr (fun k => k = ba) w w1)
    (hri : RI w2 v' ((t.row c).drop k)) (f2 : Fr (fun k => v.ownBlock = some k) w1 w2) (hmv : v'.ownBlock = v.ownBlock)
    (hmr : MV w3 3 br (Dr.put (.int .i64 c) (.held v'))) (f3 : Fr (fun k => k = br) w2 w3) :
    TabM w3 g ba br F (t.front c k) (delN Da c ((t.row c).take k)) (Dr.put (.int .i64 c) (.held v')) ∧ Fr F w w3 := by
  have hI : ∀ y ∈ t.row c, I64 y := fun y hy => by have := ok.rng c y hy; exact I64.of (by omega) (by omega)
  have f13 : Fr (fun k => k = ba ∨ v.ownBlock = some k ∨ k = br) w w3 :=
    ((f1.mono (T := fun k => k = ba ∨ v.ownBlock = some k ∨ k = br) (fun _ _ e => .inl e)).trans f2 (fun _ _ e => .inr (.inl e))).trans f3 (fun _ _ e => .inr (.inr e))
  have s13 := f13.size
  have vb := hrv.block_ne h.ma
  have vr := hrv.block_ne h.mr
  have hne0 : t.row c ≠ [] := fun e => by rw [e] at hk; simp at hk
  have bne : ∀ {k : Nat} {T : TypeId} {cs : Array Value}, Bk w k T cs → T ≠ 3 → ¬ (k = ba ∨ v.ownBlock = some k ∨ k = br) := fun hb hT => by
    rintro (e | e | e)
    · exact h.ma.ne hb e
    · exact Row.ne hrv hb (fun e => hT e.symm) e
    · exact h.mr.ne hb e
  have hold : ∀ c', I64 c' → c' ≠ c → ∀ v0, At Dr (.int .i64 c') v0 → ∀ k, v0.ownBlock = some k → v.ownBlock ≠ some k := fun c' hc' hne v0 h0 k hk e =>
    hne (h.apart c' c v0 v k hc' hc h0 hv hk e)
  have hri3 : RI w3 v' ((t.row c).drop k) := Row.fr hri f3 (fun k hk e => by rw [hmv, e] at hk; exact vr hk)
  refine ⟨?_, f13.mono (fun k _ e => ?_)⟩
  · constructor
    · exact h.blk.fr f13 (bne h.blk (by decide))
    · exact (hma.fr f2 vb).fr f3 h.ab
    · exact hmr
    · intro x hx hr
      have hxc : x ≠ c := by
        rintro rfl
        rw [DT.front_row] at hr
        have := congrArg List.length hr
        simp at this; omega
      rw [DT.front_row' hxc] at hr
      rw [has_put_other (lit_ne hxc)]
      exact h.noRow x hx hr
    · intro x hx hr
      by_cases hxc : x = c
      · subst hxc
        exact ⟨v', At.put h.mr (i_key x) v', by rw [DT.front_row]; exact hri3, fun k hk => hvF k (hmv ▸ hk)⟩
      · rw [DT.front_row' hxc] at hr ⊢
        obtain ⟨v0, h1, h2, h3⟩ := h.row x hx hr
        refine ⟨v0, h1.put_ne (lit_ne hxc), Row.fr h2 f13 (fun k hk e => ?_), fun k hk => h3 k hk⟩
        rcases e with e | e | e
        · exact h2.block_ne h.ma (e ▸ hk)
        · exact hold x hx hxc v0 h1 k hk e
        · exact h2.block_ne h.mr (e ▸ hk)
    · intro x y v1 v2 k hx hy h1 h2 hk1 hk2
      have back : ∀ z, I64 z → z ≠ c → ∀ u, At (Dr.put (.int .i64 c) (.held v')) (.int .i64 z) u → At Dr (.int .i64 z) u := fun z _ hz u hu =>
        ⟨(has_put_other (lit_ne hz) _).symm.trans hu.1, fun q => (atKey_put_other (lit_ne hz) _ q).symm.trans (hu.2 q)⟩
      by_cases hxc : x = c
      · by_cases hyc : y = c
        · rw [hxc, hyc]
        · subst hxc
          have e1 : v1 = v' := h1.one (At.put h.mr (i_key x) v')
          subst e1
          exact absurd (hmv ▸ hk1) (hold y hy hyc v2 (back y hy hyc v2 h2) k hk2)
      · by_cases hyc : y = c
        · subst hyc
          have e1 : v2 = v' := h2.one (At.put h.mr (i_key y) v')
          subst e1
          exact absurd (hmv ▸ hk2) (hold x hx hxc v1 (back x hx hxc v1 h1) k hk1)
        · exact h.apart x y v1 v2 k hx hy (back x hx hxc v1 h1) (back y hy hyc v2 h2) hk1 hk2
    · intro x y hx hy hm
      by_cases hxc : x = c
      · subst hxc
        rw [DT.front_row] at hm
        by_cases hy2 : y ∈ t.row x
        · exact delN_has _ (drop_out (ok.rise x) hy2 hm)
        · exact delN_has0 _ (h.noAns x y hx hy hy2)
      · rw [DT.front_row' hxc] at hm
        exact delN_has0 _ (h.noAns x y hx hy hm)
    · intro x y hx hy hm
      have hm' : y ∈ t.row x := by
        by_cases hxc : x = c
        · subst hxc; rw [DT.front_row] at hm; exact List.mem_of_mem_drop hm
        · rw [DT.front_row' hxc] at hm; exact hm
      obtain ⟨A0, cap0, h1, h2, h3⟩ := h.ans x y hx hy hm'
      refine ⟨A0, cap0, delN_at _ (fun s hs e => ?_) h1, h2.fr f13 (fun ad e h0 => ?_), fun ad e h0 => ?_⟩
      · obtain ⟨rfl, rfl⟩ := ky_inj hx hy hc (hI s (List.mem_of_mem_take hs)) e
        rw [DT.front_row] at hm
        exact take_out (ok.rise x) hm hs
      · obtain ⟨_, cs, hb⟩ := h3 ad e h0
        exact bne hb (by decide)
      · obtain ⟨h4, cs, hb⟩ := h3 ad e h0
        exact ⟨h4, cs, hb.fr f13 (bne hb (by decide))⟩
    · exact h.ab
    · rw [size_put (h.mr.tidy kInt), hv.1, h.sr]; rfl
    · have h1 := delN_size (c := c) ((t.row c).take k) (h.ma.tidy kKey) (fun s hs => (h.ans c s hc (hI s (List.mem_of_mem_take hs)) (List.mem_of_mem_take hs)).elim fun _ h => h.elim fun _ h => h.1.1)
        (((ok.rise c).sublist (List.take_sublist _ _)).imp_of_mem (fun ha hb hab e => by
          have := (ky_inj hc (hI _ (List.mem_of_mem_take ha)) hc (hI _ (List.mem_of_mem_take hb)) e).2
          omega))
      have h2 := DT.front_n ok (Nat.le_of_lt hk)
      rw [List.length_take, Nat.min_eq_left (Nat.le_of_lt hk), h.sa] at h1
      omega
    · exact h.fg
    · exact h.fa
    · exact h.fb
    · intro k e
      have := h.flt k e; omega
  · rcases e with e | e | e
    · rw [e]; exact h.fa
    · exact hvF k e
    · rw [e]; exact h.fb
end Go.Proofs.YtdfkoehcmgcoiaaGreatDoor

/- dedup: forget. -/
namespace Go.Proofs.YtdfkoehcmgcoiaaGreatDoor
open Go.RowKit Go.Maps

theorem intOf_nat (n : Nat) : (intOf (.int .i64 (n : Int))).toNat = n := by simp [intOf]
set_option maxRecDepth 100000 in
set_option maxHeartbeats 8000000 in
theorem forget_any {g ba br : Nat} {F : Nat → Prop} {t : DT} {Da Dr : DV} {w : World} (h : TabM w g ba br F t Da Dr) (ok : t.ok0) {c : Int} (hc : I64 c) (hlen : (t.row c).length ≤ 4097) (h0 : t.row c ≠ []) :
    Calls Tryz.prog 21 #[.pointer (some ⟨g, 0, none⟩), .int .i64 c] w fun e w' => e = .returned (.tuple #[]) ∧ ∃ Da' Dr', TabM w' g ba br F (t.forget c) Da' Dr' ∧ Fr F w w' := by
  obtain ⟨k, hk⟩ : ∃ k, posR (t.row c) (t.least c) = k := ⟨_, rfl⟩
  have hkl : k < (t.row c).length := by
    have h1 := posR_le (t.row c) (t.least c)
    rcases Nat.lt_or_ge k (t.row c).length with h2 | h2
    · exact h2
    · exfalso
      have h3 : (t.row c).drop k = [] := List.drop_eq_nil_of_le h2
      have h4 := (mem_cut (ok.rise c) (t.least c) (topR (t.row c))).2 ⟨topR_mem h0, by have := ok.w1; unfold DT.least DT.top; omega⟩
      unfold cutR at h4
      rw [hk, h3] at h4
      simp at h4
  have hsr : Maps.size Dr < 9223372036854775807 := by rw [h.sr]; have := ok.cs_len; omega
  obtain ⟨v, hv, hrv, hvF⟩ := h.row c hc h0
  have HB := Lib.hid h.blk
  have HI : Hid (∀ y ∈ t.row c, I64 y) := Lib.hid (fun y hy => by have := ok.rng c y hy; exact I64.of (by omega) (by omega))
  have HLK := Lib.hid (fun (w' : World) (hf : Fr (fun _ => False) w w') => ((h.mr.fr hf (fun h => h)).at1 kInt tRow (zeroRow w') hc.key hv).2)
  have CL := Lib.hid (least_any h ok hc (by omega))
  have CS := Lib.hid (fun (w' : World) (hf : Fr (fun _ => False) w w') => search_any (t.least c) (Row.fr0 hrv hf) (ok.rise c) (by omega))
  have HMA : Hid (MV w 57 ba Da) := Lib.hid h.ma
  have HMR : Hid (∀ w' v', Fr (fun k => k = ba ∨ v.ownBlock = some k) w w' → ∃ w1, (Instr.mapUpdate 78 (.map (some br)) (.int .i64 c) v').run Tryz.prog w' = .ok () w1 ∧ MV w1 3 br (Dr.put (.int .i64 c) (.held v')) ∧ Fr (fun x => x = br) w' w1) := Lib.hid (fun w' v' hf =>
    (h.mr.fr hf (by
      rintro (e | e)
      · exact h.ab e.symm
      · exact hrv.block_ne h.mr e)).update kInt tRow hsr hc.key)
  have HX : Hid (g ≠ ba ∧ v.ownBlock ≠ some ba ∧ v.ownBlock ≠ some g) := Lib.hid ⟨h.ma.ne h.blk, hrv.block_ne h.ma, Row.ne hrv h.blk (by decide)⟩
  have HEND := Lib.hid (fun w1 w2 w3 v' hma f1 hri f2 hmv hmr f3 => TabM.fronted (w1 := w1) (w2 := w2) (w3 := w3) (v' := v') h ok hc hkl hv hvF hrv hma f1 hri f2 hmv hmr f3)
  rw [DT.forget_eq, hk]
  have HC := Lib.hid hc
  have HRV := Lib.hid hrv
  have HRN : Hid (t.row c ≠ []) := Lib.hid h0
  rw [hk] at CS
  generalize t.row c = r at *
  generalize t.least c = lst at *
  clear h ok hlen h0 hsr hv hvF hc hk
  rcases hrv.cases with ⟨rfl, e0⟩ | ⟨b, off, cap, cur, rfl, hb, hc1, hc2, hc3, hc4⟩
  · rw [e0] at hkl; simp at hkl
  obtain ⟨n, hn⟩ : ∃ n, r.length = n := ⟨_, rfl⟩
  have HCUR : Hid (∀ j (h : j < r.length), cur[off + j]? = some (IV r[j])) := Lib.hid hc4
  have HBB := Lib.hid hb
  clear hrv hc3 hc4 hb
  have HN := Lib.hid hn
  have HKL := Lib.hid hkl
  have HBA : Hid (b ≠ ba) := Lib.hid (fun e => HX.out.2.1 (by rw [← e]; rfl))
  rw [hn] at hkl hc1 HLK CS HRV HX HMR HEND
  have hkc : (k : Int) ≤ (cap : Int) := by omega
  have hk0 : (0 : Int) ≤ (k : Int) := by omega
  have q2 : w.cell? ⟨g, 2, none⟩ = some (.map (some br)) := HB.out.cell 2
  have hlk := HLK.out w (Fr.refl _ _)
  clear hkl hn
  go_enter Tryz.func21, Tryz.ntmps21
  go_wp2_with fail
  clear hlk q2
  refine CL.out.mono ?_; rintro e w0 ⟨rfl, m, hw0⟩
  have HF0 : Hid (Fr (fun _ => False) w w0) := Lib.hid (by rw [hw0]; exact (Fr.refl _ _).drewN _)
  clear hw0 CL
  go_wp2_with fail
  refine (CS.out _ HF0.out).mono ?_; rintro e w1 ⟨rfl, hf1⟩
  have HF1 := Lib.hid (HF0.out.trans hf1 (fun _ _ h => h))
  clear hf1 CS HF0
  go_wp2_with fail
  go_loopw [27] (fun i wr => ∃ j : Nat, j ≤ k ∧ i = .int .i64 j ∧ Hid (MV wr 57 ba (delN Da c (r.take j)) ∧ Fr (fun x => x = ba) w wr)) (fun i _ => k - (intOf i).toNat)
  case atStart => exact ⟨0, by omega, rfl, ⟨by simpa [delN] using HMA.out.fr HF1.out (fun h => h), HF1.out.mono (fun _ _ h => h.elim)⟩⟩
  case round =>
    obtain ⟨j, hj, rfl, hq⟩ := hrel
    by_cases hlt : j < k
    · have hjr : j < r.length := by have := HKL.out; omega
      obtain ⟨x, hx⟩ : ∃ x, r[j] = x := ⟨_, rfl⟩
      have HS : Hid (I64 x) := Lib.hid (HI.out x (by rw [← hx]; exact List.getElem_mem _))
      have HD : Hid (delN Da c (r.take (j + 1)) = (delN Da c (r.take j)).del (ky c x)) := Lib.hid (by rw [← delN_snoc, List.take_add_one, List.getElem?_eq_getElem hjr, hx]; rfl)
      have hcell : wr.cell? ⟨b, off + j, none⟩ = some (.int .i64 x) := by
        have := (HBB.out.fr hq.out.2 HBA.out).cell (off + j)
        rw [HCUR.out j hjr, hx] at this
        exact this
      have q1 : wr.cell? ⟨g, 1, none⟩ = some (.map (some ba)) := (HB.out.fr hq.out.2 HX.out.1).cell 1
      have hj0 : (0 : Int) ≤ (j : Int) := by omega
      have hj1 : (j : Int) < (k : Int) := by omega
      clear hjr hx
      go_wp2_with (at_delete; refine wpList_delete_own _ rfl _ _ 77 57 rfl 32 kKey tKey HV ba _ _ rfl hq.out.1 _ _ rfl (ky_of HC.out HS.out) ?_; intro w2 hown2 hturn2)
      have hf2 := Fr.of_turned hturn2
      have HQ2 : Hid (MV w2 57 ba (delN Da c (r.take (j + 1))) ∧ Fr (fun x => x = ba) w w2) := Lib.hid ⟨by rw [HD.out]; exact MV.of hown2, hq.out.2.trans hf2 (fun _ _ h => h)⟩
      clear hown2 hturn2 hf2 hcell q1
      go_wp2
      go_roundw
      case rel => exact ⟨j + 1, by omega, by go_num, HQ2⟩
      case measure => simp [intOf]; omega
    · obtain rfl : j = k := by omega
      have HQ := hq
      clear hq hlt hj
      go_wp2_with fail
      refine wp_region_Z [8] (fun w' => Fr (fun k => (Value.slice (some ⟨b, off, none⟩) n cap).ownBlock = some k) wr w') (by kernel_rfl) ((Fr.refl _ _).drew) (fun hHeld => ?_)
      refine anyZ_pure (i := 0) (v := ?_) (some 39) rfl rfl (by kernel_rfl) (by kernel_rfl) (by kernel_rfl) (by kernel_rfl) (fun _ _ _ h => h) (Or.inl ⟨by rfl, ?_⟩) (fun _ => hHeld) ?_
      rotate_left
      · intro w' _
        go_simp
        first | done | with_reducible rfl
      try simp only [Act.put, List.setIfInBounds_toArray, List.set_cons_zero, List.set_cons_succ]
      refine anyZ_pure (i := 1) (v := ?_) (some 40) rfl rfl (by kernel_rfl) (by kernel_rfl) (by kernel_rfl) (by kernel_rfl) (fun _ _ _ h => h) (Or.inl ⟨by rfl, ?_⟩) (fun _ => hHeld) ?_
      rotate_left
      · intro w' _
        go_simp
        first | done | with_reducible rfl
      try simp only [Act.put, List.setIfInBounds_toArray, List.set_cons_zero, List.set_cons_succ]
      refine anyZ_pure (i := 2) (v := ?_) (some 41) rfl rfl (by kernel_rfl) (by kernel_rfl) (by kernel_rfl) (by kernel_rfl) (fun _ _ _ h => h) (Or.inl ⟨by rfl, ?_⟩) (fun _ => hHeld) ?_
      rotate_left
      · intro w' _
        go_simp
        first | done | with_reducible rfl
      try simp only [Act.put, List.setIfInBounds_toArray, List.set_cons_zero, List.set_cons_succ]
      refine anyZ_read (i := 3) (v := ?_) (some 42) [8] rfl rfl (by kernel_rfl) (by kernel_rfl) (by kernel_rfl) (by kernel_rfl) (by kernel_rfl) (by kernel_rfl) (fun _ _ _ h => h) (Or.inl ⟨by rfl, ?_⟩) hHeld ?_
      rotate_left
      · intro w' hSw
        have q0 := (HB.out.fr HQ.out.2 HX.out.1 |>.fr hSw HX.out.2.2).cell 2
        go_simp
        first | done | with_reducible rfl
      try simp only [Act.put, List.setIfInBounds_toArray, List.set_cons_zero, List.set_cons_succ]
      refine anyZ_pure (i := 4) (v := ?_) (some 43) rfl rfl (by kernel_rfl) (by kernel_rfl) (by kernel_rfl) (by kernel_rfl) (fun _ _ _ h => h) (Or.inl ⟨by rfl, ?_⟩) (fun _ => hHeld) ?_
      rotate_left
      · intro w' _
        go_simp
        first | done | with_reducible rfl
      try simp only [Act.put, List.setIfInBounds_toArray, List.set_cons_zero, List.set_cons_succ]
      refine anyZ_pure (i := 5) (v := ?_) (some 44) rfl rfl (by kernel_rfl) (by kernel_rfl) (by kernel_rfl) (by kernel_rfl) (fun _ _ _ h => h) (Or.inl ⟨by rfl, ?_⟩) (fun _ => hHeld) ?_
      rotate_left
      · intro w' _
        go_simp
        first | done | with_reducible rfl
      try simp only [Act.put, List.setIfInBounds_toArray, List.set_cons_zero, List.set_cons_succ]
      refine anyZ_pure (i := 6) (v := ?_) (some 45) rfl rfl (by kernel_rfl) (by kernel_rfl) (by kernel_rfl) (by kernel_rfl) (fun _ _ _ h => h) (Or.inl ⟨by rfl, ?_⟩) (fun _ => hHeld) ?_
      rotate_left
      · intro w' _
        go_simp
        first | done | with_reducible rfl
      try simp only [Act.put, List.setIfInBounds_toArray, List.set_cons_zero, List.set_cons_succ]
      refine anyZ_ready (rs := [7]) (by kernel_rfl) (by simp) ?_
      refine AllZ.step rfl (fun K hK => ?_) AllZ.nil
      go_simp
      have CD := delete_any (w := wr.drew) (Row.fr (S := fun x => x = ba) HRV.out (HQ.out.2.drew) (fun k hk e => HX.out.2.1 (e ▸ hk))) (Nat.le_of_lt HKL.out) HRN.out
      refine CD.mono ?_; rintro e w3 ⟨v', rfl, hri3, hf3, hmv3⟩
      clear CD
      have HRI3 := Lib.hid hri3
      have HF3 := Lib.hid (((Fr.refl (fun _ => False) wr).drew.mono (T := fun k => (Value.slice (some ⟨b, off, none⟩) n cap).ownBlock = some k) (fun _ _ h => h.elim)).trans hf3 (fun _ _ h => h))
      have HMV3 := Lib.hid hmv3
      clear hri3 hf3 hmv3
      try go_simp
      refine hK.out _ _ (HF3.out) (fun hHeld => ?_)
      clear hK K
      try change anyZ _ _ _ _ _ _ _ _ (Act.put _ (some 46) _) _
      try simp only [Act.put, List.setIfInBounds_toArray, List.set_cons_zero, List.set_cons_succ]
      refine anyZ_ready (rs := [8]) (by kernel_rfl) (by simp) ?_
      refine AllZ.last rfl (by kernel_rfl) (fun K hK => ?_) AllZ.nil
      obtain ⟨w4, hrun, hm4, hf4⟩ := HMR.out w3 v' ((HQ.out.2.mono (T := fun k => k = ba ∨ (Value.slice (some ⟨b, off, none⟩) n cap).ownBlock = some k) (fun _ _ e => .inl e)).trans HF3.out (fun _ _ e => .inr e))
      go_simp
      have HM4 := Lib.hid hm4
      have HF4 := Lib.hid hf4
      clear hm4 hf4 hrun
      refine hK.out _ _ ?_
      clear hK K
      try change anyZ _ _ _ _ _ _ _ _ (Act.put _ none _) _
      try simp only [Act.put, List.setIfInBounds_toArray, List.set_cons_zero, List.set_cons_succ]
      refine anyZ_done (by kernel_rfl) ?_ _
      go_wp2
      obtain ⟨e1, e2⟩ := HEND.out wr w3 w4 v' HQ.out.1 HQ.out.2 HRI3.out HF3.out HMV3.out HM4.out HF4.out
      refine bodyPost_end (results_none rfl _ _ _) rfl ⟨rfl, _, _, e1, e2⟩
end Go.Proofs.YtdfkoehcmgcoiaaGreatDoor

/- dedup: Put, NewTable. -/
namespace Go.Proofs.YtdfkoehcmgcoiaaGreatDoor
open Go.RowKit Go.Maps

theorem Own8.bk {w : World} {e : TypeId} {A : Option Addr} {n c : Nat} {xs : List UInt8} (h : Own8 w e (.slice A n c) xs) {ad : Addr} (ha : A = some ad) : (Value.slice A n c).ownBlock = some ad.block ∧ ∃ cs, Bk w ad.block e cs := by
  subst ha
  rcases h.2 with ⟨h1, _⟩ | ⟨g, cap, cur, h1, _, hh, _⟩
  · injection h1 with h1; cases h1
  · injection h1 with h1 h2 h3
    injection h1 with h1
    subst h1
    exact ⟨rfl, cur, hh⟩

set_option maxRecDepth 100000 in
set_option maxHeartbeats 8000000 in
theorem put_any {g : Nat} {F : Nat → Prop} {t : DT} {w : World} (h : Tab w g F t) (ok : t.ok) {c s : Int} (hc : I64 c) (hs : I64 s) {A : Option Addr} {n cap : Nat} {a : List UInt8} (hr : Rd8 w A a) (hn : a.length = n) (hb : n ≤ 140737488355328) :
    Calls Tryz.prog 9 #[.pointer (some ⟨g, 0, none⟩), .int .i64 c, .int .i64 s, .slice A n cap] w fun e w' => e = .returned (.int .i64 (t.kind c s)) ∧ TabTo w g F w' (t.put c s a) := by
  obtain ⟨ba, br, Da, Dr, hM⟩ := h
  have CK := Lib.hid (fun w' (hf : Fr (fun _ => False) w w') => kind_any (hM.fr hf (fun _ _ h => h)) ok hc hs)
  have CC := Lib.hid (fun w' (hf : Fr (fun _ => False) w w') => clone_any A n cap a w' (hr.fr hf (fun _ _ _ h => h)) hn hb)
  have HM := Lib.hid hM
  have HOK := Lib.hid ok
  have HN := Lib.hid hn
  have HC := Lib.hid hc
  obtain ⟨g0, hg0⟩ : ∃ g0, w.heap.size = g0 := ⟨_, rfl⟩
  obtain ⟨W, hW⟩ : ∃ W, w.alloc (.cells #[.int .i64 c, .int .i64 s] 57) = W := ⟨_, rfl⟩
  have KW : Hid (Bk W g0 57 #[.int .i64 c, .int .i64 s]) := Lib.hid (by rw [← hW, ← hg0]; exact Bk.new _ _ _)
  have FW : Hid (Fr (fun _ => False) w W) := Lib.hid (by rw [← hW]; exact (Fr.refl _ _).alloc _)
  have q0 := KW.out.cell 0
  have q1 := KW.out.cell 1
  obtain ⟨kd, hkd⟩ : ∃ kd, t.kind c s = kd := ⟨_, rfl⟩
  rw [hkd] at CK ⊢
  clear hM ok hc hs hr hn hb
  unfold kyV at CK
  by_cases h0 : kd = 0
  · obtain ⟨hm, _, hns⟩ := DT.kind_new.1 (hkd.trans h0)
    have HPUT : Hid (t.put c s a = (t.keep c s a).forget c) := Lib.hid (by unfold DT.put; rw [if_pos (hkd.trans h0)])
    have HMY := Lib.hid hm
    have HNS := Lib.hid hns
    subst h0
    clear hm hns hkd
    go_enter Tryz.func9, Tryz.ntmps9
    go_wp2_with fail
    clear q0 q1 hW
    refine (CK.out W FW.out).mono ?_; rintro e w1 ⟨rfl, hf1⟩
    have HF1 := Lib.hid (FW.out.trans hf1 (fun _ _ h => h))
    have KK := Lib.hid (KW.out.fr hf1 (fun h => h))
    clear hf1 CK
    go_wp2_with fail
    refine wp_region_Z [4] (fun w' => Fr (fun _ => False) w1 w') (by kernel_rfl) ((Fr.refl _ _).drew) (fun hHeld => ?_)
    refine anyZ_pure (i := 0) (v := ?_) (some 19) rfl rfl (by kernel_rfl) (by kernel_rfl) (by kernel_rfl) (by kernel_rfl) (fun _ _ _ h => h) (Or.inl ⟨by rfl, ?_⟩) (fun _ => hHeld) ?_
    rotate_left
    · intro w' _
      go_simp
      first | done | with_reducible rfl
    try simp only [Act.put, List.setIfInBounds_toArray, List.set_cons_zero, List.set_cons_succ]
    refine anyZ_read (i := 1) (v := ?_) (some 20) [4] rfl rfl (by kernel_rfl) (by kernel_rfl) (by kernel_rfl) (by kernel_rfl) (by kernel_rfl) (by kernel_rfl) (fun _ _ _ h => h) (Or.inl ⟨by rfl, ?_⟩) hHeld ?_
    rotate_left
    · intro w' hSw
      have q0 := (KK.out.fr hSw (fun h => h)).cell 0; have q1 := (KK.out.fr hSw (fun h => h)).cell 1
      go_simp
      first | done | with_reducible rfl
    try simp only [Act.put, List.setIfInBounds_toArray, List.set_cons_zero, List.set_cons_succ]
    refine anyZ_pure (i := 2) (v := ?_) (some 21) rfl rfl (by kernel_rfl) (by kernel_rfl) (by kernel_rfl) (by kernel_rfl) (fun _ _ _ h => h) (Or.inl ⟨by rfl, ?_⟩) (fun _ => hHeld) ?_
    rotate_left
    · intro w' _
      go_simp
      first | done | with_reducible rfl
    try simp only [Act.put, List.setIfInBounds_toArray, List.set_cons_zero, List.set_cons_succ]
    refine anyZ_ready (rs := [3]) (by kernel_rfl) (by simp) ?_
    refine AllZ.step rfl (fun K hK => ?_) AllZ.nil
    go_simp
    refine (CC.out _ (HF1.out.trans hHeld (fun _ _ h => h))).mono ?_; rintro e w2 ⟨A2, c2, rfl, ho, hfr⟩
    have HR3 := Lib.hid ((hHeld.trans hfr.1 (fun _ _ h => h)).mono (T := F) (fun _ _ h => h.elim))
    have HO := Lib.hid ho
    have HR2 := Lib.hid (fun k hk => (show w.heap.size ≤ k by have h1 := hfr.2 k hk; have h2 := HF1.out.size; have h3 := hHeld.size; omega))
    have HF2 := Lib.hid (hHeld.trans hfr.1 (fun _ _ h => h))
    clear ho hfr CC
    try go_simp
    refine hK.out _ _ (HF2.out) (fun hHeld => ?_)
    clear hK K
    try change anyZ _ _ _ _ _ _ _ _ (Act.put _ (some 22) _) _
    try simp only [Act.put, List.setIfInBounds_toArray, List.set_cons_zero, List.set_cons_succ]
    refine anyZ_ready (rs := [4]) (by kernel_rfl) (by simp) ?_
    refine AllZ.last rfl (by kernel_rfl) (fun K hK => ?_) AllZ.nil
    go_simp
    have CE := keep_any (FN := fun k => w.heap.size ≤ k ∧ k < w2.heap.size) (HM.out.fr (HF1.out.trans HF2.out (fun _ _ h => h)) (fun _ _ h => h)) HOK.out HMY.out HNS.out (cap := c2) HN.out HO.out.rd (fun ad e _ => ⟨⟨HR2.out _ (HO.out.bk e).1, HO.out.lt (HO.out.bk e).1⟩, (HO.out.bk e).2⟩) (fun k hk => hk.2)
    refine CE.mono ?_; rintro e w3 ⟨rfl, Da1, Dr1, hM1, hf3⟩
    clear CE
    have HM1 := Lib.hid hM1
    have HF3 := Lib.hid hf3
    clear hM1 hf3
    try go_simp
    refine hK.out _ _ ?_
    clear hK K
    try change anyZ _ _ _ _ _ _ _ _ (Act.put _ (some 23) _) _
    try simp only [Act.put, List.setIfInBounds_toArray, List.set_cons_zero, List.set_cons_succ]
    refine anyZ_done (by kernel_rfl) ?_ _
    have hk0 := HOK.out.took0.keep a HMY.out HNS.out
    have CF := Lib.hid (forget_any HM1.out hk0 HC.out (by rw [DT.keep_row, ins_len]; have := HOK.out.len c; have := HOK.out.w2; omega) (by rw [DT.keep_row]; exact List.ne_nil_of_mem ((mem_ins s s).2 (.inl rfl))))
    clear hk0
    go_wp2_with fail
    refine CF.out.mono ?_; rintro e w4 ⟨rfl, Da2, Dr2, hM2, hf4⟩
    have HM2 := Lib.hid hM2
    have HF4 := Lib.hid hf4
    clear hM2 hf4 CF
    go_wp2
    go_ret
    have z1 := HF1.out.size
    have z2 := HR3.out.size
    have z3 := HF3.out.size
    have z4 := HF4.out.size
    refine ⟨rfl, _, ⟨ba, br, Da2, Dr2, by rw [HPUT.out]; exact HM2.out⟩, ?_, fun k hk => ?_⟩
    · exact (((HF1.out.mono (T := F) (fun _ _ h => h.elim)).trans HR3.out (fun _ _ h => h)).trans HF3.out (fun _ _ h => h)).trans HF4.out (fun x hx e => by
        rcases e with e | e | e
        · exact e
        · have := e.1; omega
        · have := e.1; omega)
    · rcases hk with e | e | e
      · exact .inl e
      · exact .inr e.1
      · exact .inr (by have := e.1; omega)
  · have d0 : (kd == 0) = false := by simp [h0]
    have HPUT : Hid (t.put c s a = t) := Lib.hid (by unfold DT.put; rw [if_neg (by rw [hkd]; exact h0)])
    clear h0 hkd
    go_enter Tryz.func9, Tryz.ntmps9
    go_wp2_with fail
    clear q0 q1 hW
    refine (CK.out W FW.out).mono ?_; rintro e w1 ⟨rfl, hf1⟩
    have HF1 := Lib.hid (FW.out.trans hf1 (fun _ _ h => h))
    clear hf1 CK
    go_wp2
    go_ret
    refine ⟨rfl, ?_⟩
    rw [HPUT.out]
    exact Tab.to ⟨ba, br, Da, Dr, HM.out⟩ HF1.out

/-- A table that is new. -/
theorem tab_new (w : World) (win : Int) : ∃ W, ((w.alloc (.map #[] 0)).alloc (.map #[] 0)).alloc (.cells #[.int .i64 win, .map (some w.heap.size), .map (some (w.heap.size + 1))] 80) = W ∧ Fr (fun _ => False) w W ∧ Tab W (w.heap.size + 1 + 1) (fun k => w.heap.size ≤ k ∧ k < W.heap.size) (newT win) := by
  refine ⟨_, rfl, (((Fr.refl _ _).alloc _).alloc _).alloc _, w.heap.size, w.heap.size + 1, .map [], .map [], ?_⟩
  have hs : (((w.alloc (.map #[] 0)).alloc (.map #[] 0)).alloc (.cells #[.int .i64 win, .map (some w.heap.size), .map (some (w.heap.size + 1))] 80)).heap.size = w.heap.size + 1 + 1 + 1 := by simp
  have m1 : MV (w.alloc (.map #[] 0)) 57 w.heap.size (.map []) := MV.new w _
  have m2 : MV ((w.alloc (.map #[] 0)).alloc (.map #[] 0)) 3 (w.heap.size + 1) (.map []) := by
    have := MV.new (w.alloc (.map #[] 0)) 3
    simpa using this
  constructor
  · have := Bk.new ((w.alloc (.map #[] 0)).alloc (.map #[] 0)) 80 #[.int .i64 win, .map (some w.heap.size), .map (some (w.heap.size + 1))]
    simpa [newT] using this
  · exact (m1.fr (S := fun _ => False) (((Fr.refl _ _).alloc _).alloc _) (fun h => h))
  · exact (m2.fr (S := fun _ => False) ((Fr.refl _ _).alloc _) (fun h => h))
  · intro c _ _; rfl
  · intro c _ h; exact absurd rfl h
  · intro c c' v v' k _ _ h; exact (h.not rfl).elim
  · intro c s _ _ _; rfl
  · intro c s _ _ h; simp [newT] at h
  · omega
  · rfl
  · rfl
  · rw [hs]; omega
  · rw [hs]; omega
  · rw [hs]; omega
  · intro k hk; exact hk.2

set_option maxRecDepth 100000 in
set_option maxHeartbeats 2000000 in
theorem newT_any (win : Int) (w : World) :
    Calls Tryz.prog 17 #[.int .i64 win] w fun e w' => ∃ g, e = .returned (.pointer (some ⟨g, 0, none⟩)) ∧ Fr (fun _ => False) w w' ∧ Tab w' g (fun k => w.heap.size ≤ k ∧ k < w'.heap.size) (newT win) := by
  obtain ⟨W, hW, hf, ht⟩ := tab_new w win
  have hmm := @run_makeMap Tryz.prog
  go_enter Tryz.func17, Tryz.ntmps17
  go_wp2
  go_ret
  exact ⟨_, rfl, hf, ht⟩
set_option maxRecDepth 100000 in
set_option maxHeartbeats 2000000 in
theorem newTable_yes (win : Int) (w : World) (h1 : 1 ≤ win) (h2 : win ≤ 4096) :
    Calls Tryz.prog 7 #[.int .i64 win] w fun e w' => ∃ g, e = .returned (.tuple #[.pointer (some ⟨g, 0, none⟩), .int .i64 0]) ∧ Fr (fun _ => False) w w' ∧ Tab w' g (fun k => w.heap.size ≤ k ∧ k < w'.heap.size) (newT win) := by
  have C := Lib.hid (newT_any win w)
  have d1 : decide (win < 1) = false := decide_eq_false (by omega)
  have d2 : decide (4096 < win) = false := decide_eq_false (by omega)
  go_enter Tryz.func7, Tryz.ntmps7
  go_wp2_with fail
  refine C.out.mono ?_; rintro e w1 ⟨g, rfl, hf, ht⟩
  have HF := Lib.hid hf
  have HT := Lib.hid ht
  clear hf ht C
  go_wp2
  go_ret2
  exact ⟨g, rfl, HF.out, HT.out⟩
set_option maxRecDepth 100000 in
set_option maxHeartbeats 2000000 in
theorem newTable_no (win : Int) (w : World) (h : win < 1 ∨ 4096 < win) :
    Calls Tryz.prog 7 #[.int .i64 win] w fun e w' => e = .returned (.tuple #[.pointer none, .int .i64 1]) ∧ w = w' := by
  by_cases h1 : win < 1
  · have d1 : decide (win < 1) = true := decide_eq_true h1
    go_enter Tryz.func7, Tryz.ntmps7
    go_wp2
    go_ret2
    exact ⟨rfl, rfl⟩
  · have d1 : decide (win < 1) = false := decide_eq_false h1
    have d2 : decide (4096 < win) = true := decide_eq_true (by omega)
    go_enter Tryz.func7, Tryz.ntmps7
    go_wp2
    go_ret2
    exact ⟨rfl, rfl⟩
end Go.Proofs.YtdfkoehcmgcoiaaGreatDoor

/- Strings of bytes. -/
namespace Go.Proofs.YtdfkoehcmgcoiaaGreatDoor
open Go.RowKit

def strOf (xs : List UInt8) : ByteArray := ⟨xs.toArray⟩

theorem run_str8 {P : Program} {t e : TypeId} (hT : T8 P t e) (he : P.underlying e = some (.int .u8)) {s : TypeId} (hs : P.underlying s = some .string) {w : World} {A : Option Addr} {n : Nat} (c : Nat) {xs : List UInt8} (hr : Rd8 w A xs) (hn : xs.length = n) :
    (convert t s (.slice A n c)).run P w = .ok (.string (strOf xs)) w := by
  have e1 : strOfNums (xs.map fun b => (b.toNat : Int)) = strOf xs := by
    simp only [strOfNums, strOf, List.map_map]
    congr 1
    congr 1
    conv => rhs; rw [← List.map_id xs]
    refine List.map_congr_left fun b _ => ?_
    simp
  rcases A with _ | ad
  · have h0 : xs = [] := by
      rcases Nat.eq_zero_or_pos xs.length with h0 | h0
      · exact List.eq_nil_of_length_eq_zero h0
      · obtain ⟨ad, h, _⟩ := hr h0; cases h
    subst h0
    rw [run_convert_bytes_nil w t e hT.sl he n c s hs]
    rfl
  · by_cases h0 : 0 < xs.length
    · obtain ⟨ad', e, hsp, hc⟩ := hr h0
      injection e with e
      subst e
      obtain ⟨b, o, sp⟩ := ad
      cases hsp
      rw [run_convert_bytes_arg w t _ hT.sl he b o n c (xs.map fun b => (b.toNat : Int)) (by simpa using hn) (fun i hi => by
        rw [hc i (by omega)]
        simp [List.getD, show i < xs.length by omega]) s hs, e1]
    · have hx : xs = [] := List.eq_nil_of_length_eq_zero (by omega)
      subst hx
      simp at hn
      subst hn
      rw [run_convert_bytes_string w t s e _ 0 c hT.sl he hs, run_bytesToString w ad 0 c [] (by simp [loadCells, loadCellsFrom])]
      rfl

end Go.Proofs.YtdfkoehcmgcoiaaGreatDoor

/- A law's own table; what each law of dedup asks first. -/
namespace Go.Proofs.YtdfkoehcmgcoiaaGreatDoor
open Go.RowKit Go.Maps

set_option maxRecDepth 100000 in
set_option maxHeartbeats 2000000 in
theorem len_any {g ba br : Nat} {F : Nat → Prop} {t : DT} {Da Dr : DV} {w : World} (h : TabM w g ba br F t Da Dr) :
    Calls Tryz.prog 16 #[.pointer (some ⟨g, 0, none⟩)] w fun e w' => e = .returned (.int .i64 (t.n : Nat)) ∧ w = w' := by
  have q1 : w.cell? ⟨g, 1, none⟩ = some (.map (some ba)) := h.blk.cell 1
  have hl : ∀ ty, (Builtin.len_ #[77] ty #[.map (some ba)]).run Tryz.prog w = .ok (.int .i64 (t.n : Nat)) w := fun ty => by
    have := World.ownsMap.len h.ma tKey ty
    rw [h.sa] at this
    exact this
  clear h
  go_enter Tryz.func16, Tryz.ntmps16
  go_wp2
  go_ret
  exact ⟨rfl, rfl⟩

abbrev BB : Nat := 140737488355328
theorem DT.small.put {t : DT} (h : t.small BB) (ok : t.ok) (c s : Int) {a : List UInt8} (ha : a.length ≤ BB) : (t.put c s a).small BB := by
  intro x y hy
  by_cases hk : t.kind c s = 0
  · by_cases hx : x = c
    · subst hx
      have hm := ((DT.put_mem ok a hk y).1 hy).1
      have e : (t.put x s a).ans x y = if y = s then a else t.ans x y := by
        unfold DT.put; rw [if_pos hk]; unfold DT.forget DT.keep; simp
      rw [e]
      split
      · exact ha
      · exact h x y (hm.resolve_left (by assumption))
    · rw [DT.put_ans_ne a hx]
      rw [DT.put_row_ne a hx] at hy
      exact h x y hy
  · have e : t.put c s a = t := by unfold DT.put; rw [if_neg hk]
    rw [e] at hy ⊢
    exact h x y hy

/-- A table of the law's own, whose first world was w. -/
structure RunT (w w1 : World) (g : Nat) (t : DT) (F : Nat → Prop) : Prop where
  fr : Fr (fun _ => False) w w1
  tb : Tab w1 g F t
  low : ∀ k, F k → w.heap.size ≤ k
  ok : t.ok
  sm : t.small BB
theorem RunT.lt {w w1 : World} {g : Nat} {t : DT} {F : Nat → Prop} (h : RunT w w1 g t F) {k : Nat} (hk : F k) : k < w1.heap.size := h.tb.lt hk
theorem RunT.on {w w1 w2 : World} {g : Nat} {t : DT} {F S : Nat → Prop} (h : RunT w w1 g t F) (hf : Fr S w1 w2) (hS : ∀ k, S k → w.heap.size ≤ k ∧ ¬ F k) : RunT w w2 g t F :=
  ⟨h.fr.trans hf (fun x hx e => by have := (hS x e).1; omega), h.tb.fr hf (fun k hk e => (hS k e).2 hk), h.low, h.ok, h.sm⟩
theorem RunT.on0 {w w1 w2 : World} {g : Nat} {t : DT} {F : Nat → Prop} (h : RunT w w1 g t F) (hf : Fr (fun _ => False) w1 w2) : RunT w w2 g t F := h.on hf (fun _ e => e.elim)
theorem RunT.putC {w w1 : World} {g : Nat} {t : DT} {F : Nat → Prop} (h : RunT w w1 g t F) {c s : Int} (hc : I64 c) (hs : I64 s) {A : Option Addr} {n cap : Nat} {a : List UInt8} (hr : Rd8 w1 A a) (hn : a.length = n) (hb : n ≤ BB) :
    Calls Tryz.prog 9 #[.pointer (some ⟨g, 0, none⟩), .int .i64 c, .int .i64 s, .slice A n cap] w1 fun e w' => e = .returned (.int .i64 (t.kind c s)) ∧ ∃ F', RunT w w' g (t.put c s a) F' ∧ Fr F w1 w' ∧ ∀ x, x < w1.heap.size → ¬ F x → ¬ F' x := by
  refine (put_any h.tb h.ok hc hs hr hn hb).mono ?_
  rintro e w' ⟨rfl, F', h1, h2, h3⟩
  refine ⟨rfl, F', ⟨h.fr.trans h2 (fun x hx e => by have := h.low x e; omega), h1, fun k hk => ?_, h.ok.put c s a, h.sm.put h.ok c s (by omega)⟩, h2, fun x hx hF hF' => ?_⟩
  · rcases h3 k hk with e | e
    · exact h.low k e
    · have := h.fr.size; omega
  · rcases h3 x hF' with e | e
    · exact hF e
    · omega
theorem RunT.lookC {w w1 : World} {g : Nat} {t : DT} {F : Nat → Prop} (h : RunT w w1 g t F) {c s : Int} (hc : I64 c) (hs : I64 s) :
    Calls Tryz.prog 15 #[.pointer (some ⟨g, 0, none⟩), .int .i64 c, .int .i64 s] w1 fun e w' => ∃ A' c', e = .returned (.tuple #[.int .i64 (t.kind c s), .slice A' (t.look c s).length c']) ∧ Own8 w' 5 (.slice A' (t.look c s).length c') (t.look c s) ∧ Fresh w1 w' (.slice A' (t.look c s).length c') ∧ RunT w w' g t F := by
  obtain ⟨ba, br, Da, Dr, hM⟩ := h.tb
  refine (look_any hM h.ok h.sm hc hs).mono ?_
  rintro e w' ⟨A', c', rfl, ho, hf⟩
  exact ⟨A', c', rfl, ho, hf, h.on0 hf.1⟩
theorem RunT.topC {w w1 : World} {g : Nat} {t : DT} {F : Nat → Prop} (h : RunT w w1 g t F) {c : Int} (hc : I64 c) :
    Calls Tryz.prog 33 #[.pointer (some ⟨g, 0, none⟩), .int .i64 c] w1 fun e w' => e = .returned (.int .i64 (t.top c)) ∧ w1 = w' := by
  obtain ⟨ba, br, Da, Dr, hM⟩ := h.tb
  exact top_any hM hc (by have := h.ok.len c; have := h.ok.w2; omega)
theorem RunT.lenC {w w1 : World} {g : Nat} {t : DT} {F : Nat → Prop} (h : RunT w w1 g t F) :
    Calls Tryz.prog 16 #[.pointer (some ⟨g, 0, none⟩)] w1 fun e w' => e = .returned (.int .i64 (t.n : Nat)) ∧ w1 = w' := by
  obtain ⟨ba, br, Da, Dr, hM⟩ := h.tb
  exact len_any hM
theorem RunT.made (win : Int) (w w0 : World) (hf : Fr (fun _ => False) w w0) (h1 : 1 ≤ win) (h2 : win ≤ 4096) :
    Calls Tryz.prog 7 #[.int .i64 win] w0 fun e w' => ∃ g F, e = .returned (.tuple #[.pointer (some ⟨g, 0, none⟩), .int .i64 0]) ∧ RunT w w' g (newT win) F ∧ ∀ k, F k → w0.heap.size ≤ k := by
  refine (newTable_yes win w0 h1 h2).mono ?_
  rintro e w' ⟨g, rfl, h3, h4⟩
  have := hf.size
  exact ⟨g, _, rfl, ⟨hf.trans h3 (fun _ _ h => h), h4, fun k hk => Nat.le_trans this hk.1, newT_ok h1 h2, fun c s h => by simp [newT] at h⟩, fun k hk => hk.1⟩

theorem rd8_lit (w : World) (b : UInt8) : Rd8 (w.alloc (.cells #[.int .u8 (b.toNat : Int)] 5 (1, 2))) (some ⟨w.heap.size, 0, none⟩) [b] := fun _ => by
  refine ⟨_, rfl, rfl, fun j hj => ?_⟩
  have : j = 0 := by simpa using hj
  subst this
  exact cell_of_row _ w.heap.size 0 #[.int .u8 (b.toNat : Int)] 5 (1, 2) (heap_alloc_new w _)
theorem conv_lit (w : World) (x : Value) : (convert 32 32 (.slice (some ⟨w.heap.size, 0, none⟩) 1 1)).run Tryz.prog (w.alloc (.cells #[x] 5)) = .ok (.slice (some ⟨w.heap.size, 0, none⟩) 1 1) (w.alloc (.cells #[x] 5 (1, 2))) :=
  Lib.run_convert_bytes_const (P := Tryz.prog) w 32 5 #[x] 1 1 Tryz.underlying32 Tryz.underlying5
theorem i1 : I64 1 := ⟨by omega, by omega⟩
theorem i5 : I64 5 := ⟨by omega, by omega⟩
theorem i7 : I64 7 := ⟨by omega, by omega⟩
def kt0 : DT := newT 2
def kt1 : DT := kt0.put 1 5 [120]
def kt2 : DT := kt1.put 1 5 [121]
def kt3 : DT := kt2.put 1 7 []
theorem kq0 : kt0.kind 1 5 = 0 := by decide +kernel
theorem kq1 : kt1.kind 1 5 = 1 := by decide +kernel
theorem kq2 : kt2.kind 1 5 = 1 ∧ kt2.look 1 5 = [120] ∧ kt2.kind 1 7 = 0 := by decide +kernel
theorem kq3 : kt3.kind 1 5 = 2 ∧ kt3.look 1 5 = [] ∧ kt3.n = 1 := by decide +kernel

set_option maxRecDepth 100000 in
set_option maxHeartbeats 4000000 in
theorem known_any (w : World) :
    Calls Tryz.prog 5 #[] w fun e w' => e = .returned (.bool true) ∧ Fr (fun _ => False) w w' := by
  have kc := conv_lit
  go_enter Tryz.func5, Tryz.ntmps5
  go_wp2_with fail
  refine (RunT.made 2 w w (Fr.refl _ _) (by omega) (by omega)).mono ?_; rintro e w1 ⟨g, F, rfl, h1, _⟩
  have H1 := Lib.hid (show RunT w w1 g kt0 F from h1)
  clear h1
  go_wp2_with fail
  have C1 := Lib.hid ((H1.out.on0 ((Fr.refl _ _).alloc (.cells #[.int .u8 120] 5 (1, 2)))).putC i1 i5 (cap := 1) (rd8_lit w1 120) rfl (by decide))
  rw [kq0] at C1
  clear H1
  refine C1.out.mono ?_; rintro e w2 ⟨rfl, F2, R2, _, _⟩
  have H2 := Lib.hid (show RunT w w2 g kt1 F2 from R2)
  clear C1 R2
  go_wp2_with fail
  have C2 := Lib.hid ((H2.out.on0 ((Fr.refl _ _).alloc (.cells #[.int .u8 121] 5 (1, 2)))).putC i1 i5 (cap := 1) (rd8_lit w2 121) rfl (by decide))
  rw [kq1] at C2
  clear H2
  refine C2.out.mono ?_; rintro e w3 ⟨rfl, F3, R3, _, _⟩
  have H3 := Lib.hid (show RunT w w3 g kt2 F3 from R3)
  clear C2 R3
  go_wp2_with fail
  have C3 := Lib.hid (H3.out.lookC i1 i5)
  rw [kq2.1, kq2.2.1] at C3
  refine C3.out.mono ?_; rintro e w4 ⟨A4, c4, rfl, ho4, hf4, R4⟩
  have H4 := Lib.hid R4
  have HO4 := Lib.hid ho4
  have HX4 : Hid (∀ k, (Value.slice A4 [(120 : UInt8)].length c4).ownBlock = some k → ¬ F3 k) := Lib.hid (fun k hk e => by have h1 := hf4.2 k hk; have h2 := H3.out.lt e; omega)
  clear C3 R4 ho4 hf4 H3
  go_wp2_with fail
  have C4 := Lib.hid (H4.out.putC i1 i7 (cap := 0) (Rd8.nil w4 none) rfl (by decide))
  rw [kq2.2.2] at C4
  refine C4.out.mono ?_; rintro e w5 ⟨rfl, F5, R5, hf5, hnF⟩
  have H5 := Lib.hid (show RunT w w5 g kt3 F5 from R5)
  have HO5 := Lib.hid (HO4.out.fr hf5 HX4.out)
  clear C4 R5 hf5 hnF HO4 HX4 H4
  go_wp2_with fail
  have C5 := Lib.hid (H5.out.lookC i1 i5)
  rw [kq3.1, kq3.2.1] at C5
  refine C5.out.mono ?_; rintro e w6 ⟨A6, c6, rfl, ho6, hf6, R6⟩
  have H6 := Lib.hid (show RunT w w6 g kt3 F5 from R6)
  have hst : (convert 32 9 (.slice A4 1 c4)).run Tryz.prog w6 = .ok (.string ⟨#[120]⟩) w6 := run_str8 (w := w6) Tryz.t8 Tryz.underlying5 Tryz.underlying9 c4 (HO5.out.fr hf6.1 (fun _ _ h => h)).rd rfl
  clear C5 R6 hf6 ho6 HO5 H5
  simp only [List.length_cons, List.length_nil, Nat.zero_add] at *
  have CL := Lib.hid H6.out.lenC
  rw [kq3.2.2] at CL
  go_wp2_with (go_at_call 16; refine CL.out.mono ?_; rintro e w7 ⟨rfl, rfl⟩)
  go_ret
  exact ⟨rfl, H6.out.fr⟩
end Go.Proofs.YtdfkoehcmgcoiaaGreatDoor
