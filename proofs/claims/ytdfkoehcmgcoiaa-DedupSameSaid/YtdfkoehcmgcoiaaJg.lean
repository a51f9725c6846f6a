/- dedup: Look. -/
import Derived.Test.YtdfkoehcmgcoiaaJf
import Derived.Test.YtdfkoehcmgcoiaaNz
namespace Go.Proofs.Ytdfkoehcmgcoiaa
open Go.RowKit Go.Maps

/-- The answer that a request has. -/
def DT.look (t : DT) (c s : Int) : List UInt8 := if s ∈ t.row c then t.ans c s else []
/-- No answer is longer than B. -/
def DT.small (t : DT) (B : Nat) : Prop := ∀ c s, s ∈ t.row c → (t.ans c s).length ≤ B
theorem DT.small.look {t : DT} {B : Nat} (h : t.small B) (c s : Int) : (t.look c s).length ≤ B := by
  unfold DT.look; split
  · exact h c s (by assumption)
  · simp
theorem TabM.lookA {g ba br : Nat} {F : Nat → Prop} {t : DT} {Da Dr : DV} {w : World} (h : TabM w g ba br F t Da Dr) {c s : Int} (hc : I64 c) (hs : I64 s) :
    ∃ A cap, ∀ w', Fr (fun _ => False) w w' → ∀ ok, (Instr.lookup 53 (.map (some ba)) (kyV c s) ok).run Try.prog w' = .ok (if ok then .tuple #[.slice A (t.look c s).length cap, .bool (decide (s ∈ t.row c))] else .slice A (t.look c s).length cap) w' ∧ Rd8 w' A (t.look c s) ∧ ∀ ad, A = some ad → 0 < (t.look c s).length → F ad.block := by
  by_cases hm : s ∈ t.row c
  · obtain ⟨A, cap, h1, h2, h3⟩ := h.ans c s hc hs hm
    have e : t.look c s = t.ans c s := if_pos hm
    rw [e]
    refine ⟨A, cap, fun w' hf ok => ⟨?_, h2.fr hf (fun _ _ _ h => h), fun ad e h0 => (h3 ad e h0).1⟩⟩
    have := (h.ma.fr hf (fun h => h)).at1 kKey tKey (zeroAns w') (ky_of hc hs) h1
    cases ok
    · exact this.2
    · rw [decide_eq_true hm]; exact this.1
  · have e : t.look c s = [] := if_neg hm
    rw [e]
    refine ⟨none, 0, fun w' hf ok => ⟨?_, Rd8.nil _ _, fun ad e => by cases e⟩⟩
    have := (h.ma.fr hf (fun h => h)).at0 kKey tKey (zeroAns w') (ky_of hc hs) (h.noAns c s hc hs hm)
    cases ok
    · exact this.2
    · rw [decide_eq_false hm]; exact this.1

set_option maxRecDepth 100000 in
set_option maxHeartbeats 4000000 in
theorem look_any {g ba br : Nat} {F : Nat → Prop} {t : DT} {Da Dr : DV} {w : World} (h : TabM w g ba br F t Da Dr) (ok : t.ok) (sm : t.small 140737488355328) {c s : Int} (hc : I64 c) (hs : I64 s) :
    Calls Try.prog 10 #[.pointer (some ⟨g, 0, none⟩), .int .i64 c, .int .i64 s] w fun e w' => ∃ A' c', e = .returned (.tuple #[.int .i64 (t.kind c s), .slice A' (t.look c s).length c']) ∧ Own8 w' 5 (.slice A' (t.look c s).length c') (t.look c s) ∧ Fresh w w' (.slice A' (t.look c s).length c') := by
  have CK := Lib.hid (fun w' (hf : Fr (fun _ => False) w w') => kind_any (h.fr hf (fun _ _ h => h)) ok hc hs)
  obtain ⟨A, cap, hlk⟩ := h.lookA hc hs
  have hsm := sm.look c s
  have HLK := Lib.hid (fun w' (hf : Fr (fun _ => False) w w') => (hlk w' hf false).1)
  have HB := Lib.hid h.blk
  have CC := Lib.hid (fun w' (hf : Fr (fun _ => False) w w') => clone_any A (t.look c s).length cap (t.look c s) w' (hlk w' hf false).2.1 rfl hsm)
  generalize t.look c s = xs at *
  generalize t.kind c s = kd at *
  obtain ⟨n, hn⟩ : ∃ n, xs.length = n := ⟨_, rfl⟩
  rw [hn] at HLK CC ⊢
  obtain ⟨g0, hg0⟩ : ∃ g0, w.heap.size = g0 := ⟨_, rfl⟩
  obtain ⟨W, hW⟩ : ∃ W, w.alloc (.cells #[.int .i64 c, .int .i64 s] 48) = W := ⟨_, rfl⟩
  have KW : Hid (Bk W g0 48 #[.int .i64 c, .int .i64 s]) := Lib.hid (by rw [← hW, ← hg0]; exact Bk.new _ _ _)
  have FW : Hid (Fr (fun _ => False) w W) := Lib.hid (by rw [← hW]; exact (Fr.refl _ _).alloc _)
  have HC : Hid (∀ w', Fr (fun _ => False) W w' → w'.cell? ⟨g0, 0, none⟩ = some (.int .i64 c) ∧ w'.cell? ⟨g0, 1, none⟩ = some (.int .i64 s) ∧ w'.cell? ⟨g, 1, none⟩ = some (.map (some ba)) ∧ (Instr.lookup 53 (.map (some ba)) (.agg #[.int .i64 c, .int .i64 s]) false).run Try.prog w' = .ok (.slice A n cap) w') := Lib.hid (fun w' hf => by
    have g1 := KW.out.fr hf (fun h => h)
    have g2 := HB.out.fr (FW.out.trans hf (fun _ _ h => h)) (fun h => h)
    exact ⟨g1.cell 0, g1.cell 1, g2.cell 1, HLK.out w' (FW.out.trans hf (fun _ _ h => h))⟩)
  clear h ok sm hlk hsm hn hc hs HLK HB
  unfold kyV at CK
  go_enter Try.func10, Try.ntmps10
  go_wp2_with fail
  clear hW hg0
  refine wp_region_Z [9] (fun w' => Fr (fun _ => False) W w') (by kernel_rfl) ((Fr.refl _ _).drew) (fun hHeld => ?_)
  refine anyZ_pure (i := 0) (v := ?_) (some 12) rfl rfl (by kernel_rfl) (by kernel_rfl) (by kernel_rfl) (by kernel_rfl) (fun _ _ _ h => h) (Or.inl ⟨by rfl, ?_⟩) (fun _ => hHeld) ?_
  rotate_left
  · intro w' _
    go_simp
    first | done | with_reducible rfl
  try simp only [Act.put, List.setIfInBounds_toArray, List.set_cons_zero, List.set_cons_succ]
  refine anyZ_read (i := 1) (v := ?_) (some 13) [2, 9, 10, 11] rfl rfl (by kernel_rfl) (by kernel_rfl) (by kernel_rfl) (by kernel_rfl) (by kernel_rfl) (by kernel_rfl) (fun _ _ _ h => h) (Or.inl ⟨by rfl, ?_⟩) hHeld ?_
  rotate_left
  · intro w' hSw
    obtain ⟨x0, x1, x2, x3⟩ := HC.out w' hSw
    go_simp
    first | done | with_reducible rfl
  try simp only [Act.put, List.setIfInBounds_toArray, List.set_cons_zero, List.set_cons_succ]
  refine anyZ_pure (i := 3) (v := ?_) (some 15) rfl rfl (by kernel_rfl) (by kernel_rfl) (by kernel_rfl) (by kernel_rfl) (fun _ _ _ h => h) (Or.inl ⟨by rfl, ?_⟩) (fun _ => hHeld) ?_
  rotate_left
  · intro w' _
    go_simp
    first | done | with_reducible rfl
  try simp only [Act.put, List.setIfInBounds_toArray, List.set_cons_zero, List.set_cons_succ]
  refine anyZ_pure (i := 4) (v := ?_) (some 16) rfl rfl (by kernel_rfl) (by kernel_rfl) (by kernel_rfl) (by kernel_rfl) (fun _ _ _ h => h) (Or.inl ⟨by rfl, ?_⟩) (fun _ => hHeld) ?_
  rotate_left
  · intro w' _
    go_simp
    first | done | with_reducible rfl
  try simp only [Act.put, List.setIfInBounds_toArray, List.set_cons_zero, List.set_cons_succ]
  refine anyZ_pure (i := 5) (v := ?_) (some 17) rfl rfl (by kernel_rfl) (by kernel_rfl) (by kernel_rfl) (by kernel_rfl) (fun _ _ _ h => h) (Or.inl ⟨by rfl, ?_⟩) (fun _ => hHeld) ?_
  rotate_left
  · intro w' _
    go_simp
    first | done | with_reducible rfl
  try simp only [Act.put, List.setIfInBounds_toArray, List.set_cons_zero, List.set_cons_succ]
  refine anyZ_read (i := 6) (v := ?_) (some 18) [8, 9, 10, 11] rfl rfl (by kernel_rfl) (by kernel_rfl) (by kernel_rfl) (by kernel_rfl) (by kernel_rfl) (by kernel_rfl) (fun _ _ _ h => h) (Or.inl ⟨by rfl, ?_⟩) hHeld ?_
  rotate_left
  · intro w' hSw
    obtain ⟨x0, x1, x2, x3⟩ := HC.out w' hSw
    go_simp
    first | done | with_reducible rfl
  try simp only [Act.put, List.setIfInBounds_toArray, List.set_cons_zero, List.set_cons_succ]
  refine anyZ_read (i := 7) (v := ?_) (some 19) [8, 9, 10, 11] rfl rfl (by kernel_rfl) (by kernel_rfl) (by kernel_rfl) (by kernel_rfl) (by kernel_rfl) (by kernel_rfl) (fun _ _ _ h => h) (Or.inl ⟨by rfl, ?_⟩) hHeld ?_
  rotate_left
  · intro w' hSw
    obtain ⟨x0, x1, x2, x3⟩ := HC.out w' hSw
    go_simp
    first | done | with_reducible rfl
  try simp only [Act.put, List.setIfInBounds_toArray, List.set_cons_zero, List.set_cons_succ]
  refine anyZ_read (i := 8) (v := ?_) (some 20) [9, 10, 11] rfl rfl (by kernel_rfl) (by kernel_rfl) (by kernel_rfl) (by kernel_rfl) (by kernel_rfl) (by kernel_rfl) (fun _ _ _ h => h) (Or.inl ⟨by rfl, ?_⟩) hHeld ?_
  rotate_left
  · intro w' hSw
    obtain ⟨x0, x1, x2, x3⟩ := HC.out w' hSw
    go_simp
    first | done | with_reducible rfl
  try simp only [Act.put, List.setIfInBounds_toArray, List.set_cons_zero, List.set_cons_succ]
  refine anyZ_ready (rs := [2]) (by kernel_rfl) (by simp) ?_
  refine AllZ.step rfl (fun K hK => ?_) AllZ.nil
  go_simp
  refine (CK.out _ (FW.out.trans hHeld (fun _ _ h => h))).mono ?_; rintro e w2 ⟨rfl, hf2⟩
  have HF2 := Lib.hid (hHeld.trans hf2 (fun _ _ h => h))
  clear hf2
  try go_simp
  refine hK.out _ _ (HF2.out) (fun hHeld => ?_)
  clear hK K
  try change anyZ _ _ _ _ _ _ _ _ (Act.put _ (some 14) _) _
  try simp only [Act.put, List.setIfInBounds_toArray, List.set_cons_zero, List.set_cons_succ]
  refine anyZ_ready (rs := [9]) (by kernel_rfl) (by simp) ?_
  refine AllZ.last rfl (by kernel_rfl) (fun K hK => ?_) AllZ.nil
  go_simp
  refine (CC.out _ (FW.out.trans hHeld (fun _ _ h => h))).mono ?_; rintro e w9 ⟨A', c', rfl, ho, hfr⟩
  have HO := Lib.hid ho
  have HR := Lib.hid (hfr.1)
  have HR2 := Lib.hid (hfr.2)
  have HH := Lib.hid hHeld
  clear ho hfr
  try go_simp
  refine hK.out _ _ ?_
  clear hK K
  try change anyZ _ _ _ _ _ _ _ _ (Act.put _ (some 21) _) _
  try simp only [Act.put, List.setIfInBounds_toArray, List.set_cons_zero, List.set_cons_succ]
  refine anyZ_pure (i := 10) (v := ?_) (some 6) rfl rfl (by kernel_rfl) (by kernel_rfl) (by kernel_rfl) (by kernel_rfl) (fun _ _ _ h => h) (Or.inl ⟨by rfl, ?_⟩) (notYet (by kernel_rfl)) ?_
  rotate_left
  · intro w' _
    go_simp
    first | done | with_reducible rfl
  try simp only [Act.put, List.setIfInBounds_toArray, List.set_cons_zero, List.set_cons_succ]
  refine anyZ_pure (i := 11) (v := ?_) (some 7) rfl rfl (by kernel_rfl) (by kernel_rfl) (by kernel_rfl) (by kernel_rfl) (fun _ _ _ h => h) (Or.inl ⟨by rfl, ?_⟩) (notYet (by kernel_rfl)) ?_
  rotate_left
  · intro w' _
    go_simp
    first | done | with_reducible rfl
  try simp only [Act.put, List.setIfInBounds_toArray, List.set_cons_zero, List.set_cons_succ]
  refine anyZ_done (by kernel_rfl) ?_ _
  go_wp2
  go_ret2
  refine ⟨A', c', rfl, HO.out, (FW.out.trans HH.out (fun _ _ h => h)).trans HR.out (fun _ _ h => h), fun k hk => ?_⟩
  have := HR2.out k hk
  have := (FW.out.trans HH.out (fun _ _ h => h)).size
  omega
end Go.Proofs.Ytdfkoehcmgcoiaa
