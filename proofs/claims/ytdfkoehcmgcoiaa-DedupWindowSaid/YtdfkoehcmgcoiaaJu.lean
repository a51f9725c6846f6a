/- dedup: Each, whatever it is handed. -/
import Derived.Test.YtdfkoehcmgcoiaaJr
namespace Go.Proofs.Ytdfkoehcmgcoiaa
open Go.RowKit Go.Maps

theorem callE (args : Array Value) (W : World) : (callFunc 29 args).run Try.prog W = .ok (.enter 29 args) W := by
  go_simp
set_option maxRecDepth 100000 in
set_option maxHeartbeats 8000000 in
theorem each1_any {fb : Nat} {fn : FuncId} {caps : Array Value} {w : World} (hb : Bk w fb 41 #[.func (.func fn) #[] caps]) (hcf : ∀ args (W : World), (callFunc fn args).run Try.prog W = .ok (.enter fn args) W)
    {c s : Int} {A : Option Addr} {n cap : Nat} {a : List UInt8} (hr : Rd8 w A a) (hn : a.length = n) (hb8 : n ≤ 140737488355328) {Q : Bool → World → Prop}
    (hs : ∀ W A' c', Fr (fun _ => False) w W → Own8 W 5 (.slice A' n c') a → (∀ k, (Value.slice A' n c').ownBlock = some k → w.heap.size ≤ k) → Calls Try.prog fn (#[.int .i64 c, .int .i64 s, .slice A' n c'] ++ caps) W fun e W' => ∃ b, e = .returned (.bool b) ∧ Q b W') :
    Calls Try.prog 29 #[.agg #[.int .i64 c, .int .i64 s, .slice A n cap], .pointer (some ⟨fb, 0, none⟩)] w fun e W' => ∃ b, e = .returned (.bool b) ∧ Q b W' := by
  obtain ⟨eb, heb⟩ : ∃ eb, w.heap.size = eb := ⟨_, rfl⟩
  obtain ⟨W, hW⟩ : ∃ W, w.alloc (.cells #[.int .i64 c, .int .i64 s, .slice A n cap] 63) = W := ⟨_, rfl⟩
  have KW : Hid (Bk W eb 63 #[.int .i64 c, .int .i64 s, .slice A n cap]) := Lib.hid (by rw [← hW, ← heb]; exact Bk.new _ _ _)
  have FW : Hid (Fr (fun _ => False) w W) := Lib.hid (by rw [← hW]; exact (Fr.refl _ _).alloc _)
  have HC : Hid (∀ w', Fr (fun _ => False) W w' → w'.cell? ⟨fb, 0, none⟩ = some (.func (.func fn) #[] caps) ∧ w'.cell? ⟨eb, 0, none⟩ = some (.int .i64 c) ∧ w'.cell? ⟨eb, 1, none⟩ = some (.int .i64 s) ∧ w'.cell? ⟨eb, 2, none⟩ = some (.slice A n cap)) := Lib.hid (fun w' hf => by
    have g1 := KW.out.fr hf (fun h => h)
    have g2 := hb.fr (FW.out.trans hf (fun _ _ h => h)) (fun h => h)
    exact ⟨g2.cell 0, g1.cell 0, g1.cell 1, g1.cell 2⟩)
  have CC := Lib.hid (fun w' (hf : Fr (fun _ => False) w w') => clone_any A n cap a w' (hr.fr hf (fun _ _ _ h => h)) hn hb8)
  have HS := Lib.hid hs
  have HEB := Lib.hid heb
  clear hb hr hn hb8 hs
  go_enter Try.func29, Try.ntmps29
  go_wp2_with fail
  clear hW heb
  refine wp_region_Z [10] (fun w' => Fr (fun _ => False) W w') (by kernel_rfl) ((Fr.refl _ _).drew) (fun hHeld => ?_)
  refine anyZ_read (i := 0) (v := ?_) (some 4) [10, 11] rfl rfl (by kernel_rfl) (by kernel_rfl) (by kernel_rfl) (by kernel_rfl) (by kernel_rfl) (by kernel_rfl) (fun _ _ _ h => h) (Or.inl ⟨by rfl, ?_⟩) hHeld ?_
  rotate_left
  · intro w' hSw
    obtain ⟨x0, x1, x2, x3⟩ := HC.out w' hSw
    go_simp
    first | done | with_reducible rfl
  try simp only [Act.put, List.setIfInBounds_toArray, List.set_cons_zero, List.set_cons_succ]
  refine anyZ_pure (i := 1) (v := ?_) (some 5) rfl rfl (by kernel_rfl) (by kernel_rfl) (by kernel_rfl) (by kernel_rfl) (fun _ _ _ h => h) (Or.inl ⟨by rfl, ?_⟩) (fun _ => hHeld) ?_
  rotate_left
  · intro w' _
    go_simp
    first | done | with_reducible rfl
  try simp only [Act.put, List.setIfInBounds_toArray, List.set_cons_zero, List.set_cons_succ]
  refine anyZ_pure (i := 2) (v := ?_) (some 6) rfl rfl (by kernel_rfl) (by kernel_rfl) (by kernel_rfl) (by kernel_rfl) (fun _ _ _ h => h) (Or.inl ⟨by rfl, ?_⟩) (fun _ => hHeld) ?_
  rotate_left
  · intro w' _
    go_simp
    first | done | with_reducible rfl
  try simp only [Act.put, List.setIfInBounds_toArray, List.set_cons_zero, List.set_cons_succ]
  refine anyZ_read (i := 3) (v := ?_) (some 7) [10, 11] rfl rfl (by kernel_rfl) (by kernel_rfl) (by kernel_rfl) (by kernel_rfl) (by kernel_rfl) (by kernel_rfl) (fun _ _ _ h => h) (Or.inl ⟨by rfl, ?_⟩) hHeld ?_
  rotate_left
  · intro w' hSw
    obtain ⟨x0, x1, x2, x3⟩ := HC.out w' hSw
    go_simp
    first | done | with_reducible rfl
  try simp only [Act.put, List.setIfInBounds_toArray, List.set_cons_zero, List.set_cons_succ]
  refine anyZ_pure (i := 4) (v := ?_) (some 8) rfl rfl (by kernel_rfl) (by kernel_rfl) (by kernel_rfl) (by kernel_rfl) (fun _ _ _ h => h) (Or.inl ⟨by rfl, ?_⟩) (fun _ => hHeld) ?_
  rotate_left
  · intro w' _
    go_simp
    first | done | with_reducible rfl
  try simp only [Act.put, List.setIfInBounds_toArray, List.set_cons_zero, List.set_cons_succ]
  refine anyZ_pure (i := 5) (v := ?_) (some 9) rfl rfl (by kernel_rfl) (by kernel_rfl) (by kernel_rfl) (by kernel_rfl) (fun _ _ _ h => h) (Or.inl ⟨by rfl, ?_⟩) (fun _ => hHeld) ?_
  rotate_left
  · intro w' _
    go_simp
    first | done | with_reducible rfl
  try simp only [Act.put, List.setIfInBounds_toArray, List.set_cons_zero, List.set_cons_succ]
  refine anyZ_read (i := 6) (v := ?_) (some 10) [10, 11] rfl rfl (by kernel_rfl) (by kernel_rfl) (by kernel_rfl) (by kernel_rfl) (by kernel_rfl) (by kernel_rfl) (fun _ _ _ h => h) (Or.inl ⟨by rfl, ?_⟩) hHeld ?_
  rotate_left
  · intro w' hSw
    obtain ⟨x0, x1, x2, x3⟩ := HC.out w' hSw
    go_simp
    first | done | with_reducible rfl
  try simp only [Act.put, List.setIfInBounds_toArray, List.set_cons_zero, List.set_cons_succ]
  refine anyZ_pure (i := 7) (v := ?_) (some 11) rfl rfl (by kernel_rfl) (by kernel_rfl) (by kernel_rfl) (by kernel_rfl) (fun _ _ _ h => h) (Or.inl ⟨by rfl, ?_⟩) (fun _ => hHeld) ?_
  rotate_left
  · intro w' _
    go_simp
    first | done | with_reducible rfl
  try simp only [Act.put, List.setIfInBounds_toArray, List.set_cons_zero, List.set_cons_succ]
  refine anyZ_read (i := 8) (v := ?_) (some 12) [9, 10, 11] rfl rfl (by kernel_rfl) (by kernel_rfl) (by kernel_rfl) (by kernel_rfl) (by kernel_rfl) (by kernel_rfl) (fun _ _ _ h => h) (Or.inl ⟨by rfl, ?_⟩) hHeld ?_
  rotate_left
  · intro w' hSw
    obtain ⟨x0, x1, x2, x3⟩ := HC.out w' hSw
    go_simp
    first | done | with_reducible rfl
  try simp only [Act.put, List.setIfInBounds_toArray, List.set_cons_zero, List.set_cons_succ]
  refine anyZ_ready (rs := [9]) (by kernel_rfl) (by simp) ?_
  refine AllZ.step rfl (fun K hK => ?_) AllZ.nil
  go_simp
  refine (CC.out _ (FW.out.trans hHeld (fun _ _ h => h))).mono ?_; rintro e w9 ⟨A', c', rfl, ho, hfr⟩
  have HO := Lib.hid ho
  have HH := Lib.hid (hHeld.trans hfr.1 (fun _ _ h => h))
  have HN9 := Lib.hid (fun k hk => (show w.heap.size ≤ k by have h1 := hfr.2 k hk; have h2 := hHeld.size; have h3 := FW.out.size; omega))
  clear ho hfr CC
  try go_simp
  refine hK.out _ _ (HH.out) (fun hHeld => ?_)
  clear hK K
  try change anyZ _ _ _ _ _ _ _ _ (Act.put _ (some 13) _) _
  try simp only [Act.put, List.setIfInBounds_toArray, List.set_cons_zero, List.set_cons_succ]
  refine anyZ_ready (rs := [10]) (by kernel_rfl) (by simp) ?_
  refine AllZ.last rfl (by kernel_rfl) (fun K hK => ?_) AllZ.nil
  go_simp
  refine (HS.out w9 A' c' (FW.out.trans HH.out (fun _ _ h => h)) HO.out HN9.out).mono ?_; rintro e w10 ⟨b, rfl, hq⟩
  have HQ := Lib.hid hq
  clear hq
  try go_simp
  refine hK.out _ _ ?_
  clear hK K
  try change anyZ _ _ _ _ _ _ _ _ (Act.put _ (some 14) _) _
  try simp only [Act.put, List.setIfInBounds_toArray, List.set_cons_zero, List.set_cons_succ]
  refine anyZ_pure (i := 11) (v := ?_) (some 3) rfl rfl (by kernel_rfl) (by kernel_rfl) (by kernel_rfl) (by kernel_rfl) (fun _ _ _ h => h) (Or.inl ⟨by rfl, ?_⟩) (notYet (by kernel_rfl)) ?_
  rotate_left
  · intro w' _
    go_simp
    first | done | with_reducible rfl
  try simp only [Act.put, List.setIfInBounds_toArray, List.set_cons_zero, List.set_cons_succ]
  refine anyZ_done (by kernel_rfl) ?_ _
  go_wp2
  go_ret
  exact ⟨b, rfl, HQ.out⟩

/-- What a function that Each is handed keeps. -/
structure EachW (w : World) (F : Nat → Prop) (t : DT) (fn : FuncId) (caps : Array Value) (sj : Nat → Prop) (J : World → Nat → World → Prop) (Jx : World → World → Prop) : Prop where
  cf : ∀ args (W : World), (callFunc fn args).run Try.prog W = .ok (.enter fn args) W
  start : ∀ W1, Fr (fun _ => False) w W1 → J W1 0 W1
  fr : ∀ W1 i W, J W1 i W → Fr sj W1 W
  off : ∀ k, sj k → k < w.heap.size ∧ ¬ F k
  more : ∀ W1 i W W', J W1 i W → Fr (fun _ => False) W W' → J W1 i W'
  step : ∀ W1, Fr (fun _ => False) w W1 → ∀ i (h : i < t.lst.length) W, J W1 i W → ∀ A cap, Own8 W 5 (.slice A (t.ans t.lst[i].1 t.lst[i].2).length cap) (t.ans t.lst[i].1 t.lst[i].2) → (∀ k, (Value.slice A (t.ans t.lst[i].1 t.lst[i].2).length cap).ownBlock = some k → w.heap.size ≤ k) →
    Calls Try.prog fn (#[.int .i64 t.lst[i].1, .int .i64 t.lst[i].2, .slice A (t.ans t.lst[i].1 t.lst[i].2).length cap] ++ caps) W fun e W' => ∃ b, e = .returned (.bool b) ∧ (b = true → J W1 (i + 1) W') ∧ (b = false → Jx W1 W')

set_option maxRecDepth 100000 in
set_option maxHeartbeats 8000000 in
theorem each_any {g ba br : Nat} {F : Nat → Prop} {t : DT} {Da Dr : DV} {w : World} (h : TabM w g ba br F t Da Dr) (ok : t.ok) (sm : t.small 140737488355328)
    {fn : FuncId} {caps : Array Value} {sj : Nat → Prop} {J : World → Nat → World → Prop} {Jx : World → World → Prop} (hw : EachW w F t fn caps sj J Jx) :
    Calls Try.prog 13 #[.pointer (some ⟨g, 0, none⟩), .func (.func fn) #[] caps] w fun e w' => e = .returned (.tuple #[]) ∧ ∃ W1, Fr (fun _ => False) w W1 ∧ (J W1 t.lst.length w' ∨ Jx W1 w') := by
  have hmf : ∀ (fn : Fn) (first cap : Array Value) (w : World), (Instr.makeFunc fn first cap).run Try.prog w = .ok (.func fn first cap) w := fun _ _ _ _ => rfl
  obtain ⟨av, hav, hat⟩ := h.av ok.took0
  have fa : Fr (fun _ => False) w (w.alloc (.cells #[.func (.func fn) #[] caps] 41)) := (Fr.refl _ _).alloc _
  have ka := Bk.new w 41 #[.func (.func fn) #[] caps]
  have hsz : (w.alloc (.cells #[.func (.func fn) #[] caps] 41)).heap.size = w.heap.size + 1 := by simp
  have hwk : Walks (w.alloc (.cells #[.func (.func fn) #[] caps] 41)) F t av 29 #[.pointer (some ⟨w.heap.size, 0, none⟩)] J Jx := by
    refine ⟨callE, fun W1 hf => hw.start W1 (fa.trans hf (fun _ _ h => h)), fun W1 i W hJ => (hw.fr W1 i W hJ).mono (fun k _ e => by have := (hw.off k e).1; omega), hw.more, fun W1 hf i hi W hJ A n cap e4 => ?_⟩
    have hm : t.lst[i].1 ∈ t.cs ∧ t.lst[i].2 ∈ t.row t.lst[i].1 := mem_lst.1 (List.getElem_mem hi)
    have f1 := hw.fr W1 i W hJ
    have hv := (hav.fr (fa.trans hf (fun _ _ h => h)) (fun _ _ h => h)).fr f1 (fun k hk e => (hw.off k e).2 hk)
    obtain ⟨A', cap', e5, hr, _⟩ := hv.at_ _ _ hm.1 hm.2
    rw [e4] at e5
    injection e5 with e6 e7 e8
    subst e6 e7 e8
    have hbk : Bk W w.heap.size 41 #[.func (.func fn) #[] caps] := (ka.fr hf (fun h => h)).fr f1 (fun e => by have := (hw.off _ e).1; omega)
    have hs0 : w.heap.size ≤ W.heap.size := by have h1 := hf.size; have h2 := f1.size; omega
    refine (each1_any (c := t.lst[i].1) (s := t.lst[i].2) (cap := cap) (Q := fun b W' => (b = true → J W1 (i + 1) W') ∧ (b = false → Jx W1 W')) hbk hw.cf hr rfl (sm _ _ hm.2) (fun W' A' c' hf' ho hnew => ?_)).mono ?_
    · exact hw.step W1 (fa.trans hf (fun _ _ h => h)) i hi W' (hw.more W1 i W W' hJ hf') A' c' ho (fun k hk => by have := hnew k hk; omega)
    · rintro e W' ⟨b, h1, h2⟩
      exact ⟨b, h1, h2.1, h2.2⟩
  have CW := Lib.hid (walk_any (h.fr fa (fun _ _ h => h)) ok (hav.fr fa (fun _ _ h => h)) hat hwk)
  have FA := Lib.hid fa
  clear h ok sm hw hav hat fa ka hsz hwk
  go_enter Try.func13, Try.ntmps13
  go_wp2_with fail
  refine CW.out.mono ?_; rintro e w2 ⟨rfl, W1, hf, hJ⟩
  have HF := Lib.hid (FA.out.trans hf (fun _ _ h => h))
  have HJ := Lib.hid hJ
  clear hf hJ CW
  go_wp2
  refine bodyPost_end (results_none rfl _ _ _) rfl ⟨rfl, W1, HF.out, HJ.out⟩
end Go.Proofs.Ytdfkoehcmgcoiaa
