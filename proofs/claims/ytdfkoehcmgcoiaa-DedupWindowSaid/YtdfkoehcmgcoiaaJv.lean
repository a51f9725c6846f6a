/- DedupWindow: what its function counts. -/
import Derived.Test.YtdfkoehcmgcoiaaJu
namespace Go.Proofs.Ytdfkoehcmgcoiaa
open Go.RowKit Go.Maps

def cntL (l : List (Int × Int)) (c : Int) : Nat := l.countP fun p => p.1 == c
theorem cntL_snoc (l : List (Int × Int)) (p : Int × Int) (c : Int) : cntL (l ++ [p]) c = cntL l c + if p.1 = c then 1 else 0 := by
  unfold cntL
  rw [List.countP_append, List.countP_singleton]
  by_cases h : p.1 = c <;> simp [h]
theorem cntL_flat (t : DT) (c : Int) : ∀ l : List Int, Rise l → cntL (l.flatMap fun x => (t.row x).map fun s => (x, s)) c = if c ∈ l then (t.row c).length else 0
  | [], _ => rfl
  | a :: l, h => by
    obtain ⟨p1, p2⟩ := List.pairwise_cons.1 h
    have ih := cntL_flat t c l p2
    have e : cntL ((a :: l).flatMap fun x => (t.row x).map fun s => (x, s)) c = cntL ((t.row a).map fun s => (a, s)) c + cntL (l.flatMap fun x => (t.row x).map fun s => (x, s)) c := by
      unfold cntL; rw [List.flatMap_cons, List.countP_append]
    rw [e, ih]
    by_cases ha : a = c
    · subst ha
      have hn : a ∉ l := fun hx => by have := p1 a hx; omega
      rw [if_neg hn, if_pos (by simp)]
      unfold cntL
      rw [List.countP_map]
      have : ((fun p : Int × Int => p.1 == a) ∘ fun s => (a, s)) = fun _ => true := by funext s; simp
      rw [this]; simp
    · have e0 : cntL ((t.row a).map fun s => (a, s)) c = 0 := by
        unfold cntL
        rw [List.countP_map, List.countP_eq_zero]
        intro s _; simp [ha]
      rw [e0]
      by_cases hc : c ∈ l
      · rw [if_pos hc, if_pos (by simp [hc])]; omega
      · rw [if_neg hc, if_neg (by simp [hc, Ne.symm ha])]
/-- A map of counts. -/
structure Cnt (D : DataW Unit) (l : List (Int × Int)) : Prop where
  at_ : ∀ c, I64 c → D.atKey (.int .i64 c) (.lit (.int .i64 0)) = .lit (.int .i64 (cntL l c : Nat))
  has_ : ∀ c, I64 c → (has D (.int .i64 c) = true ↔ 0 < cntL l c)
theorem Cnt.start : Cnt (.map []) [] := ⟨fun _ _ => rfl, fun c _ => by simp [cntL, has_eq]⟩
theorem Cnt.step {D : DataW Unit} {l : List (Int × Int)} (h : Cnt D l) (hm : IsMap D) (p : Int × Int) : Cnt (D.put (.int .i64 p.1) (.lit (.int .i64 ((cntL l p.1 : Nat) + 1)))) (l ++ [p]) := by
  constructor
  · intro c hc
    rw [cntL_snoc]
    by_cases e : p.1 = c
    · subst e
      rw [atKey_put_same hm (i_key _), if_pos rfl]; push_cast; rfl
    · rw [atKey_put_other (lit_ne (fun e' => e e'.symm)), h.at_ c hc, if_neg e]; rfl
  · intro c hc
    rw [cntL_snoc]
    by_cases e : p.1 = c
    · subst e
      rw [has_put_same hm (i_key _), if_pos rfl]; simp
    · rw [has_put_other (lit_ne (fun e' => e e'.symm)), h.has_ c hc, if_neg e]; rfl
set_option maxRecDepth 100000 in
theorem AM.update {w : World} {b n : Nat} {D : DataW Unit} (h : AM w b n D) (hn : n < maxLen) {c x : Int} (hc : I64 c) (hx : I64 x) :
    ∃ w', (Instr.mapUpdate 39 (.map (some b)) (.int .i64 c) (.int .i64 x)).run Try.prog w = .ok () w' ∧ AM w' b (n + 1) (D.put (.int .i64 c) (.lit (.int .i64 x))) ∧ Fr (fun k => k = b) w w' := by
  have hv : plainElem (H := Unit) Try.prog 3 (.int .i64 x) = some (.lit (.int .i64 x), []) := plainElem_int Try.underlying3 hx.wf
  obtain ⟨w', h1, h2, h3⟩ := World.ownsMap.update h kInt Try.underlying39 hn hc.key hv
  exact ⟨w', h1, h2, (Fr.of_grown h3).mono (fun _ _ e => (Option.some.inj e).symm)⟩
theorem Bk.fr_set0 {w : World} (b : Nat) (u : Value) : Fr (fun k => k = b) w (w.setCell ⟨b, 0, none⟩ u) := Fr.setCell (S := fun k => k = b) (p := ⟨b, 0, none⟩) (Fr.refl _ _) (fun _ => rfl) _
theorem AM.look {w : World} {b n : Nat} {D : DataW Unit} {l : List (Int × Int)} (h : AM w b n D) (hC : Cnt D l) {c : Int} (hc : I64 c) :
    (Instr.lookup 39 (.map (some b)) (.int .i64 c) false).run Try.prog w = .ok (.int .i64 (cntL l c : Nat)) w := by
  obtain ⟨x, h1, h2, _⟩ := World.ownsMap.lookup_int h kInt Try.underlying39 Try.underlying3 (zeroInt w) hc.key
  rw [hC.at_ c hc] at h2
  have h3 : (cntL l c : Int) = x := by simpa using h2
  rw [← h3] at h1
  exact h1

set_option maxRecDepth 100000 in
set_option maxHeartbeats 8000000 in
theorem win1_any {w0 w : World} {g nbx nb okb tb wb i : Nat} {t : DT} {F : Nat → Prop} {win c s : Int} {l : List (Int × Int)} {D : DataW Unit} {v : Value}
    (hn : Bk w nbx 39 #[.map (some nb)]) (ho : Bk w okb 4 #[.bool true]) (ht : Bk w tb 25 #[.pointer (some ⟨g, 0, none⟩)]) (hw : Bk w wb 3 #[.int .i64 win])
    (hR : RunT w0 w g t F) (hm : AM w nb i D) (hC : Cnt D l) (hi : i ≤ 4294971392) (hl : l.length ≤ 4294971392) (hc : I64 c) (hwin : t.win = win) (hnF : ¬ F nb) (hoF : ¬ F okb) (h1 : s ≤ t.top c) (h2 : t.top c - win < s) :
    Calls Try.prog 14 #[.int .i64 c, .int .i64 s, v, .pointer (some ⟨nbx, 0, none⟩), .pointer (some ⟨okb, 0, none⟩), .pointer (some ⟨tb, 0, none⟩), .pointer (some ⟨wb, 0, none⟩)] w fun e w' =>
      e = .returned (.bool true) ∧ AM w' nb (i + 1) (D.put (.int .i64 c) (.lit (.int .i64 ((cntL l c : Nat) + 1)))) ∧ Bk w' okb 4 #[.bool true] ∧ Fr (fun k => k = nb ∨ k = okb) w w' := by
  have hcl : cntL l c ≤ l.length := List.countP_le_length
  have htr := hR.ok.top_rng c
  have hw1 := hR.ok.w1
  have hw2 := hR.ok.w2
  obtain ⟨x, hx⟩ : ∃ x, cntL l c = x := ⟨_, rfl⟩
  have hlk := hm.look hC hc
  rw [hx] at hlk ⊢
  have hxI : I64 ((x : Int) + 1) := I64.of (by omega) (by omega)
  have wx : IntKind.i64.wrap ((x : Int) + 1) = (x : Int) + 1 := IntWalk.i64_in _ (by omega)
  obtain ⟨w1, hrun, hm1, hf1⟩ := hm.update (by unfold maxLen; omega) hc hxI
  have c3 : w.cell? ⟨nbx, 0, none⟩ = some (.map (some nb)) := hn.cell 0
  have H1 := Lib.hid (show AM w1 nb (i + 1) (D.put (.int .i64 c) (.lit (.int .i64 ((x : Int) + 1)))) from hm1)
  have HF1 := Lib.hid hf1
  have HX := Lib.hid (show okb ≠ nb ∧ tb ≠ nb ∧ wb ≠ nb from ⟨hm.ne ho, hm.ne ht, hm.ne hw⟩)
  have HO := Lib.hid (ho.fr hf1 HX.out.1)
  have HT := Lib.hid (ht.fr hf1 HX.out.2.1)
  have HW := Lib.hid (hw.fr hf1 HX.out.2.2)
  have HR1 := Lib.hid (hR.tb.fr hf1 (fun k hk e => hnF (e ▸ hk)))
  have HOK := Lib.hid hR.ok
  have CT : Hid (∀ w', Fr (fun _ => False) w1 w' → Calls Try.prog 11 #[.pointer (some ⟨g, 0, none⟩), .int .i64 c] w' fun e w2 => e = .returned (.int .i64 (t.top c)) ∧ w' = w2) := Lib.hid (fun w' hf => by
    obtain ⟨ba, br, Da, Dr, hM⟩ := HR1.out
    exact top_any (hM.fr hf (fun _ _ h => h)) hc (by have := HOK.out.len c; omega))
  have HC : Hid (∀ w', Fr (fun _ => False) w1 w' → w'.cell? ⟨okb, 0, none⟩ = some (.bool true) ∧ w'.cell? ⟨tb, 0, none⟩ = some (.pointer (some ⟨g, 0, none⟩)) ∧ w'.cell? ⟨wb, 0, none⟩ = some (.int .i64 win) ∧ w'.frozen? ⟨okb, 0, none⟩ = false) := Lib.hid (fun w' hf =>
    ⟨(HO.out.fr hf (fun h => h)).cell 0, (HT.out.fr hf (fun h => h)).cell 0, (HW.out.fr hf (fun h => h)).cell 0, (HO.out.fr hf (fun h => h)).frozen 0⟩)
  rw [hwin] at hw1 hw2 
  obtain ⟨tp, htp⟩ : ∃ tp, t.top c = tp := ⟨_, rfl⟩
  rw [htp] at CT htr h1 h2
  have wz : IntKind.i64.wrap (tp - win) = tp - win := IntWalk.i64_in _ (by omega)
  have d1 : decide (s ≤ tp) = true := decide_eq_true h1
  have d2 : decide (tp - win < s) = true := decide_eq_true h2
  clear hn ho ht hw hR hm hC hi hl hc hwin hnF hoF hcl htr hw1 hw2 hx hxI hm1 hf1 htp h1 h2
  go_enter Try.func14, Try.ntmps14
  go_wp2_with fail
  clear hlk hrun c3
  refine wp_region_Z [17] (fun w' => Fr (fun _ => False) w1 w') (by kernel_rfl) ((Fr.refl _ _).drew) (fun hHeld => ?_)
  refine anyZ_read (i := 0) (v := ?_) (some 15) [1, 2, 3, 4, 5, 6, 7, 8, 9, 10, 11, 12, 13, 14, 15, 16, 17] rfl rfl (by kernel_rfl) (by kernel_rfl) (by kernel_rfl) (by kernel_rfl) (by kernel_rfl) (by kernel_rfl) (fun _ _ _ h => h) (Or.inl ⟨by rfl, ?_⟩) hHeld ?_
  rotate_left
  · intro w' hSw
    obtain ⟨x0, x1, x2, x3⟩ := HC.out w' hSw
    go_simp
    first | done | with_reducible rfl
  try simp only [Act.put, List.setIfInBounds_toArray, List.set_cons_zero, List.set_cons_succ]
  refine anyZ_pure (i := 1) (v := ?_) (some 16) rfl rfl (by kernel_rfl) (by kernel_rfl) (by kernel_rfl) (by kernel_rfl) (fun _ _ _ h => h) (Or.inl ⟨by rfl, ?_⟩) (fun _ => hHeld) ?_
  rotate_left
  · intro w' _
    go_simp
    first | done | with_reducible rfl
  try simp only [Act.put, List.setIfInBounds_toArray, List.set_cons_zero, List.set_cons_succ]
  refine anyZ_pure (i := 2) (v := ?_) (some 17) rfl rfl (by kernel_rfl) (by kernel_rfl) (by kernel_rfl) (by kernel_rfl) (fun _ _ _ h => h) (Or.inl ⟨by rfl, ?_⟩) (fun _ => hHeld) ?_
  rotate_left
  · intro w' _
    go_simp
    first | done | with_reducible rfl
  try simp only [Act.put, List.setIfInBounds_toArray, List.set_cons_zero, List.set_cons_succ]
  refine anyZ_read (i := 3) (v := ?_) (some 18) [5, 6, 7, 8, 9, 10, 11, 12, 13, 14, 15, 16, 17] rfl rfl (by kernel_rfl) (by kernel_rfl) (by kernel_rfl) (by kernel_rfl) (by kernel_rfl) (by kernel_rfl) (fun _ _ _ h => h) (Or.inl ⟨by rfl, ?_⟩) hHeld ?_
  rotate_left
  · intro w' hSw
    obtain ⟨x0, x1, x2, x3⟩ := HC.out w' hSw
    go_simp
    first | done | with_reducible rfl
  try simp only [Act.put, List.setIfInBounds_toArray, List.set_cons_zero, List.set_cons_succ]
  refine anyZ_pure (i := 4) (v := ?_) (some 19) rfl rfl (by kernel_rfl) (by kernel_rfl) (by kernel_rfl) (by kernel_rfl) (fun _ _ _ h => h) (Or.inl ⟨by rfl, ?_⟩) (fun _ => hHeld) ?_
  rotate_left
  · intro w' _
    go_simp
    first | done | with_reducible rfl
  try simp only [Act.put, List.setIfInBounds_toArray, List.set_cons_zero, List.set_cons_succ]
  refine anyZ_ready (rs := [5]) (by kernel_rfl) (by simp) ?_
  refine AllZ.step rfl (fun K hK => ?_) AllZ.nil
  go_simp
  refine (CT.out _ hHeld).mono ?_; rintro e w5 ⟨rfl, rfl⟩
  try go_simp
  refine hK.out _ _ (hHeld) (fun hHeld => ?_)
  clear hK K
  try change anyZ _ _ _ _ _ _ _ _ (Act.put _ (some 20) _) _
  try simp only [Act.put, List.setIfInBounds_toArray, List.set_cons_zero, List.set_cons_succ]
  refine anyZ_pure (i := 6) (v := ?_) (some 21) rfl rfl (by kernel_rfl) (by kernel_rfl) (by kernel_rfl) (by kernel_rfl) (fun _ _ _ h => h) (Or.inl ⟨by rfl, ?_⟩) (fun _ => hHeld) ?_
  rotate_left
  · intro w' _
    go_simp
    first | done | with_reducible rfl
  try simp only [Act.put, List.setIfInBounds_toArray, List.set_cons_zero, List.set_cons_succ]
  refine anyZ_pure (i := 7) (v := ?_) (some 22) rfl rfl (by kernel_rfl) (by kernel_rfl) (by kernel_rfl) (by kernel_rfl) (fun _ _ _ h => h) (Or.inl ⟨by rfl, ?_⟩) (fun _ => hHeld) ?_
  rotate_left
  · intro w' _
    go_simp
    first | done | with_reducible rfl
  try simp only [Act.put, List.setIfInBounds_toArray, List.set_cons_zero, List.set_cons_succ]
  refine anyZ_pure (i := 8) (v := ?_) (some 23) rfl rfl (by kernel_rfl) (by kernel_rfl) (by kernel_rfl) (by kernel_rfl) (fun _ _ _ h => h) (Or.inl ⟨by rfl, ?_⟩) (fun _ => hHeld) ?_
  rotate_left
  · intro w' _
    go_simp
    first | done | with_reducible rfl
  try simp only [Act.put, List.setIfInBounds_toArray, List.set_cons_zero, List.set_cons_succ]
  refine anyZ_pure (i := 9) (v := ?_) (some 24) rfl rfl (by kernel_rfl) (by kernel_rfl) (by kernel_rfl) (by kernel_rfl) (fun _ _ _ h => h) (Or.inl ⟨by rfl, ?_⟩) (fun _ => hHeld) ?_
  rotate_left
  · intro w' _
    go_simp
    first | done | with_reducible rfl
  try simp only [Act.put, List.setIfInBounds_toArray, List.set_cons_zero, List.set_cons_succ]
  refine anyZ_read (i := 10) (v := ?_) (some 25) [12, 14, 15, 16, 17] rfl rfl (by kernel_rfl) (by kernel_rfl) (by kernel_rfl) (by kernel_rfl) (by kernel_rfl) (by kernel_rfl) (fun _ _ _ h => h) (Or.inl ⟨by rfl, ?_⟩) hHeld ?_
  rotate_left
  · intro w' hSw
    obtain ⟨x0, x1, x2, x3⟩ := HC.out w' hSw
    go_simp
    first | done | with_reducible rfl
  try simp only [Act.put, List.setIfInBounds_toArray, List.set_cons_zero, List.set_cons_succ]
  refine anyZ_pure (i := 11) (v := ?_) (some 26) rfl rfl (by kernel_rfl) (by kernel_rfl) (by kernel_rfl) (by kernel_rfl) (fun _ _ _ h => h) (Or.inl ⟨by rfl, ?_⟩) (fun _ => hHeld) ?_
  rotate_left
  · intro w' _
    go_simp
    first | done | with_reducible rfl
  try simp only [Act.put, List.setIfInBounds_toArray, List.set_cons_zero, List.set_cons_succ]
  refine anyZ_read (i := 13) (v := ?_) (some 28) [14, 15, 16, 17] rfl rfl (by kernel_rfl) (by kernel_rfl) (by kernel_rfl) (by kernel_rfl) (by kernel_rfl) (by kernel_rfl) (fun _ _ _ h => h) (Or.inl ⟨by rfl, ?_⟩) hHeld ?_
  rotate_left
  · intro w' hSw
    obtain ⟨x0, x1, x2, x3⟩ := HC.out w' hSw
    go_simp
    first | done | with_reducible rfl
  try simp only [Act.put, List.setIfInBounds_toArray, List.set_cons_zero, List.set_cons_succ]
  refine anyZ_ready (rs := [12]) (by kernel_rfl) (by simp) ?_
  refine AllZ.step rfl (fun K hK => ?_) AllZ.nil
  go_simp
  refine (CT.out _ hHeld).mono ?_; rintro e w5 ⟨rfl, rfl⟩
  try go_simp
  refine hK.out _ _ (hHeld) (fun hHeld => ?_)
  clear hK K
  try change anyZ _ _ _ _ _ _ _ _ (Act.put _ (some 27) _) _
  try simp only [Act.put, List.setIfInBounds_toArray, List.set_cons_zero, List.set_cons_succ]
  refine anyZ_pure (i := 14) (v := ?_) (some 29) rfl rfl (by kernel_rfl) (by kernel_rfl) (by kernel_rfl) (by kernel_rfl) (fun _ _ _ h => h) (Or.inl ⟨by rfl, ?_⟩) (fun _ => hHeld) ?_
  rotate_left
  · intro w' _
    go_simp
    first | done | with_reducible rfl
  try simp only [Act.put, List.setIfInBounds_toArray, List.set_cons_zero, List.set_cons_succ]
  refine anyZ_pure (i := 15) (v := ?_) (some 30) rfl rfl (by kernel_rfl) (by kernel_rfl) (by kernel_rfl) (by kernel_rfl) (fun _ _ _ h => h) (Or.inl ⟨by rfl, ?_⟩) (fun _ => hHeld) ?_
  rotate_left
  · intro w' _
    go_simp
    first | done | with_reducible rfl
  try simp only [Act.put, List.setIfInBounds_toArray, List.set_cons_zero, List.set_cons_succ]
  refine anyZ_pure (i := 16) (v := ?_) (some 31) rfl rfl (by kernel_rfl) (by kernel_rfl) (by kernel_rfl) (by kernel_rfl) (fun _ _ _ h => h) (Or.inl ⟨by rfl, ?_⟩) (fun _ => hHeld) ?_
  rotate_left
  · intro w' _
    go_simp
    first | done | with_reducible rfl
  try simp only [Act.put, List.setIfInBounds_toArray, List.set_cons_zero, List.set_cons_succ]
  refine anyZ_ready (rs := [17]) (by kernel_rfl) (by simp) ?_
  refine AllZ.last rfl (by kernel_rfl) (fun K hK => ?_) AllZ.nil
  obtain ⟨x0, x1, x2, x3⟩ := HC.out _ hHeld
  have HH := Lib.hid hHeld
  go_simp
  refine hK.out _ _ ?_
  clear hK K
  try change anyZ _ _ _ _ _ _ _ _ (Act.put _ none _) _
  try simp only [Act.put, List.setIfInBounds_toArray, List.set_cons_zero, List.set_cons_succ]
  refine anyZ_done (by kernel_rfl) ?_ _
  clear x0 x1 x2 x3 hHeld
  go_wp2
  go_ret
  have fz : Fr (fun k => k = okb) w1 ((w1.setCell ⟨okb, 0, none⟩ (.bool true)).drew) := (Bk.fr_set0 okb (.bool true)).drew
  refine ⟨rfl, H1.out.fr fz (fun e => HX.out.1 e.symm), ?_, ?_⟩
  · simpa using (HO.out.set 0 (.bool true)).drew
  · exact (HF1.out.mono (T := fun k => k = nb ∨ k = okb) (fun _ _ e => .inl e)).trans fz (fun _ _ e => .inr e)
end Go.Proofs.Ytdfkoehcmgcoiaa
