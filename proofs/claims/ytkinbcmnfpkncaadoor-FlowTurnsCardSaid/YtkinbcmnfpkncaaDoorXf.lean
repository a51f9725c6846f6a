/- flow: taskAt, do. -/
import Derived.Test.YtkinbcmnfpkncaaDoorXc
namespace Go.Proofs.YtkinbcmnfpkncaaDoor
open Go.RowKit Go.Maps

theorem run_loadSt (w : World) (b : Nat) (a0 a1 : Value) (h : Bk w b 71 #[a0, a1]) : (Instr.loadAt 71 (.pointer (some ⟨b, 0, none⟩))).run Tryd.prog w = .ok (.agg #[a0, a1]) w := by
  have h0 : w.cell? ⟨b, 0, none⟩ = some a0 := h.cell 0
  have h1 : w.cell? ⟨b, 1, none⟩ = some a1 := h.cell 1
  go_simp
theorem resSt {fn : Func} {p : Tmp} (h : fn.results = #[.cell p 71]) (tmps : Array Value) (w : World) (b : Nat) (a0 a1 : Value) (hp : tmps.getD p undef = .pointer (some ⟨b, 0, none⟩)) (hb : Bk w b 71 #[a0, a1]) :
    (results fn tmps).run Tryd.prog w = .ok (.agg #[a0, a1]) w := by
  have h2 : (loadVar 71 ⟨b, 0, none⟩).run Tryd.prog w = .ok (.agg #[a0, a1]) w := by
    have := run_loadSt w b a0 a1 hb
    simpa only [Instr.loadAt, Instr.sureAddr, Sem.run_bind, Sem.run_pure, Result.andThen_ok] using this
  have hp2 : tmps[p]?.getD undef = .pointer (some ⟨b, 0, none⟩) := by simpa using hp
  simp [results, h, asAddr, hp2, h2]
def FS.taskAt (s : FS) (ref turn : Int) : Int × Int := if ref = s.tat ∧ turn = s.turn then (s.tat, s.beg) else (0, 0)
def set2 (w : World) (b : Nat) (a0 a1 : Value) : World := (w.setCell ⟨b, 0, none⟩ a0).setCell ⟨b, 1, none⟩ a1
theorem Bk.set2 {w : World} {b : Nat} {t : TypeId} {x0 x1 : Value} (h : Bk w b t #[x0, x1]) (a0 a1 : Value) : Bk (set2 w b a0 a1) b t #[a0, a1] := by
  unfold Go.Proofs.YtkinbcmnfpkncaaDoor.set2
  simpa using (h.set 0 a0).set 1 a1
set_option maxRecDepth 100000 in
set_option maxHeartbeats 4000000 in
theorem taskAt_any {w : World} {g : Nat} {A : Option Addr} {n c : Nat} {ps : List VL} {mo : Option Nat} {D : DV} {s : FS} (h : FlM w g A n c ps mo D s) (ref turn : Int) :
    Calls Tryd.prog 67 #[.pointer (some ⟨g, 0, none⟩), .int .i64 ref, .int .i64 turn] w fun e w' => e = .returned (.agg #[.int .i64 (s.taskAt ref turn).1, .int .i64 (s.taskAt ref turn).2]) ∧ Fr (fun _ => False) w w' := by
  obtain ⟨g2, hg2⟩ : ∃ g2, w.heap.size = g2 := ⟨_, rfl⟩
  obtain ⟨W, hW⟩ : ∃ W, w.alloc (.cells #[.int .i64 0, .int .i64 0] 71) = W := ⟨_, rfl⟩
  have HB : Hid (Bk W g2 71 #[.int .i64 0, .int .i64 0]) := Lib.hid (by rw [← hW, ← hg2]; exact Bk.new _ _ _)
  have HF : Hid (Fr (fun _ => False) w W) := Lib.hid (by rw [← hW]; exact (Fr.refl _ _).alloc _)
  have HG := Lib.hid hg2
  have HW := h.blk.fr HF.out (fun h => h)
  have y4 : W.cell? ⟨g, 4, none⟩ = some (.int .i64 s.tat) := HW.cell 4
  have y5 : W.cell? ⟨g, 5, none⟩ = some (.int .i64 s.beg) := HW.cell 5
  have y6 : W.cell? ⟨g, 6, none⟩ = some (.int .i64 s.turn) := HW.cell 6
  have b0 : W.cell? ⟨g2, 0, none⟩ = some (.int .i64 0) := HB.out.cell 0
  have b1 : W.cell? ⟨g2, 1, none⟩ = some (.int .i64 0) := HB.out.cell 1
  have f0 : W.frozen? ⟨g2, 0, none⟩ = false := HB.out.frozen 0
  have f1 : W.frozen? ⟨g2, 1, none⟩ = false := HB.out.frozen 1
  have HT : Hid (s.taskAt ref turn = if ref = s.tat ∧ turn = s.turn then (s.tat, s.beg) else (0, 0)) := Lib.hid rfl
  generalize s.taskAt ref turn = R at *
  generalize s.tat = x at *
  generalize s.beg = y at *
  generalize s.turn = t at *
  have G : ∀ u v : Int, Hid (Bk (set2 W g2 (.int .i64 u) (.int .i64 v)) g2 71 #[.int .i64 u, .int .i64 v] ∧ Fr (fun k => k = g2) W (set2 W g2 (.int .i64 u) (.int .i64 v))) := fun u v => Lib.hid ⟨HB.out.set2 _ _, Fr.setCell (S := fun k => k = g2) (p := ⟨g2, 1, none⟩) (Fr.setCell (S := fun k => k = g2) (p := ⟨g2, 0, none⟩) (Fr.refl _ _) (fun _ => rfl) _) (fun _ => rfl) _⟩
  have HFIN : Hid (∀ w', Fr (fun k => k = g2) W w' → Fr (fun _ => False) w w') := Lib.hid (fun w' hf => HF.out.trans hf (fun x hx e => by have e' : x = g2 := e; have := HG.out; omega))
  clear h HW
  by_cases h1 : ref = x
  · have d1 : (ref == x) = true := by simp [h1]
    have d1' : (ref != x) = false := by simp [h1]
    by_cases h2 : turn = t
    · have d2 : (turn == t) = true := by simp [h2]
      have d2' : (turn != t) = false := by simp [h2]
      have H1 := Lib.hid h1
      have H2 := Lib.hid h2
      clear h1 h2
      have GG := G (x) (y)
      clear G
      go_enter Tryd.func67, Tryd.ntmps67
      go_wp2
      change bodyPost _ _ _ _ _ (set2 W g2 (.int .i64 x) (.int .i64 y))
      generalize set2 W g2 (.int .i64 x) (.int .i64 y) = W5 at *
      refine bodyPost_ret (resSt (p := 6) rfl _ _ g2 _ _ rfl GG.out.1) rfl ?_
      refine ⟨?_, HFIN.out _ GG.out.2⟩
      rw [HT.out]; rw [if_pos ⟨H1.out, H2.out⟩]
    · have d2 : (turn == t) = false := by simp [h2]
      have d2' : (turn != t) = true := by simp [h2]
      have H2 := Lib.hid h2
      clear h1 h2
      have GG := G (0) (0)
      clear G
      go_enter Tryd.func67, Tryd.ntmps67
      go_wp2
      change bodyPost _ _ _ _ _ (set2 W g2 (.int .i64 0) (.int .i64 0))
      generalize set2 W g2 (.int .i64 0) (.int .i64 0) = W5 at *
      refine bodyPost_ret (resSt (p := 6) rfl _ _ g2 _ _ rfl GG.out.1) rfl ?_
      refine ⟨?_, HFIN.out _ GG.out.2⟩
      rw [HT.out]; rw [if_neg (fun h => H2.out h.2)]
  · have d1 : (ref == x) = false := by simp [h1]
    have d1' : (ref != x) = true := by simp [h1]
    have H1 := Lib.hid h1
    clear h1
    have GG := G (0) (0)
    clear G
    go_enter Tryd.func67, Tryd.ntmps67
    go_wp2
    change bodyPost _ _ _ _ _ (set2 W g2 (.int .i64 0) (.int .i64 0))
    generalize set2 W g2 (.int .i64 0) (.int .i64 0) = W5 at *
    refine bodyPost_ret (resSt (p := 6) rfl _ _ g2 _ _ rfl GG.out.1) rfl ?_
    refine ⟨?_, HFIN.out _ GG.out.2⟩
    rw [HT.out]; rw [if_neg (fun h => H1.out h.1)]

theorem field1E (x0 x1 x2 x3 x4 x5 : Int) (v : Value) (w : World) : (Instr.field 75 (.agg #[.int .i64 x0, .int .i64 x1, .int .i64 x2, .int .i64 x3, .int .i64 x4, .int .i64 x5, v]) 1).run Tryd.prog w = .ok (.int .i64 x1) w := by kernel_rfl
set_option maxRecDepth 100000 in
set_option maxHeartbeats 8000000 in
/-- A call that may be: its step is done. -/
theorem do_ok {w : World} {g : Nat} {A : Option Addr} {n c : Nat} {ps : List VL} {mo : Option Nat} {D : DV} {s : FS} (h : FlM w g A n c ps mo D s) (h0 : 0 < n) (fid : FuncId) (hd : Hd) (hfit : hd.fits = true) (hnow : (s.L.getD (n - 1) default).a ≤ hd.now) (hst : statL s.L = 1) (hcf : ∀ (args : Array Value) (W : World), (callFunc fid args).run Tryd.prog W = .ok (.enter fid args) W) {Q : Ending → World → Prop}
    (C : ∀ w', Fr (fun _ => False) w w' → Calls Tryd.prog fid #[.pointer (some ⟨g, 0, none⟩), .agg hd.cells] w' fun e w9 => (∃ v u, e = .returned (.tuple #[v, u])) ∧ Q e w9) :
    Calls Tryd.prog 49 #[.pointer (some ⟨g, 0, none⟩), .func (.func fid) #[.pointer (some ⟨g, 0, none⟩)] #[], .agg hd.cells] w Q := by
  obtain ⟨g2, hg2⟩ : ∃ g2, w.heap.size = g2 := ⟨_, rfl⟩
  obtain ⟨W, hW⟩ : ∃ W, w.alloc (.cells hd.cells 67) = W := ⟨_, rfl⟩
  have HF : Hid (Fr (fun _ => False) w W) := Lib.hid (by rw [← hW]; exact (Fr.refl _ _).alloc _)
  have HB : Hid (Bk W g2 67 hd.cells) := Lib.hid (by rw [← hW, ← hg2]; exact Bk.new _ _ _)
  have CF := Lib.hid (fun w' => fits_any hd w')
  rw [hfit] at CF
  have HFL := Lib.hid (fun w' (hf : Fr (fun _ => False) W w') => h.fr (HF.out.trans hf (fun _ _ h => h)) (fun _ _ h => h))
  have HE : Hid ((ps.getD (n - 1) default).e = s.L.getD (n - 1) default) := Lib.hid (by rw [← h.evs, getD_map VL.e (by rw [h.len]; omega)])
  have CL := Lib.hid (fun w' (hf : Fr (fun _ => False) W w') => last_any (HFL.out w' hf) h0)
  have CS := Lib.hid (fun w' (hf : Fr (fun _ => False) W w') => status_any (HFL.out w' hf) h0)
  rw [hst] at CS
  have CC := Lib.hid (fun w' (hf : Fr (fun _ => False) W w') => C w' (HF.out.trans hf (fun _ _ h => h)))
  rw [← HE.out] at hnow
  generalize ps.getD (n - 1) default = p at *
  have hv : p.val = .agg #[.int .i64 p.e.k, .int .i64 p.e.a, .int .i64 p.e.r, .int .i64 p.e.i, .int .i64 p.e.l, .int .i64 p.e.n, .slice p.A p.e.d.length p.c] := rfl
  rw [hv] at CL
  have hf1 := field1E p.e.k p.e.a p.e.r p.e.i p.e.l p.e.n (.slice p.A p.e.d.length p.c)
  clear h h0 hfit hst C hv HFL HE
  generalize p.e.k = x0 at *
  generalize p.e.a = x1 at *
  generalize p.e.r = x2 at *
  generalize p.e.i = x3 at *
  generalize p.e.l = x4 at *
  generalize p.e.n = x5 at *
  generalize p.e.d.length = dl at *
  generalize p.A = pA at *
  generalize p.c = pc at *
  obtain ⟨ref, turn, id, st, dA, dn, dc, lA, ln, lc, now⟩ := hd
  unfold Hd.cells at *
  simp only at *
  have d1 : decide (now < x1) = false := decide_eq_false (by omega)
  have HC : Hid (∀ w', Fr (fun _ => False) W w' → w'.cell? ⟨g2, 0, none⟩ = some (.int .i64 ref) ∧ w'.cell? ⟨g2, 1, none⟩ = some (.int .i64 turn) ∧ w'.cell? ⟨g2, 2, none⟩ = some (.int .i64 id) ∧ w'.cell? ⟨g2, 3, none⟩ = some (.int .i64 st) ∧ w'.cell? ⟨g2, 4, none⟩ = some (.slice dA dn dc) ∧ w'.cell? ⟨g2, 5, none⟩ = some (.slice lA ln lc) ∧ w'.cell? ⟨g2, 6, none⟩ = some (.int .i64 now)) := Lib.hid (fun w' hf => by
    have hb := HB.out.fr hf (fun h => h)
    exact ⟨hb.cell 0, hb.cell 1, hb.cell 2, hb.cell 3, hb.cell 4, hb.cell 5, hb.cell 6⟩)
  clear hnow
  go_enter Tryd.func49, Tryd.ntmps49
  go_wp2_with fail
  clear hW hg2
  refine wp_region_held_drew (S := (fun w' => Fr (fun _ => False) W w')) (by kernel_rfl) ((Fr.refl _ _).drew) (fun hHeld => ?_)
  refine wpAnyH_takeD (i := 0) (v := ?_) (some 8) rfl rfl (by kernel_rfl) (by kernel_rfl) (by kernel_rfl) (fun _ _ _ h => h) (Or.inl ⟨by rfl, ?_⟩) (by assumption) ?_
  rotate_left
  · intro w' hSw
    obtain ⟨q0, q1, q2, q3, q4, q5, q6⟩ := HC.out w' hSw
    go_simp
    first | done | with_reducible rfl
  try simp only [Act.put, List.setIfInBounds_toArray, List.set_cons_zero, List.set_cons_succ]
  refine wpAnyH_ready (rs := [1]) (by kernel_rfl) (by simp) ?_
  refine AllReadyH.cons rfl (fun K hK => ?_) AllReadyH.nil
  go_simp
  refine (CF.out _).mono ?_; rintro e w2 ⟨rfl, hf2⟩
  try go_simp
  refine hK.out _ _ (hHeld.trans hf2 (fun _ _ h => h)) (fun hHeld => ?_)
  clear hK K
  try change wpAnyH _ _ _ _ _ _ _ (Act.put _ (some 9) _) _
  try simp only [Act.put, List.setIfInBounds_toArray, List.set_cons_zero, List.set_cons_succ]
  clear hf2
  refine wpAnyH_takeD (i := 2) (v := ?_) (some 10) rfl rfl (by kernel_rfl) (by kernel_rfl) (by kernel_rfl) (fun _ _ _ h => h) (Or.inl ⟨by rfl, ?_⟩) (by assumption) ?_
  rotate_left
  · intro w' hSw
    go_simp
    first | done | with_reducible rfl
  try simp only [Act.put, List.setIfInBounds_toArray, List.set_cons_zero, List.set_cons_succ]
  refine wpAnyH_takeD (i := 3) (v := ?_) (some 11) rfl rfl (by kernel_rfl) (by kernel_rfl) (by kernel_rfl) (fun _ _ _ h => h) (Or.inl ⟨by rfl, ?_⟩) (by assumption) ?_
  rotate_left
  · intro w' hSw
    go_simp
    first | done | with_reducible rfl
  try simp only [Act.put, List.setIfInBounds_toArray, List.set_cons_zero, List.set_cons_succ]
  refine wpAnyH_takeD (i := 4) (v := ?_) (some 12) rfl rfl (by kernel_rfl) (by kernel_rfl) (by kernel_rfl) (fun _ _ _ h => h) (Or.inl ⟨by rfl, ?_⟩) (by assumption) ?_
  rotate_left
  · intro w' hSw
    go_simp
    first | done | with_reducible rfl
  try simp only [Act.put, List.setIfInBounds_toArray, List.set_cons_zero, List.set_cons_succ]
  refine wpAnyH_takeD (i := 5) (v := ?_) (some 13) rfl rfl (by kernel_rfl) (by kernel_rfl) (by kernel_rfl) (fun _ _ _ h => h) (Or.inl ⟨by rfl, ?_⟩) (by assumption) ?_
  rotate_left
  · intro w' hSw
    obtain ⟨q0, q1, q2, q3, q4, q5, q6⟩ := HC.out w' hSw
    go_simp
    first | done | with_reducible rfl
  try simp only [Act.put, List.setIfInBounds_toArray, List.set_cons_zero, List.set_cons_succ]
  refine wpAnyH_takeD (i := 6) (v := ?_) (some 14) rfl rfl (by kernel_rfl) (by kernel_rfl) (by kernel_rfl) (fun _ _ _ h => h) (Or.inl ⟨by rfl, ?_⟩) (by assumption) ?_
  rotate_left
  · intro w' hSw
    go_simp
    first | done | with_reducible rfl
  try simp only [Act.put, List.setIfInBounds_toArray, List.set_cons_zero, List.set_cons_succ]
  refine wpAnyH_ready (rs := [7]) (by kernel_rfl) (by simp) ?_
  refine AllReadyH.cons rfl (fun K hK => ?_) AllReadyH.nil
  go_simp
  refine (CL.out _ hHeld).mono ?_; rintro e w3 ⟨rfl, hf3⟩
  try go_simp
  refine hK.out _ _ (hHeld.trans hf3 (fun _ _ h => h)) (fun hHeld => ?_)
  clear hK K
  try change wpAnyH _ _ _ _ _ _ _ (Act.put _ (some 15) _) _
  try simp only [Act.put, List.setIfInBounds_toArray, List.set_cons_zero, List.set_cons_succ]
  clear hf3
  refine wpAnyH_takeD (i := 8) (v := ?_) (some 16) rfl rfl (by kernel_rfl) (by kernel_rfl) (by kernel_rfl) (fun _ _ _ h => h) (Or.inl ⟨by rfl, ?_⟩) (by assumption) ?_
  rotate_left
  · intro w' hSw
    go_simp
    first | done | with_reducible rfl
  try simp only [Act.put, List.setIfInBounds_toArray, List.set_cons_zero, List.set_cons_succ]
  refine wpAnyH_takeD (i := 9) (v := ?_) (some 17) rfl rfl (by kernel_rfl) (by kernel_rfl) (by kernel_rfl) (fun _ _ _ h => h) (Or.inl ⟨by rfl, ?_⟩) (by assumption) ?_
  rotate_left
  · intro w' hSw
    go_simp
    first | done | with_reducible rfl
  try simp only [Act.put, List.setIfInBounds_toArray, List.set_cons_zero, List.set_cons_succ]
  refine wpAnyH_takeD (i := 10) (v := ?_) (some 18) rfl rfl (by kernel_rfl) (by kernel_rfl) (by kernel_rfl) (fun _ _ _ h => h) (Or.inl ⟨by rfl, ?_⟩) (by assumption) ?_
  rotate_left
  · intro w' hSw
    go_simp
    first | done | with_reducible rfl
  try simp only [Act.put, List.setIfInBounds_toArray, List.set_cons_zero, List.set_cons_succ]
  refine wpAnyH_done (by kernel_rfl) ?_ _
  have HH := Lib.hid hHeld
  clear hHeld CF CL hf1 d1
  go_wp2_with fail
  refine (CS.out _ HH.out).mono ?_; rintro e w5 ⟨rfl, rfl⟩
  obtain ⟨q0, q1, q2, q3, q4, q5, q6⟩ := HC.out _ HH.out
  go_wp2_with fail
  refine (CC.out _ HH.out).mono ?_; rintro e w9 ⟨⟨v, u, rfl⟩, hq⟩
  clear q0 q1 q2 q3 q4 q5 q6
  go_wp2
  exact hq

/-- An event that a step lays. -/
def evN (k r i n : Int) : Ev := ⟨k, 0, r, i, 0, n, []⟩
theorem vs_one' {w : World} {g : Nat} {p : VL} {F : Nat → Prop} (h : Bk w g 75 p.cells.toArray) (hp : RdV w F p) : Vs w (some ⟨g, 0, none⟩) 1 [p] (fun k => k = g ∨ F k) :=
  ⟨rfl, fun _ => ⟨g, 0, rfl, .inl rfl, fun j u hu => by
    have hu' : p.cells[j]? = some u := by simpa [vlc] using hu
    rw [Nat.zero_add, h.cell]; simpa using hu'⟩, fun q hq => by
    simp at hq; subst hq; exact ⟨hp.rd, hp.ok, fun ad e h0 => .inr (hp.inF ad e h0)⟩⟩
theorem i64of {x : Int} (h0 : -9223372036854775808 ≤ x) (h1 : x ≤ 9223372036854775807) : I64 x := ⟨h0, h1⟩
theorem N64.of {x : Int} (h : I64 x) : N64 x := h
end Go.Proofs.YtkinbcmnfpkncaaDoor
