/- flow: the small functions. -/
import Derived.Test.YtkinbcmnfpkncaaDoorXa
namespace Go.Proofs.YtkinbcmnfpkncaaDoor
open Go.RowKit Go.Maps

def set7 (w : World) (b : Nat) (a0 a1 a2 a3 a4 a5 a6 : Value) : World := ((((((w.setCell ⟨b, 0, none⟩ a0).setCell ⟨b, 1, none⟩ a1).setCell ⟨b, 2, none⟩ a2).setCell ⟨b, 3, none⟩ a3).setCell ⟨b, 4, none⟩ a4).setCell ⟨b, 5, none⟩ a5).setCell ⟨b, 6, none⟩ a6
theorem Bk.set7 {w : World} {b : Nat} {t : TypeId} {x0 x1 x2 x3 x4 x5 x6 : Value} (h : Bk w b t #[x0, x1, x2, x3, x4, x5, x6]) (a0 a1 a2 a3 a4 a5 a6 : Value) : Bk (set7 w b a0 a1 a2 a3 a4 a5 a6) b t #[a0, a1, a2, a3, a4, a5, a6] := by
  unfold Go.Proofs.YtkinbcmnfpkncaaDoor.set7
  simpa using ((((((h.set 0 a0).set 1 a1).set 2 a2).set 3 a3).set 4 a4).set 5 a5).set 6 a6
theorem Fr.set7 {S : Nat → Prop} {a w : World} (h : Fr S a w) {b : Nat} (hb : b < a.heap.size → S b) (a0 a1 a2 a3 a4 a5 a6 : Value) : Fr S a (set7 w b a0 a1 a2 a3 a4 a5 a6) :=
  ((((((h.setCell (p := ⟨b, 0, none⟩) hb _).setCell (p := ⟨b, 1, none⟩) hb _).setCell (p := ⟨b, 2, none⟩) hb _).setCell (p := ⟨b, 3, none⟩) hb _).setCell (p := ⟨b, 4, none⟩) hb _).setCell (p := ⟨b, 5, none⟩) hb _).setCell (p := ⟨b, 6, none⟩) hb _
theorem run_loadEv (w : World) (b : Nat) (a0 a1 a2 a3 a4 a5 a6 : Value) (h : Bk w b 75 #[a0, a1, a2, a3, a4, a5, a6]) : (Instr.loadAt 75 (.pointer (some ⟨b, 0, none⟩))).run Tryd.prog w = .ok (.agg #[a0, a1, a2, a3, a4, a5, a6]) w := by
  have h0 : w.cell? ⟨b, 0, none⟩ = some a0 := h.cell 0
  have h1 : w.cell? ⟨b, 1, none⟩ = some a1 := h.cell 1
  have h2 : w.cell? ⟨b, 2, none⟩ = some a2 := h.cell 2
  have h3 : w.cell? ⟨b, 3, none⟩ = some a3 := h.cell 3
  have h4 : w.cell? ⟨b, 4, none⟩ = some a4 := h.cell 4
  have h5 : w.cell? ⟨b, 5, none⟩ = some a5 := h.cell 5
  have h6 : w.cell? ⟨b, 6, none⟩ = some a6 := h.cell 6
  go_simp
theorem resEv {fn : Func} {p : Tmp} (h : fn.results = #[.cell p 75]) (tmps : Array Value) (w : World) (b : Nat) (a0 a1 a2 a3 a4 a5 a6 : Value) (hp : tmps.getD p undef = .pointer (some ⟨b, 0, none⟩)) (hb : Bk w b 75 #[a0, a1, a2, a3, a4, a5, a6]) :
    (results fn tmps).run Tryd.prog w = .ok (.agg #[a0, a1, a2, a3, a4, a5, a6]) w := by
  have h2 : (loadVar 75 ⟨b, 0, none⟩).run Tryd.prog w = .ok (.agg #[a0, a1, a2, a3, a4, a5, a6]) w := by
    have := run_loadEv w b a0 a1 a2 a3 a4 a5 a6 hb
    simpa only [Instr.loadAt, Instr.sureAddr, Sem.run_bind, Sem.run_pure, Result.andThen_ok] using this
  have hp2 : tmps[p]?.getD undef = .pointer (some ⟨b, 0, none⟩) := by simpa using hp
  simp [results, h, asAddr, hp2, h2]

set_option maxRecDepth 100000 in
theorem isBetween_any (v lo hi : Int) (w : World) : Calls Tryd.prog 28 #[.int .i64 v, .int .i64 lo, .int .i64 hi] w fun e w' => e = .returned (.bool (decide (lo ≤ v) && decide (v ≤ hi))) ∧ w = w' := by
  obtain ⟨x, hx⟩ : ∃ x, decide (lo ≤ v) = x := ⟨_, rfl⟩
  obtain ⟨y, hy⟩ : ∃ y, decide (v ≤ hi) = y := ⟨_, rfl⟩
  rw [hx, hy]
  cases x <;>
  · go_enter Tryd.func28, Tryd.ntmps28
    go_wp2
    go_ret
    exact ⟨rfl, rfl⟩
/-- What a call is handed. -/
structure Hd where
  ref : Int
  turn : Int
  id : Int
  st : Int
  dA : Option Addr
  dn : Nat
  dc : Nat
  lA : Option Addr
  ln : Nat
  lc : Nat
  now : Int
def Hd.cells (h : Hd) : Array Value := #[.int .i64 h.ref, .int .i64 h.turn, .int .i64 h.id, .int .i64 h.st, .slice h.dA h.dn h.dc, .slice h.lA h.ln h.lc, .int .i64 h.now]
def Hd.fits (h : Hd) : Bool := (decide (0 ≤ h.id) && decide (h.id ≤ 1048576)) && (decide (0 ≤ h.now) && decide (h.now ≤ 1099511627776)) && decide (h.dn ≤ 4096)
set_option maxRecDepth 100000 in
set_option maxHeartbeats 2000000 in
theorem fits_any (h : Hd) (w : World) : Calls Tryd.prog 27 #[.agg h.cells] w fun e w' => e = .returned (.bool h.fits) ∧ Fr (fun _ => False) w w' := by
  have HF : Hid (Fr (fun _ => False) w (w.alloc (.cells h.cells 67))) := Lib.hid ((Fr.refl _ _).alloc _)
  have CI := Lib.hid (fun w' => isBetween_any h.id 0 1048576 w')
  have CN := Lib.hid (fun w' => isBetween_any h.now 0 1099511627776 w')
  have HB : Hid (h.fits = ((decide (0 ≤ h.id) && decide (h.id ≤ 1048576)) && (decide (0 ≤ h.now) && decide (h.now ≤ 1099511627776)) && decide (h.dn ≤ 4096))) := Lib.hid rfl
  have hd : decide ((h.dn : Int) ≤ 4096) = decide (h.dn ≤ 4096) := by simp; omega
  obtain ⟨ref, turn, id, st, dA, dn, dc, lA, ln, lc, now⟩ := h
  unfold Hd.cells at *
  simp only at *
  generalize Hd.fits _ = R at *
  generalize (decide (0 ≤ id) && decide (id ≤ 1048576)) = b1 at *
  generalize (decide (0 ≤ now) && decide (now ≤ 1099511627776)) = b2 at *
  obtain ⟨b3, hb3⟩ : ∃ b3, decide (dn ≤ 4096) = b3 := ⟨_, rfl⟩
  rw [hb3] at HB hd
  have hd' : decide (dn ≤ 4096) = b3 := hb3
  clear hb3
  go_enter Tryd.func27, Tryd.ntmps27
  go_wp2_with fail
  refine (CI.out _).mono ?_; rintro e w1 ⟨rfl, rfl⟩
  cases b1 with
  | false =>
    go_wp2
    go_ret
    exact ⟨by rw [HB.out]; rfl, HF.out⟩
  | true =>
    go_wp2_with fail
    refine (CN.out _).mono ?_; rintro e w1 ⟨rfl, rfl⟩
    cases b2 with
    | false =>
      go_wp2
      go_ret
      exact ⟨by rw [HB.out]; rfl, HF.out⟩
    | true =>
      go_wp2
      go_ret
      exact ⟨by rw [HB.out]; rfl, HF.out⟩
set_option maxRecDepth 100000 in
theorem closes_any (k : Int) (w : World) : Calls Tryd.prog 59 #[.int .i64 k] w fun e w' => e = .returned (.bool (closesK k)) ∧ w = w' := by
  unfold closesK
  obtain ⟨x, hx⟩ : ∃ x, decide (19 ≤ k) = x := ⟨_, rfl⟩
  obtain ⟨y, hy⟩ : ∃ y, decide (k ≤ 23) = y := ⟨_, rfl⟩
  rw [hx, hy]
  cases x <;>
  · go_enter Tryd.func59, Tryd.ntmps59
    go_wp2
    go_ret
    exact ⟨rfl, rfl⟩
set_option maxRecDepth 100000 in
theorem behind_any (k : Int) (w : World) : Calls Tryd.prog 88 #[.int .i64 k] w fun e w' => e = .returned (.int .i64 (statB k)) ∧ w = w' := by
  unfold statB
  have tac : True := trivial
  clear tac
  by_cases h19 : k = 19
  · rw [if_pos h19]
    have d19 : (k == 19) = true := by simp [h19]
    clear h19
    go_enter Tryd.func88, Tryd.ntmps88
    go_wp2
    go_ret
    exact ⟨rfl, rfl⟩
  rw [if_neg h19]
  have d19 : (k == 19) = false := by simp [h19]
  clear h19
  by_cases h20 : k = 20
  · rw [if_pos h20]
    have d20 : (k == 20) = true := by simp [h20]
    clear h20
    go_enter Tryd.func88, Tryd.ntmps88
    go_wp2
    go_ret
    exact ⟨rfl, rfl⟩
  rw [if_neg h20]
  have d20 : (k == 20) = false := by simp [h20]
  clear h20
  by_cases h21 : k = 21
  · rw [if_pos h21]
    have d21 : (k == 21) = true := by simp [h21]
    clear h21
    go_enter Tryd.func88, Tryd.ntmps88
    go_wp2
    go_ret
    exact ⟨rfl, rfl⟩
  rw [if_neg h21]
  have d21 : (k == 21) = false := by simp [h21]
  clear h21
  by_cases h22 : k = 22
  · rw [if_pos h22]
    have d22 : (k == 22) = true := by simp [h22]
    clear h22
    go_enter Tryd.func88, Tryd.ntmps88
    go_wp2
    go_ret
    exact ⟨rfl, rfl⟩
  rw [if_neg h22]
  have d22 : (k == 22) = false := by simp [h22]
  clear h22
  by_cases h23 : k = 23
  · rw [if_pos h23]
    have d23 : (k == 23) = true := by simp [h23]
    clear h23
    go_enter Tryd.func88, Tryd.ntmps88
    go_wp2
    go_ret
    exact ⟨rfl, rfl⟩
  rw [if_neg h23]
  have d23 : (k == 23) = false := by simp [h23]
  clear h23
  go_enter Tryd.func88, Tryd.ntmps88
  go_wp2
  go_ret
  exact ⟨rfl, rfl⟩
theorem statL_at {l : List Ev} (h : 0 < l.length) : statL l = statB (l.getD (l.length - 1) default).k := by
  unfold statL
  rw [List.getLast?_eq_getElem?, List.getD, List.getElem?_eq_getElem (by omega)]
  rfl
set_option maxRecDepth 100000 in
set_option maxHeartbeats 2000000 in
theorem statusE_any (A : Option Addr) (n c : Nat) (ps : List VL) (G : Nat → Prop) (w : World) (h : Vs w A n ps G) (h0 : 0 < n) (hn : n ≤ 4398046511104) :
    Calls Tryd.prog 47 #[.slice A n c] w fun e w' => e = .returned (.int .i64 (statL (ps.map VL.e))) ∧ w = w' := by
  obtain ⟨m, rfl⟩ : ∃ m, n = m + 1 := ⟨n - 1, by omega⟩
  obtain ⟨b, off, rfl, -, hcs, -⟩ := h.at (i := m) (by omega)
  have HR : Hid (statL (ps.map VL.e) = statB (ps.getD m default).e.k) := Lib.hid (by
    rw [statL_at (by rw [List.length_map, h.len]; omega), List.length_map, h.len, Nat.add_sub_cancel, getD_map VL.e (by rw [h.len]; omega)])
  have q0 : w.cell? ⟨b, off + m * 7, none⟩ = some (.int .i64 (ps.getD m default).e.k) := hcs 0 _ rfl
  generalize (ps.getD m default).e.k = k at *
  have C := Lib.hid (fun w' => behind_any k w')
  have d0 : (((m + 1 : Nat) : Int) == 0) = false := by rw [beq_eq_false_iff_ne]; omega
  have d0' : (m + 1 == 0) = false := by simp
  have w1 : IntKind.i64.wrap (((m + 1 : Nat) : Int) - 1) = (m : Int) := by rw [IntWalk.i64_in _ (by omega)]; omega
  have w2 : IntKind.i64.wrap ((m : Int) + 1 - 1) = (m : Int) := by rw [IntWalk.i64_in _ (by omega)]; omega
  have w3 : ((m + 1 : Nat) : Int) - 1 = (m : Int) := by omega
  have w4 : (m : Int) + 1 - 1 = (m : Int) := by omega
  have w5 : wrap64 (m : Int) = (m : Int) := by unfold wrap64; omega
  have w6 : IntKind.i64.wrap (m : Int) = (m : Int) := IntWalk.i64_in _ (by omega)
  have hm0 : (0 : Int) ≤ (m : Int) := by omega
  have hm1 : (m : Int) < ((m + 1 : Nat) : Int) := by omega
  have hm2 : (m : Int) < (m : Int) + 1 := by omega
  have d1 : ((m : Int) + 1 == 0) = false := by rw [beq_eq_false_iff_ne]; omega
  clear h hcs h0 hn
  go_enter Tryd.func47, Tryd.ntmps47
  go_wp2_with fail
  refine (C.out _).mono ?_; rintro e w1 ⟨rfl, rfl⟩
  go_wp2
  go_ret
  exact ⟨by rw [HR.out]; rfl, rfl⟩

section
variable {w : World} {g : Nat} {A : Option Addr} {n c : Nat} {ps : List VL} {mo : Option Nat} {D : DV} {s : FS}
set_option maxRecDepth 100000 in
theorem status_any (h : FlM w g A n c ps mo D s) (h0 : 0 < n) : Calls Tryd.prog 12 #[.pointer (some ⟨g, 0, none⟩)] w fun e w' => e = .returned (.int .i64 (statL s.L)) ∧ w = w' := by
  have C := Lib.hid (statusE_any A n c ps _ w h.es h0 (by have := h.big; omega))
  rw [h.evs] at C
  have q2 : w.cell? ⟨g, 2, none⟩ = some (.slice A n c) := h.blk.cell 2
  clear h h0
  go_enter Tryd.func12, Tryd.ntmps12
  go_wp2_with fail
  refine C.out.mono ?_; rintro e w1 ⟨rfl, rfl⟩
  go_wp2
  go_ret
  exact ⟨rfl, rfl⟩
set_option maxRecDepth 100000 in
theorem len_any (h : FlM w g A n c ps mo D s) : Calls Tryd.prog 13 #[.pointer (some ⟨g, 0, none⟩)] w fun e w' => e = .returned (.int .i64 n) ∧ w = w' := by
  have q2 : w.cell? ⟨g, 2, none⟩ = some (.slice A n c) := h.blk.cell 2
  clear h
  go_enter Tryd.func13, Tryd.ntmps13
  go_wp2
  go_ret
  exact ⟨rfl, rfl⟩
set_option maxRecDepth 100000 in
theorem list_any (h : FlM w g A n c ps mo D s) (h0 : 0 < n) : Calls Tryd.prog 97 #[.pointer (some ⟨g, 0, none⟩)] w fun e w' => e = .returned (.int .i64 (s.L.getD 0 default).l) ∧ w = w' := by
  have q2 : w.cell? ⟨g, 2, none⟩ = some (.slice A n c) := h.blk.cell 2
  obtain ⟨b, off, rfl, -, hcs, -⟩ := h.es.at (i := 0) h0
  have HR : Hid ((s.L.getD 0 default).l = (ps.getD 0 default).e.l) := Lib.hid (by rw [← h.evs, getD_map VL.e (by rw [h.len]; exact h0)])
  rw [HR.out]
  have q0 : w.cell? ⟨b, off + 0 * 7 + 4, none⟩ = some (.int .i64 (ps.getD 0 default).e.l) := hcs 4 _ rfl
  rw [Nat.zero_mul, Nat.add_zero] at q0
  generalize (ps.getD 0 default).e.l = x at *
  have h0' : (0 : Int) < (n : Int) := by omega
  clear h hcs HR
  go_enter Tryd.func97, Tryd.ntmps97
  go_wp2
  go_ret
  exact ⟨rfl, rfl⟩
set_option maxRecDepth 100000 in
theorem waits_any (a b : Int) (w : World) : Calls Tryd.prog 66 #[.agg #[.int .i64 a, .int .i64 b]] w fun e w' => e = .returned (.bool ((a != 0) && (b == 0))) ∧ Fr (fun _ => False) w w' := by
  have HF : Hid (Fr (fun _ => False) w (w.alloc (.cells #[.int .i64 a, .int .i64 b] 71))) := Lib.hid ((Fr.refl _ _).alloc _)
  obtain ⟨x, hx⟩ : ∃ x, (a != 0) = x := ⟨_, rfl⟩
  obtain ⟨x', hx'⟩ : ∃ x, (a == 0) = x := ⟨_, rfl⟩
  obtain ⟨y, hy⟩ : ∃ y, (b == 0) = y := ⟨_, rfl⟩
  have hxx : x = !x' := by rw [← hx, ← hx']; rfl
  rw [hx, hy]
  subst hxx
  cases x' <;> cases y <;>
  · go_enter Tryd.func66, Tryd.ntmps66
    go_wp2
    go_ret
    exact ⟨rfl, HF.out⟩
set_option maxRecDepth 100000 in
theorem scheduled_any (l t : Int) (w : World) : Calls Tryd.prog 30 #[.int .i64 l, .int .i64 t] w fun e w' => e = .returned (.agg #[.int .i64 2, .int .i64 0, .int .i64 0, .int .i64 0, .int .i64 l, .int .i64 t, .slice none 0 0]) ∧ Fr (fun _ => False) w w' := by
  obtain ⟨g2, hg2⟩ : ∃ g2, w.heap.size = g2 := ⟨_, rfl⟩
  obtain ⟨W, hW⟩ : ∃ W, w.alloc (.cells #[.int .i64 0, .int .i64 0, .int .i64 0, .int .i64 0, .int .i64 0, .int .i64 0, .slice none 0 0] 75) = W := ⟨_, rfl⟩
  have HB : Hid (Bk W g2 75 #[.int .i64 0, .int .i64 0, .int .i64 0, .int .i64 0, .int .i64 0, .int .i64 0, .slice none 0 0]) := Lib.hid (by rw [← hW, ← hg2]; exact Bk.new _ _ _)
  have HF : Hid (Fr (fun _ => False) w W) := Lib.hid (by rw [← hW]; exact (Fr.refl _ _).alloc _)
  have HG := Lib.hid hg2
  have b0 : W.cell? ⟨g2, 0, none⟩ = some (.int .i64 0) := HB.out.cell 0
  have f0 : W.frozen? ⟨g2, 0, none⟩ = false := HB.out.frozen 0
  have b1 : W.cell? ⟨g2, 1, none⟩ = some (.int .i64 0) := HB.out.cell 1
  have f1 : W.frozen? ⟨g2, 1, none⟩ = false := HB.out.frozen 1
  have b2 : W.cell? ⟨g2, 2, none⟩ = some (.int .i64 0) := HB.out.cell 2
  have f2 : W.frozen? ⟨g2, 2, none⟩ = false := HB.out.frozen 2
  have b3 : W.cell? ⟨g2, 3, none⟩ = some (.int .i64 0) := HB.out.cell 3
  have f3 : W.frozen? ⟨g2, 3, none⟩ = false := HB.out.frozen 3
  have b4 : W.cell? ⟨g2, 4, none⟩ = some (.int .i64 0) := HB.out.cell 4
  have f4 : W.frozen? ⟨g2, 4, none⟩ = false := HB.out.frozen 4
  have b5 : W.cell? ⟨g2, 5, none⟩ = some (.int .i64 0) := HB.out.cell 5
  have f5 : W.frozen? ⟨g2, 5, none⟩ = false := HB.out.frozen 5
  have b6 : W.cell? ⟨g2, 6, none⟩ = some (.slice none 0 0) := HB.out.cell 6
  have f6 : W.frozen? ⟨g2, 6, none⟩ = false := HB.out.frozen 6
  have G : Hid (Bk (set7 W g2 (.int .i64 2) (.int .i64 0) (.int .i64 0) (.int .i64 0) (.int .i64 l) (.int .i64 t) (.slice none 0 0)) g2 75 #[.int .i64 2, .int .i64 0, .int .i64 0, .int .i64 0, .int .i64 l, .int .i64 t, .slice none 0 0] ∧ Fr (fun k => k = g2) W (set7 W g2 (.int .i64 2) (.int .i64 0) (.int .i64 0) (.int .i64 0) (.int .i64 l) (.int .i64 t) (.slice none 0 0))) := Lib.hid ⟨HB.out.set7 _ _ _ _ _ _ _, Fr.set7 (S := fun k => k = g2) (Fr.refl _ _) (fun _ => rfl) _ _ _ _ _ _ _⟩
  go_enter Tryd.func30, Tryd.ntmps30
  go_wp2
  change bodyPost _ _ _ _ _ (set7 W g2 (.int .i64 2) (.int .i64 0) (.int .i64 0) (.int .i64 0) (.int .i64 l) (.int .i64 t) (.slice none 0 0))
  generalize set7 W g2 (.int .i64 2) (.int .i64 0) (.int .i64 0) (.int .i64 0) (.int .i64 l) (.int .i64 t) (.slice none 0 0) = W5 at *
  refine bodyPost_ret (resEv (p := 4) rfl _ _ g2 _ _ _ _ _ _ _ rfl G.out.1) rfl ?_
  exact ⟨rfl, HF.out.trans G.out.2 (fun x hx e => by have e' : x = g2 := e; have := HG.out; omega)⟩
set_option maxRecDepth 100000 in
set_option maxHeartbeats 4000000 in
theorem last_any (h : FlM w g A n c ps mo D s) (h0 : 0 < n) : Calls Tryd.prog 58 #[.pointer (some ⟨g, 0, none⟩)] w fun e w' => e = .returned (ps.getD (n - 1) default).val ∧ Fr (fun _ => False) w w' := by
  obtain ⟨m, rfl⟩ : ∃ m, n = m + 1 := ⟨n - 1, by omega⟩
  rw [Nat.add_sub_cancel]
  obtain ⟨g2, hg2⟩ : ∃ g2, w.heap.size = g2 := ⟨_, rfl⟩
  obtain ⟨W, hW⟩ : ∃ W, w.alloc (.cells #[.int .i64 0, .int .i64 0, .int .i64 0, .int .i64 0, .int .i64 0, .int .i64 0, .slice none 0 0] 75) = W := ⟨_, rfl⟩
  have HB : Hid (Bk W g2 75 #[.int .i64 0, .int .i64 0, .int .i64 0, .int .i64 0, .int .i64 0, .int .i64 0, .slice none 0 0]) := Lib.hid (by rw [← hW, ← hg2]; exact Bk.new _ _ _)
  have HF : Hid (Fr (fun _ => False) w W) := Lib.hid (by rw [← hW]; exact (Fr.refl _ _).alloc _)
  have HG := Lib.hid hg2
  obtain ⟨b, off, rfl, -, hcs, -⟩ := h.es.at (i := m) (by omega)
  have HQ2 : Hid (∀ w', Fr (fun x => x = g2) W w' → w'.cell? ⟨g, 2, none⟩ = some (.slice (some ⟨b, off, none⟩) (m + 1) c)) := Lib.hid (fun w' hf => ((h.blk.fr HF.out (fun h => h)).fr hf (fun e => by have := h.blk.lt; omega)).cell 2)
  have hbl : b < w.heap.size := World.block_lt_of_cell? w _ (hcs 0 _ rfl)
  have HQE : Hid (∀ w', Fr (fun x => x = g2) W w' → ∀ j u, (ps.getD m default).cells[j]? = some u → w'.cell? ⟨b, off + m * 7 + j, none⟩ = some u) := Lib.hid (fun w' hf j u hu => ((hf.cell (p := ⟨b, off + m * 7 + j, none⟩) (Nat.lt_of_lt_of_le hbl HF.out.size) (fun e => by have e' : b = g2 := e; omega)).trans (HF.out.cell hbl (fun h => h))).trans (hcs j u hu))
  have q2 := HQ2.out W (Fr.refl _ _)
  have hbig : (m : Int) + 1 ≤ 1048576 := by have := h.big; omega
  clear h hcs h0
  generalize ps.getD m default = p at *
  have hv : p.val = .agg #[.int .i64 p.e.k, .int .i64 p.e.a, .int .i64 p.e.r, .int .i64 p.e.i, .int .i64 p.e.l, .int .i64 p.e.n, .slice p.A p.e.d.length p.c] := rfl
  rw [hv]
  have HQ7 : Hid (∀ w', Fr (fun x => x = g2) W w' → w'.cell? ⟨b, off + m * 7, none⟩ = some (.int .i64 p.e.k) ∧ w'.cell? ⟨b, off + m * 7 + 1, none⟩ = some (.int .i64 p.e.a) ∧ w'.cell? ⟨b, off + m * 7 + 2, none⟩ = some (.int .i64 p.e.r) ∧ w'.cell? ⟨b, off + m * 7 + 3, none⟩ = some (.int .i64 p.e.i) ∧ w'.cell? ⟨b, off + m * 7 + 4, none⟩ = some (.int .i64 p.e.l) ∧ w'.cell? ⟨b, off + m * 7 + 5, none⟩ = some (.int .i64 p.e.n) ∧ w'.cell? ⟨b, off + m * 7 + 6, none⟩ = some (.slice p.A p.e.d.length p.c)) := Lib.hid (fun w' hf => ⟨HQE.out w' hf 0 _ rfl, HQE.out w' hf 1 _ rfl, HQE.out w' hf 2 _ rfl, HQE.out w' hf 3 _ rfl, HQE.out w' hf 4 _ rfl, HQE.out w' hf 5 _ rfl, HQE.out w' hf 6 _ rfl⟩)
  clear HQE hv
  generalize p.e.k = x0 at *
  generalize p.e.a = x1 at *
  generalize p.e.r = x2 at *
  generalize p.e.i = x3 at *
  generalize p.e.l = x4 at *
  generalize p.e.n = x5 at *
  generalize p.e.d.length = dl at *
  generalize p.A = pA at *
  generalize p.c = pc at *
  have d0 : (((m + 1 : Nat) : Int) == 0) = false := by rw [beq_eq_false_iff_ne]; omega
  have d1 : ((m : Int) + 1 == 0) = false := by rw [beq_eq_false_iff_ne]; omega
  have d2 : (m + 1 == 0) = false := by simp
  have w1 : IntKind.i64.wrap (((m + 1 : Nat) : Int) - 1) = (m : Int) := by rw [IntWalk.i64_in _ (by omega)]; omega
  have w2 : IntKind.i64.wrap ((m : Int) + 1 - 1) = (m : Int) := by rw [IntWalk.i64_in _ (by omega)]; omega
  have w4 : (m : Int) + 1 - 1 = (m : Int) := by omega
  have w5 : wrap64 (m : Int) = (m : Int) := by unfold wrap64; omega
  have w6 : IntKind.i64.wrap (m : Int) = (m : Int) := IntWalk.i64_in _ (by omega)
  have hm0 : (0 : Int) ≤ (m : Int) := by omega
  have hm1 : (m : Int) < ((m + 1 : Nat) : Int) := by omega
  have hm2 : (m : Int) < (m : Int) + 1 := by omega
  go_enter Tryd.func58, Tryd.ntmps58
  go_wp2_with fail
  clear hW hg2 q2
  refine wp_region_held_drew (S := (fun w' => Fr (fun x => x = g2) W w')) (by kernel_rfl) ((Fr.refl _ _).drew) (fun hHeld => ?_)
  refine wpAnyH_takeD (i := 0) (v := ?_) (some 10) rfl rfl (by kernel_rfl) (by kernel_rfl) (by kernel_rfl) (fun _ _ _ h => h) (Or.inl ⟨by rfl, ?_⟩) (by assumption) ?_
  rotate_left
  · intro w' hSw
    go_simp
    first | done | with_reducible rfl
  try simp only [Act.put, List.setIfInBounds_toArray, List.set_cons_zero, List.set_cons_succ]
  refine wpAnyH_takeD (i := 1) (v := ?_) (some 11) rfl rfl (by kernel_rfl) (by kernel_rfl) (by kernel_rfl) (fun _ _ _ h => h) (Or.inl ⟨by rfl, ?_⟩) (by assumption) ?_
  rotate_left
  · intro w' hSw
    go_simp
    first | done | with_reducible rfl
  try simp only [Act.put, List.setIfInBounds_toArray, List.set_cons_zero, List.set_cons_succ]
  refine wpAnyH_takeD (i := 2) (v := ?_) (some 12) rfl rfl (by kernel_rfl) (by kernel_rfl) (by kernel_rfl) (fun _ _ _ h => h) (Or.inl ⟨by rfl, ?_⟩) (by assumption) ?_
  rotate_left
  · intro w' hSw
    go_simp
    first | done | with_reducible rfl
  try simp only [Act.put, List.setIfInBounds_toArray, List.set_cons_zero, List.set_cons_succ]
  refine wpAnyH_takeD (i := 3) (v := ?_) (some 13) rfl rfl (by kernel_rfl) (by kernel_rfl) (by kernel_rfl) (fun _ _ _ h => h) (Or.inl ⟨by rfl, ?_⟩) (by assumption) ?_
  rotate_left
  · intro w' hSw
    have q2 := HQ2.out w' hSw
    go_simp
    first | done | with_reducible rfl
  try simp only [Act.put, List.setIfInBounds_toArray, List.set_cons_zero, List.set_cons_succ]
  refine wpAnyH_takeD (i := 4) (v := ?_) (some 14) rfl rfl (by kernel_rfl) (by kernel_rfl) (by kernel_rfl) (fun _ _ _ h => h) (Or.inl ⟨by rfl, ?_⟩) (by assumption) ?_
  rotate_left
  · intro w' hSw
    go_simp
    first | done | with_reducible rfl
  try simp only [Act.put, List.setIfInBounds_toArray, List.set_cons_zero, List.set_cons_succ]
  refine wpAnyH_takeD (i := 5) (v := ?_) (some 15) rfl rfl (by kernel_rfl) (by kernel_rfl) (by kernel_rfl) (fun _ _ _ h => h) (Or.inl ⟨by rfl, ?_⟩) (by assumption) ?_
  rotate_left
  · intro w' hSw
    go_simp
    first | done | with_reducible rfl
  try simp only [Act.put, List.setIfInBounds_toArray, List.set_cons_zero, List.set_cons_succ]
  refine wpAnyH_takeD (i := 6) (v := ?_) (some 16) rfl rfl (by kernel_rfl) (by kernel_rfl) (by kernel_rfl) (fun _ _ _ h => h) (Or.inl ⟨by rfl, ?_⟩) (by assumption) ?_
  rotate_left
  · intro w' hSw
    go_simp
    first | done | with_reducible rfl
  try simp only [Act.put, List.setIfInBounds_toArray, List.set_cons_zero, List.set_cons_succ]
  refine wpAnyH_takeD (i := 7) (v := ?_) (some 17) rfl rfl (by kernel_rfl) (by kernel_rfl) (by kernel_rfl) (fun _ _ _ h => h) (Or.inl ⟨by rfl, ?_⟩) (by assumption) ?_
  rotate_left
  · intro w' hSw
    have q2 := HQ2.out w' hSw
    go_simp
    first | done | with_reducible rfl
  try simp only [Act.put, List.setIfInBounds_toArray, List.set_cons_zero, List.set_cons_succ]
  refine wpAnyH_takeD (i := 8) (v := ?_) (some 18) rfl rfl (by kernel_rfl) (by kernel_rfl) (by kernel_rfl) (fun _ _ _ h => h) (Or.inl ⟨by rfl, ?_⟩) (by assumption) ?_
  rotate_left
  · intro w' hSw
    go_simp
    first | done | with_reducible rfl
  try simp only [Act.put, List.setIfInBounds_toArray, List.set_cons_zero, List.set_cons_succ]
  refine wpAnyH_takeD (i := 9) (v := ?_) (some 19) rfl rfl (by kernel_rfl) (by kernel_rfl) (by kernel_rfl) (fun _ _ _ h => h) (Or.inl ⟨by rfl, ?_⟩) (by assumption) ?_
  rotate_left
  · intro w' hSw
    go_simp
    first | done | with_reducible rfl
  try simp only [Act.put, List.setIfInBounds_toArray, List.set_cons_zero, List.set_cons_succ]
  refine wpAnyH_takeD (i := 10) (v := ?_) (some 20) rfl rfl (by kernel_rfl) (by kernel_rfl) (by kernel_rfl) (fun _ _ _ h => h) (Or.inl ⟨by rfl, ?_⟩) (by assumption) ?_
  rotate_left
  · intro w' hSw
    go_simp
    first | done | with_reducible rfl
  try simp only [Act.put, List.setIfInBounds_toArray, List.set_cons_zero, List.set_cons_succ]
  refine wpAnyH_takeD (i := 11) (v := ?_) (some 21) rfl rfl (by kernel_rfl) (by kernel_rfl) (by kernel_rfl) (fun _ _ _ h => h) (Or.inl ⟨by rfl, ?_⟩) (by assumption) ?_
  rotate_left
  · intro w' hSw
    obtain ⟨q0, q1, q2, q3, q4, q5, q6⟩ := HQ7.out w' hSw
    go_simp
    first | done | with_reducible rfl
  try simp only [Act.put, List.setIfInBounds_toArray, List.set_cons_zero, List.set_cons_succ]
  refine wpAnyH_ready (rs := [12]) (by kernel_rfl) (by simp) ?_
  refine AllReadyH.cons rfl (fun K hK => ?_) AllReadyH.nil
  have c0 : W.cell? ⟨g2, 0, none⟩ = some (.int .i64 0) := HB.out.cell 0
  have c1 : W.cell? ⟨g2, 1, none⟩ = some (.int .i64 0) := HB.out.cell 1
  have c2 : W.cell? ⟨g2, 2, none⟩ = some (.int .i64 0) := HB.out.cell 2
  have c3 : W.cell? ⟨g2, 3, none⟩ = some (.int .i64 0) := HB.out.cell 3
  have c4 : W.cell? ⟨g2, 4, none⟩ = some (.int .i64 0) := HB.out.cell 4
  have c5 : W.cell? ⟨g2, 5, none⟩ = some (.int .i64 0) := HB.out.cell 5
  have c6 : W.cell? ⟨g2, 6, none⟩ = some (.slice none 0 0) := HB.out.cell 6
  have f0 : W.frozen? ⟨g2, 0, none⟩ = false := HB.out.frozen 0
  have f1 : W.frozen? ⟨g2, 1, none⟩ = false := HB.out.frozen 1
  have f2 : W.frozen? ⟨g2, 2, none⟩ = false := HB.out.frozen 2
  have f3 : W.frozen? ⟨g2, 3, none⟩ = false := HB.out.frozen 3
  have f4 : W.frozen? ⟨g2, 4, none⟩ = false := HB.out.frozen 4
  have f5 : W.frozen? ⟨g2, 5, none⟩ = false := HB.out.frozen 5
  have f6 : W.frozen? ⟨g2, 6, none⟩ = false := HB.out.frozen 6
  go_simp
  have HX9 := Lib.hid ((HB.out.set7 (.int .i64 x0) (.int .i64 x1) (.int .i64 x2) (.int .i64 x3) (.int .i64 x4) (.int .i64 x5) (.slice pA dl pc)).drew)
  refine hK.out _ _ (((Fr.refl (fun x => x = g2) W).set7 (fun _ => rfl) _ _ _ _ _ _ _).drew) (fun hHeld => ?_)
  clear hK K
  try change wpAnyH _ _ _ _ _ _ _ (Act.put _ none _) _
  try simp only [Act.put, List.setIfInBounds_toArray, List.set_cons_zero, List.set_cons_succ]
  refine wpAnyH_done (by kernel_rfl) ?_ _
  have HH9 := Lib.hid hHeld
  clear hHeld
  obtain ⟨X9, hX9⟩ : ∃ X9, (set7 W g2 (.int .i64 x0) (.int .i64 x1) (.int .i64 x2) (.int .i64 x3) (.int .i64 x4) (.int .i64 x5) (.slice pA dl pc)).drew = X9 := ⟨_, rfl⟩
  rw [hX9] at HX9
  unfold Go.Proofs.YtkinbcmnfpkncaaDoor.set7 at hX9
  rw [hX9] at HH9 ⊢
  clear hX9 HQ2 HQ7 c0 c1 c2 c3 c4 c5 c6 f0 f1 f2 f3 f4 f5 f6
  go_wp2
  refine bodyPost_ret (resEv (p := 2) rfl _ _ g2 _ _ _ _ _ _ _ rfl HX9.out) rfl ?_
  exact ⟨rfl, HF.out.trans HH9.out (fun x hx e => by have e' : x = g2 := e; have := HG.out; omega)⟩
end
end Go.Proofs.YtkinbcmnfpkncaaDoor
