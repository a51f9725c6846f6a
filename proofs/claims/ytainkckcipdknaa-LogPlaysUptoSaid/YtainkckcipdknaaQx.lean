/- The law's step. -/
import Derived.Test.YtainkckcipdknaaQw
import Derived.Deep.DeepCutAuto
namespace Go.Proofs.Ytainkckcipdknaa
open Go.RowKit

/-- An act. -/
structure Ac where
  op : Int
  ix : Int
  own : Bool
  tm : Int
  know : Bool
  A : Option Addr
  n : Nat
  c : Nat
  ps : List EL
instance : Inhabited Ac := ⟨⟨0, 0, false, 0, false, none, 0, 0, []⟩⟩
def Ac.cells (q : Ac) : List Value := [.int .i64 q.op, .int .i64 q.ix, .bool q.own, .int .i64 q.tm, .bool q.know, .slice q.A q.n q.c]
/-- What may be of it; B: what is older than the call. -/
structure Ac.ok (q : Ac) : Prop where
  x0 : -9223372036854775808 ≤ q.ix
  x1 : q.ix ≤ 9223372036854775807
  n1 : q.n ≤ 1048576
  nc : q.n ≤ q.c
  cm : (q.c : Int) ≤ 9223372036854775807
/-- Both logs, side by side, since w0. -/
structure PP (w0 wr : World) (g gr : Nat) (s r : LG) (F G : Nat → Prop) : Prop where
  lg : Lg 65 51 wr g s F
  rf : Lg 41 68 wr gr r G
  fr : Fr (fun _ => False) w0 wr
  newF : ∀ k, F k → w0.heap.size ≤ k
  newG : ∀ k, G k → w0.heap.size ≤ k
  dis : ∀ k, F k → ¬ G k
theorem PP.fr0 {w0 wr w' : World} {g gr : Nat} {s r : LG} {F G : Nat → Prop} (h : PP w0 wr g gr s r F G) (hf : Fr (fun _ => False) wr w') : PP w0 w' g gr s r F G :=
  ⟨h.lg.fr0 hf, h.rf.fr0 hf, h.fr.trans hf (fun _ _ h => h), h.newF, h.newG, h.dis⟩
theorem PP.stepP {w0 wr w' : World} {g gr : Nat} {s r s' : LG} {F G : Nat → Prop} (h : PP w0 wr g gr s r F G) (ht : LgTo 65 51 wr g F w' s') : ∃ F', PP w0 w' g gr s' r F' G ∧ Fr F wr w' := by
  obtain ⟨F', h1, h2, h3⟩ := ht
  refine ⟨F', ⟨h1, h.rf.fr h2 (fun k hk hF => h.dis k hF hk), h.fr.trans h2 (fun k hk e => by have := h.newF k e; omega), fun k hk => ?_, h.newG, fun k hk hG => ?_⟩, h2⟩
  · rcases h3 k hk with e | e
    · exact h.newF k e
    · exact Nat.le_trans h.fr.size e
  · rcases h3 k hk with e | e
    · exact h.dis k e hG
    · have := h.rf.lt hG; omega
theorem PP.stepR {w0 wr w' : World} {g gr : Nat} {s r r' : LG} {F G : Nat → Prop} (h : PP w0 wr g gr s r F G) (ht : LgTo 41 68 wr gr G w' r') : ∃ G', PP w0 w' g gr s r' F G' ∧ Fr G wr w' := by
  obtain ⟨G', h1, h2, h3⟩ := ht
  refine ⟨G', ⟨h.lg.fr h2 (fun k hk hG => h.dis k hk hG), h1, h.fr.trans h2 (fun k hk e => by have := h.newG k e; omega), h.newF, fun k hk => ?_, fun k hk hG => ?_⟩, h2⟩
  · rcases h3 k hk with e | e
    · exact h.newG k e
    · exact Nat.le_trans h.fr.size e
  · rcases h3 k hG with e | e
    · exact h.dis k hk e
    · have := h.lg.lt hk; omega
theorem Lg.toF {TL TE : TypeId} {w w' : World} {g : Nat} {s : LG} {F : Nat → Prop} (h : Lg TL TE w' g s F) (hf : Fr F w w') : LgTo TL TE w g F w' s := ⟨F, h, hf, fun _ h => .inl h⟩
/-- How great it may be; M: how many entries there were. -/
def Sm (s : LG) (M : Nat) : Prop := s.ix + s.l.length ≤ 1099511627776 + M ∧ s.l.length ≤ M
theorem Sm.comp {s : LG} {M : Nat} (h : Sm s M) (i : Int) : Sm (s.comp i) M := by
  unfold LG.comp Sm at *
  cases hh : s.has i with
  | false => exact h
  | true =>
    have := LG.is_has hh
    simp only [if_true, List.length_drop]
    omega
theorem Sm.rest {s : LG} {M : Nat} (h : Sm s M) {i t : Int} (hi : i ≤ 1099511627776) : Sm (s.rest i t) M := by
  unfold LG.rest
  split
  · split
    · exact h.comp i
    · unfold Sm; simp; omega
  · exact h
theorem Sm.add {s : LG} {M : Nat} (h : Sm s M) (l : List En) : Sm (s.add l) (M + l.length) := by
  unfold Sm LG.add at *
  simp only [List.length_append]
  omega
theorem Sm.merge {s : LG} {M : Nat} (h : Sm s M) (i : Int) (l : List En) : Sm (s.merge i l) (M + l.length) := by
  unfold LG.merge
  split
  · unfold Sm at *
    simp only [List.length_append, List.length_take, List.length_drop]
    omega
  · unfold Sm at *; omega
theorem wrap_range (z : Int) : -9223372036854775808 ≤ IntKind.i64.wrap z ∧ IntKind.i64.wrap z ≤ 9223372036854775807 := by
  rw [IntKind.wrap_i64]; omega
/-- What step leaves. -/
def StepE (w0 : World) (g gr : Nat) (M : Nat) (e : Ending) (w' : World) : Prop := e = .returned (.bool true) ∧ ∃ s F G, PP w0 w' g gr s s F G ∧ Sm s M
theorem Sm.up {s : LG} {M N : Nat} (h : Sm s M) (hm : M ≤ N) : Sm s N := by unfold Sm at *; omega

set_option maxRecDepth 100000 in
set_option maxHeartbeats 4000000 in
theorem step_none {w0 w : World} {g gr : Nat} {s : LG} {F G : Nat → Prop} {M : Nat} (q : Ac) (hp : PP w0 w g gr s s F G) (hs : Sm s M) (hM : M ≤ 4194304) (hq : q.ok) (hes : Es w0 q.A q.n q.ps (fun k => k < w0.heap.size)) (hop : q.op ≠ 1 ∧ q.op ≠ 2 ∧ q.op ≠ 3 ∧ q.op ≠ 4) :
    Calls Try.prog 13 #[.pointer (some ⟨g, 0, none⟩), .pointer (some ⟨gr, 0, none⟩), .agg #[.int .i64 q.op, .int .i64 q.ix, .bool q.own, .int .i64 q.tm, .bool q.know, .slice q.A q.n q.c]] w fun e w' => StepE w0 g gr (M + q.n) e w' := by
  obtain ⟨op, x, own, tm, know, A, n, c, ps⟩ := q
  simp only at hes hop ⊢
  have x0 := hq.x0
  have x1 := hq.x1
  have hn1 : n ≤ 1048576 := hq.n1
  have hnc : n ≤ c := hq.nc
  have hcm : (c : Int) ≤ 9223372036854775807 := hq.cm
  simp only at x0 x1
  obtain ⟨W, hW⟩ : ∃ W, w.alloc (.cells #[.int .i64 op, .int .i64 x, .bool own, .int .i64 tm, .bool know, .slice A n c] 37) = W := ⟨_, rfl⟩
  obtain ⟨gb, hgb⟩ : ∃ gb, w.heap.size = gb := ⟨_, rfl⟩
  have HFW : Hid (Fr (fun _ => False) w W) := Lib.hid (by rw [← hW]; exact (Fr.refl _ _).alloc _)
  have HBX : Hid (Bk W gb 37 #[.int .i64 op, .int .i64 x, .bool own, .int .i64 tm, .bool know, .slice A n c]) := Lib.hid (by rw [← hW, ← hgb]; exact Bk.new _ _ _)
  have HGB : Hid (¬ F gb ∧ ¬ G gb) := Lib.hid (by rw [← hgb]; exact ⟨fun e => absurd (hp.lg.lt e) (Nat.lt_irrefl _), fun e => absurd (hp.rf.lt e) (Nat.lt_irrefl _)⟩)
  have HPW := Lib.hid (hp.fr0 HFW.out)
  have HCL : Hid (∀ w', Fr (fun k => F k ∨ G k) W w' → w'.cell? ⟨gb, 0, none⟩ = some (.int .i64 op) ∧ w'.cell? ⟨gb, 1, none⟩ = some (.int .i64 x) ∧ w'.cell? ⟨gb, 2, none⟩ = some (.bool own) ∧ w'.cell? ⟨gb, 3, none⟩ = some (.int .i64 tm) ∧ w'.cell? ⟨gb, 4, none⟩ = some (.bool know) ∧ w'.cell? ⟨gb, 5, none⟩ = some (.slice A n c)) := Lib.hid (fun w' hf => by
    have h9 := HBX.out.fr hf (fun e => by rcases e with e | e; exact HGB.out.1 e; exact HGB.out.2 e)
    exact ⟨h9.cell 0, h9.cell 1, h9.cell 2, h9.cell 3, h9.cell 4, h9.cell 5⟩)
  have HFO : ∀ {w'}, Fr (fun _ => False) W w' → Fr (fun k => F k ∨ G k) W w' := fun h => h.mono (fun _ _ e => e.elim)
  have HFO := Lib.hid (fun w' => @HFO w')
  have HES := Lib.hid (hes.fr0 (hp.fr.trans HFW.out (fun _ _ h => h)))
  have HSM := Lib.hid hs
  have HMM := Lib.hid hM
  have D1 := Lib.hid (refLast HPW.out.rf)
  have D2 := Lib.hid (fun (y : Int) (y0 : -9223372036854775808 ≤ y) (y1 : y ≤ 9223372036854775807) w' (hf : Fr (fun _ => False) W w') => refTerm (HPW.out.rf.fr0 hf) y y0 y1)
  obtain ⟨li, hli⟩ : ∃ li, s.lastI = li := ⟨_, rfl⟩
  obtain ⟨lt, hlt⟩ : ∃ lt, s.lastT = lt := ⟨_, rfl⟩
  rw [hli, hlt] at D1
  obtain ⟨idx, hidx, y0, y1⟩ : ∃ idx, ((own = true ∧ IntKind.i64.wrap (li - x) = idx) ∨ (own = false ∧ x = idx)) ∧ -9223372036854775808 ≤ idx ∧ idx ≤ 9223372036854775807 := by
    cases own
    · exact ⟨x, .inr ⟨rfl, rfl⟩, x0, x1⟩
    · exact ⟨_, .inl ⟨rfl, rfl⟩, (wrap_range _).1, (wrap_range _).2⟩
  obtain ⟨ti, hti⟩ : ∃ ti, s.term idx = ti := ⟨_, rfl⟩
  obtain ⟨qi, hqi⟩ : ∃ qi, s.is idx = qi := ⟨_, rfl⟩
  obtain ⟨t2, ht2⟩ : ∃ t2, ((know && qi) = true ∧ ti = t2) ∨ ((know && qi) = false ∧ tm = t2) := by
    cases h : (know && qi)
    · exact ⟨tm, .inr ⟨rfl, rfl⟩⟩
    · exact ⟨ti, .inl ⟨rfl, rfl⟩⟩
  have D2' := Lib.hid (fun w' (hf : Fr (fun _ => False) W w') => D2.out idx y0 y1 w' hf)
  rw [hti, hqi] at D2'
  have HOP := Lib.hid hop
  clear hp hs hM hq hes D2 hli hlt hti hqi hop
  go_enter Try.func13, Try.ntmps13
  go_wp2_with fail
  clear hW hgb
  refine D1.out.mono ?_; rintro e w1 ⟨rfl, hf1⟩
  have HF1 := Lib.hid hf1
  have m1 := (HCL.out w1 (HFO.out _ HF1.out)).2.1
  have m2 := (HCL.out w1 (HFO.out _ HF1.out)).2.2.1
  clear hf1 D1
  go_upto_if 28 with fail
  go_cut [9] (fun s9 wc => s9 = .int .i64 idx ∧ w1 = wc)
  case first =>
    rcases hidx with ⟨e1, e2⟩ | ⟨e1, e2⟩
    · subst e1
      go_wp2_with fail
      go_meet
      exact ⟨by rw [← e2], rfl⟩
    · subst e1
      subst e2
      go_wp2_with fail
      go_meet
      exact ⟨rfl, rfl⟩
  case rest =>
  obtain ⟨rfl, rfl⟩ := hcut
  have m3 := (HCL.out w1 (HFO.out _ HF1.out)).2.2.2.1
  clear hidx m1 m2
  go_wp2_with fail
  refine (D2'.out _ HF1.out).mono ?_; rintro e w2 ⟨rfl, hf2⟩
  have HF2 := Lib.hid (HF1.out.trans hf2 (fun _ _ h => h))
  have m4 := (HCL.out w2 (HFO.out _ HF2.out)).2.2.2.2.1
  clear hf2 D2' m3
  go_upto_region 7 with fail
  go_cut [45] (fun s45 wc2 => s45 = .bool (know && qi) ∧ w2 = wc2)
  case first =>
    cases know
    · go_wp2_with fail
      go_meet
      exact ⟨rfl, rfl⟩
    · go_wp2_with fail
      go_meet
      exact ⟨rfl, rfl⟩
  case rest =>
  obtain ⟨rfl, rfl⟩ := hcut
  clear m4
  obtain ⟨kq, hkq⟩ : ∃ kq, (know && qi) = kq := ⟨_, rfl⟩
  rw [hkq] at ht2 ⊢
  clear hkq
  go_upto_if 45 with fail
  go_cut [10] (fun s10 wc3 => s10 = .int .i64 t2 ∧ w2 = wc3)
  case first =>
    rcases ht2 with ⟨e1, e2⟩ | ⟨e1, e2⟩
    · subst e1
      subst e2
      go_wp2_with fail
      go_meet
      exact ⟨rfl, rfl⟩
    · subst e1
      subst e2
      go_wp2_with fail
      go_meet
      exact ⟨rfl, rfl⟩
  case rest =>
  obtain ⟨rfl, rfl⟩ := hcut
  have m0 := (HCL.out w2 (HFO.out _ HF2.out)).1
  have HP2 := Lib.hid (HPW.out.fr0 HF2.out)
  clear ht2
  have g1 : (op == 1) = false := by rw [beq_eq_false_iff_ne]; exact HOP.out.1
  have g2 : (op == 2) = false := by rw [beq_eq_false_iff_ne]; exact HOP.out.2.1
  have g3 : (op == 3) = false := by rw [beq_eq_false_iff_ne]; exact HOP.out.2.2.1
  have g4 : (op == 4) = false := by rw [beq_eq_false_iff_ne]; exact HOP.out.2.2.2
  have HS9 : Hid (Sm _ (M + n)) := Lib.hid (HSM.out.up (Nat.le_add_right _ _))
  by_cases hbig : (1099511627776 : Int) < idx
  · go_wp2
    go_ret
    exact ⟨rfl, _, _, _, HP2.out, HS9.out⟩
  · have dbig : decide ((1099511627776 : Int) < idx) = false := decide_eq_false hbig
    have CLK := Lib.hid (looks_any HP2.out.lg HP2.out.rf idx t2 y0 (by omega) (by have h9 := HS9.out; unfold Sm at h9; have := HMM.out; omega))
    go_wp2_with fail
    refine CLK.out.mono ?_; rintro e w9 ⟨rfl, hf9⟩
    have HF9 := Lib.hid hf9
    clear hf9 CLK
    go_wp2
    go_ret
    exact ⟨rfl, _, _, _, HP2.out.fr0 HF9.out, HS9.out⟩

set_option maxRecDepth 100000 in
set_option maxHeartbeats 4000000 in
theorem step_comp {w0 w : World} {g gr : Nat} {s : LG} {F G : Nat → Prop} {M : Nat} (q : Ac) (hp : PP w0 w g gr s s F G) (hs : Sm s M) (hM : M ≤ 4194304) (hq : q.ok) (hes : Es w0 q.A q.n q.ps (fun k => k < w0.heap.size)) (hop : q.op = 3) :
    Calls Try.prog 13 #[.pointer (some ⟨g, 0, none⟩), .pointer (some ⟨gr, 0, none⟩), .agg #[.int .i64 q.op, .int .i64 q.ix, .bool q.own, .int .i64 q.tm, .bool q.know, .slice q.A q.n q.c]] w fun e w' => StepE w0 g gr (M + q.n) e w' := by
  obtain ⟨op, x, own, tm, know, A, n, c, ps⟩ := q
  simp only at hes hop ⊢
  have x0 := hq.x0
  have x1 := hq.x1
  have hn1 : n ≤ 1048576 := hq.n1
  have hnc : n ≤ c := hq.nc
  have hcm : (c : Int) ≤ 9223372036854775807 := hq.cm
  simp only at x0 x1
  obtain ⟨W, hW⟩ : ∃ W, w.alloc (.cells #[.int .i64 op, .int .i64 x, .bool own, .int .i64 tm, .bool know, .slice A n c] 37) = W := ⟨_, rfl⟩
  obtain ⟨gb, hgb⟩ : ∃ gb, w.heap.size = gb := ⟨_, rfl⟩
  have HFW : Hid (Fr (fun _ => False) w W) := Lib.hid (by rw [← hW]; exact (Fr.refl _ _).alloc _)
  have HBX : Hid (Bk W gb 37 #[.int .i64 op, .int .i64 x, .bool own, .int .i64 tm, .bool know, .slice A n c]) := Lib.hid (by rw [← hW, ← hgb]; exact Bk.new _ _ _)
  have HGB : Hid (¬ F gb ∧ ¬ G gb) := Lib.hid (by rw [← hgb]; exact ⟨fun e => absurd (hp.lg.lt e) (Nat.lt_irrefl _), fun e => absurd (hp.rf.lt e) (Nat.lt_irrefl _)⟩)
  have HPW := Lib.hid (hp.fr0 HFW.out)
  have HCL : Hid (∀ w', Fr (fun k => F k ∨ G k) W w' → w'.cell? ⟨gb, 0, none⟩ = some (.int .i64 op) ∧ w'.cell? ⟨gb, 1, none⟩ = some (.int .i64 x) ∧ w'.cell? ⟨gb, 2, none⟩ = some (.bool own) ∧ w'.cell? ⟨gb, 3, none⟩ = some (.int .i64 tm) ∧ w'.cell? ⟨gb, 4, none⟩ = some (.bool know) ∧ w'.cell? ⟨gb, 5, none⟩ = some (.slice A n c)) := Lib.hid (fun w' hf => by
    have h9 := HBX.out.fr hf (fun e => by rcases e with e | e; exact HGB.out.1 e; exact HGB.out.2 e)
    exact ⟨h9.cell 0, h9.cell 1, h9.cell 2, h9.cell 3, h9.cell 4, h9.cell 5⟩)
  have HFO : ∀ {w'}, Fr (fun _ => False) W w' → Fr (fun k => F k ∨ G k) W w' := fun h => h.mono (fun _ _ e => e.elim)
  have HFO := Lib.hid (fun w' => @HFO w')
  have HES := Lib.hid (hes.fr0 (hp.fr.trans HFW.out (fun _ _ h => h)))
  have HSM := Lib.hid hs
  have HMM := Lib.hid hM
  have D1 := Lib.hid (refLast HPW.out.rf)
  have D2 := Lib.hid (fun (y : Int) (y0 : -9223372036854775808 ≤ y) (y1 : y ≤ 9223372036854775807) w' (hf : Fr (fun _ => False) W w') => refTerm (HPW.out.rf.fr0 hf) y y0 y1)
  obtain ⟨li, hli⟩ : ∃ li, s.lastI = li := ⟨_, rfl⟩
  obtain ⟨lt, hlt⟩ : ∃ lt, s.lastT = lt := ⟨_, rfl⟩
  rw [hli, hlt] at D1
  obtain ⟨idx, hidx, y0, y1⟩ : ∃ idx, ((own = true ∧ IntKind.i64.wrap (li - x) = idx) ∨ (own = false ∧ x = idx)) ∧ -9223372036854775808 ≤ idx ∧ idx ≤ 9223372036854775807 := by
    cases own
    · exact ⟨x, .inr ⟨rfl, rfl⟩, x0, x1⟩
    · exact ⟨_, .inl ⟨rfl, rfl⟩, (wrap_range _).1, (wrap_range _).2⟩
  obtain ⟨ti, hti⟩ : ∃ ti, s.term idx = ti := ⟨_, rfl⟩
  obtain ⟨qi, hqi⟩ : ∃ qi, s.is idx = qi := ⟨_, rfl⟩
  obtain ⟨t2, ht2⟩ : ∃ t2, ((know && qi) = true ∧ ti = t2) ∨ ((know && qi) = false ∧ tm = t2) := by
    cases h : (know && qi)
    · exact ⟨tm, .inr ⟨rfl, rfl⟩⟩
    · exact ⟨ti, .inl ⟨rfl, rfl⟩⟩
  have D2' := Lib.hid (fun w' (hf : Fr (fun _ => False) W w') => D2.out idx y0 y1 w' hf)
  rw [hti, hqi] at D2'
  have HOP := Lib.hid hop
  clear hp hs hM hq hes D2 hli hlt hti hqi hop
  go_enter Try.func13, Try.ntmps13
  go_wp2_with fail
  clear hW hgb
  refine D1.out.mono ?_; rintro e w1 ⟨rfl, hf1⟩
  have HF1 := Lib.hid hf1
  have m1 := (HCL.out w1 (HFO.out _ HF1.out)).2.1
  have m2 := (HCL.out w1 (HFO.out _ HF1.out)).2.2.1
  clear hf1 D1
  go_upto_if 28 with fail
  go_cut [9] (fun s9 wc => s9 = .int .i64 idx ∧ w1 = wc)
  case first =>
    rcases hidx with ⟨e1, e2⟩ | ⟨e1, e2⟩
    · subst e1
      go_wp2_with fail
      go_meet
      exact ⟨by rw [← e2], rfl⟩
    · subst e1
      subst e2
      go_wp2_with fail
      go_meet
      exact ⟨rfl, rfl⟩
  case rest =>
  obtain ⟨rfl, rfl⟩ := hcut
  have m3 := (HCL.out w1 (HFO.out _ HF1.out)).2.2.2.1
  clear hidx m1 m2
  go_wp2_with fail
  refine (D2'.out _ HF1.out).mono ?_; rintro e w2 ⟨rfl, hf2⟩
  have HF2 := Lib.hid (HF1.out.trans hf2 (fun _ _ h => h))
  have m4 := (HCL.out w2 (HFO.out _ HF2.out)).2.2.2.2.1
  clear hf2 D2' m3
  go_upto_region 7 with fail
  go_cut [45] (fun s45 wc2 => s45 = .bool (know && qi) ∧ w2 = wc2)
  case first =>
    cases know
    · go_wp2_with fail
      go_meet
      exact ⟨rfl, rfl⟩
    · go_wp2_with fail
      go_meet
      exact ⟨rfl, rfl⟩
  case rest =>
  obtain ⟨rfl, rfl⟩ := hcut
  clear m4
  obtain ⟨kq, hkq⟩ : ∃ kq, (know && qi) = kq := ⟨_, rfl⟩
  rw [hkq] at ht2 ⊢
  clear hkq
  go_upto_if 45 with fail
  go_cut [10] (fun s10 wc3 => s10 = .int .i64 t2 ∧ w2 = wc3)
  case first =>
    rcases ht2 with ⟨e1, e2⟩ | ⟨e1, e2⟩
    · subst e1
      subst e2
      go_wp2_with fail
      go_meet
      exact ⟨rfl, rfl⟩
    · subst e1
      subst e2
      go_wp2_with fail
      go_meet
      exact ⟨rfl, rfl⟩
  case rest =>
  obtain ⟨rfl, rfl⟩ := hcut
  have m0 := (HCL.out w2 (HFO.out _ HF2.out)).1
  have HP2 := Lib.hid (HPW.out.fr0 HF2.out)
  clear ht2
  have g1 : (op == 1) = false := by rw [HOP.out]; rfl
  have g2 : (op == 2) = false := by rw [HOP.out]; rfl
  have g3 : (op == 3) = true := by rw [HOP.out]; rfl
  obtain ⟨z, hz⟩ : ∃ z : Int, (if s.has idx then (0 : Int) else 1) = z := ⟨_, rfl⟩
  have C1 := Lib.hid (lgCompact HP2.out.lg idx y0 y1)
  have HZ := Lib.hid hz
  rw [hz] at C1
  clear hz
  have bz := beq_refl_i z
  have bz2 : (z != z) = false := by simp
  go_wp2_with fail
  refine C1.out.mono ?_; rintro e w3 ⟨rfl, h3, hf3⟩
  obtain ⟨F3, hp3, hfr3⟩ := HP2.out.stepP (h3.toF hf3)
  have HP3 := Lib.hid hp3
  have C2 := Lib.hid (refCompact HP3.out.rf idx y0 y1 (by have h9 := HSM.out; unfold Sm at h9; have := HMM.out; omega))
  rw [HZ.out] at C2
  clear h3 hf3 hp3 hfr3 C1
  go_wp2_with fail
  refine C2.out.mono ?_; rintro e w4 ⟨rfl, h4⟩
  obtain ⟨G4, hp4, _⟩ := HP3.out.stepR h4
  have HP4 := Lib.hid hp4
  clear h4 hp4 C2
  have HS9 : Hid (Sm _ (M + n)) := Lib.hid ((HSM.out.comp idx).up (Nat.le_add_right _ _))
  by_cases hbig : (1099511627776 : Int) < idx
  · go_wp2
    go_ret
    exact ⟨rfl, _, _, _, HP4.out, HS9.out⟩
  · have dbig : decide ((1099511627776 : Int) < idx) = false := decide_eq_false hbig
    have CLK := Lib.hid (looks_any HP4.out.lg HP4.out.rf idx t2 y0 (by omega) (by have h9 := HS9.out; unfold Sm at h9; have := HMM.out; omega))
    go_wp2_with fail
    refine CLK.out.mono ?_; rintro e w9 ⟨rfl, hf9⟩
    have HF9 := Lib.hid hf9
    clear hf9 CLK
    go_wp2
    go_ret
    exact ⟨rfl, _, _, _, HP4.out.fr0 HF9.out, HS9.out⟩

end Go.Proofs.Ytainkckcipdknaa
