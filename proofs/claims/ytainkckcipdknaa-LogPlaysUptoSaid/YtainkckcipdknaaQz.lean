/- The law's step where it restores or merges. -/
import Derived.Test.YtainkckcipdknaaQx
namespace Go.Proofs.Ytainkckcipdknaa
open Go.RowKit

/-- A row of the call's own beside rows that came in. -/
theorem Rw.es2 {w wr : World} {T : TypeId} {A A0 : Option Addr} {n c : Nat} {ps : List EL} {B : Nat} (h : Rw w wr T (.slice A n c) ps) (h0 : Es w A0 n ps (fun k => k < B)) : Es wr A n ps (fun k => k < B ∨ w.heap.size ≤ k) := by
  refine ⟨h0.len, fun hn => ?_, fun p hp => ?_⟩
  · obtain ⟨A', c', e, _, _, hA⟩ := h.row.form
    obtain ⟨b, off, rfl⟩ := hA (by rw [h0.len]; exact hn)
    injection e with e1 _ _
    subst e1
    have hrow := h.row
    exact ⟨b, off, rfl, .inr (h.new b rfl), fun j u hu => hrow.cell hu⟩
  · have h1 := (h0.each p hp).fr h.fr (fun _ _ h => h)
    exact ⟨h1.rd, h1.ok, fun ad e h9 => .inl (h1.inF ad e h9)⟩
theorem Rw.caps {w wr : World} {T : TypeId} {A : Option Addr} {n c : Nat} {ps : List EL} (h : Rw w wr T (.slice A n c) ps) : n ≤ c ∧ (c : Int) ≤ 9223372036854775807 := by
  obtain ⟨A', c', e, h1, h2, _⟩ := h.row.form
  injection e with _ e2 e3
  subst e3
  unfold maxLen at h2
  omega
theorem refMerge {w : World} {g : Nat} {s : LG} {F G : Nat → Prop} {A : Option Addr} {n c : Nat} {ps2 : List EL} (h : Lg 41 68 w g s F) (hes : Es w A n ps2 G) (hGF : ∀ k, G k → ¬ F k) (hn : n ≤ 1099511627776) (hnc : n ≤ c) (hcm : (c : Int) ≤ 9223372036854775807) (hb1 : s.ix + s.l.length + n ≤ 20000000000000) (hb2 : s.l.length + n ≤ 4999999999999)
    (i : Int) (i0 : -9223372036854775808 ≤ i) (i1 : i ≤ 9223372036854775807) :
    Calls Try.prog 35 #[.pointer (some ⟨g, 0, none⟩), .int .i64 i, .slice A n c] w fun e w' => RMergeE w g s F i (ps2.map EL.e) e w' := by
  cases hm : s.mok i (ps2.map EL.e) with
  | false => exact refMerge_bad h hes (by omega) i i0 i1 hm
  | true => exact refMerge_ok h hes hGF hn hnc hcm hb1 hb2 i i0 i1 hm

set_option maxRecDepth 100000 in
set_option maxHeartbeats 4000000 in
theorem step_rest {w0 w : World} {g gr : Nat} {s : LG} {F G : Nat → Prop} {M : Nat} (q : Ac) (hp : PP w0 w g gr s s F G) (hs : Sm s M) (hM : M ≤ 4194304) (hq : q.ok) (hes : Es w0 q.A q.n q.ps (fun k => k < w0.heap.size)) (hop : q.op = 4) :
    Calls Try.prog 13 #[.pointer (some ⟨g, 0, none⟩), .pointer (some ⟨gr, 0, none⟩), .agg #[.int .i64 q.op, .int .i64 q.ix, .bool q.own, .int .i64 q.tm, .bool q.know, .slice q.A q.n q.c]] w fun e w' => StepE w0 g gr (M + q.n) e w' := by
  obtain ⟨op, x, own, tm, know, A, n, c, ps⟩ := q
  simp only at hes hop ⊢
  have x0 := hq.x0
  have x1 := hq.x1
  have hn1 : n ≤ 1048576 := hq.n1
  have hnc : n ≤ c := hq.nc
  have hcm : (c : Int) ≤ 9223372036854775807 := hq.cm
  simp only at x0 x1
  obtain ⟨W, hW⟩ : ∃ W, w.alloc (.cells #[.int .i64 op, .int .i64 x, .bool own, .int .i64 tm, .bool know, .slice A n c] 37) = W := ⟨_, rfl⟩
  obtain ⟨gb, hgb⟩ : ∃ gb, w.heap.size = gb := ⟨_, rfl⟩
  have HFW : Hid (Fr (fun _ => False) w W) := Lib.hid (by rw [← hW]; exact (Fr.refl _ _).alloc _)
  have HBX : Hid (Bk W gb 37 #[.int .i64 op, .int .i64 x, .bool own, .int .i64 tm, .bool know, .slice A n c]) := Lib.hid (by rw [← hW, ← hgb]; exact Bk.new _ _ _)
  have HGB : Hid (¬ F gb ∧ ¬ G gb) := Lib.hid (by rw [← hgb]; exact ⟨fun e => absurd (hp.lg.lt e) (Nat.lt_irrefl _), fun e => absurd (hp.rf.lt e) (Nat.lt_irrefl _)⟩)
  have HPW := Lib.hid (hp.fr0 HFW.out)
  have HCL : Hid (∀ w', Fr (fun k => F k ∨ G k) W w' → w'.cell? ⟨gb, 0, none⟩ = some (.int .i64 op) ∧ w'.cell? ⟨gb, 1, none⟩ = some (.int .i64 x) ∧ w'.cell? ⟨gb, 2, none⟩ = some (.bool own) ∧ w'.cell? ⟨gb, 3, none⟩ = some (.int .i64 tm) ∧ w'.cell? ⟨gb, 4, none⟩ = some (.bool know) ∧ w'.cell? ⟨gb, 5, none⟩ = some (.slice A n c)) := Lib.hid (fun w' hf => by
    have h9 := HBX.out.fr hf (fun e => by rcases e with e | e; exact HGB.out.1 e; exact HGB.out.2 e)
    exact ⟨h9.cell 0, h9.cell 1, h9.cell 2, h9.cell 3, h9.cell 4, h9.cell 5⟩)
  have HFO : ∀ {w'}, Fr (fun _ => False) W w' → Fr (fun k => F k ∨ G k) W w' := fun h => h.mono (fun _ _ e => e.elim)
  have HFO := Lib.hid (fun w' => @HFO w')
  have HES0 := Lib.hid hes
  have HES := Lib.hid (hes.fr0 (hp.fr.trans HFW.out (fun _ _ h => h)))
  have HSM := Lib.hid hs
  have HMM := Lib.hid hM
  have D1 := Lib.hid (refLast HPW.out.rf)
  have D2 := Lib.hid (fun (y : Int) (y0 : -9223372036854775808 ≤ y) (y1 : y ≤ 9223372036854775807) w' (hf : Fr (fun _ => False) W w') => refTerm (HPW.out.rf.fr0 hf) y y0 y1)
  obtain ⟨li, hli⟩ : ∃ li, s.lastI = li := ⟨_, rfl⟩
  obtain ⟨lt, hlt⟩ : ∃ lt, s.lastT = lt := ⟨_, rfl⟩
  rw [hli, hlt] at D1
  obtain ⟨idx, hidx, y0, y1⟩ : ∃ idx, ((own = true ∧ IntKind.i64.wrap (li - x) = idx) ∨ (own = false ∧ x = idx)) ∧ -9223372036854775808 ≤ idx ∧ idx ≤ 9223372036854775807 := by
    cases own
    · exact ⟨x, .inr ⟨rfl, rfl⟩, x0, x1⟩
    · exact ⟨_, .inl ⟨rfl, rfl⟩, (wrap_range _).1, (wrap_range _).2⟩
  obtain ⟨ti, hti⟩ : ∃ ti, s.term idx = ti := ⟨_, rfl⟩
  obtain ⟨qi, hqi⟩ : ∃ qi, s.is idx = qi := ⟨_, rfl⟩
  obtain ⟨t2, ht2⟩ : ∃ t2, ((know && qi) = true ∧ ti = t2) ∨ ((know && qi) = false ∧ tm = t2) := by
    cases h : (know && qi)
    · exact ⟨tm, .inr ⟨rfl, rfl⟩⟩
    · exact ⟨ti, .inl ⟨rfl, rfl⟩⟩
  have D2' := Lib.hid (fun w' (hf : Fr (fun _ => False) W w') => D2.out idx y0 y1 w' hf)
  rw [hti, hqi] at D2'
  have HOP := Lib.hid hop
  clear hp hs hM hq hes D2 hli hlt hti hqi hop
  go_enter Try.func13, Try.ntmps13
  go_wp2_with fail
  clear hW hgb
  refine D1.out.mono ?_; rintro e w1 ⟨rfl, hf1⟩
  have HF1 := Lib.hid hf1
  have m1 := (HCL.out w1 (HFO.out _ HF1.out)).2.1
  have m2 := (HCL.out w1 (HFO.out _ HF1.out)).2.2.1
  clear hf1 D1
  go_upto_if 28 with fail
  go_cut [9] (fun s9 wc => s9 = .int .i64 idx ∧ w1 = wc)
  case first =>
    rcases hidx with ⟨e1, e2⟩ | ⟨e1, e2⟩
    · subst e1
      go_wp2_with fail
      go_meet
      exact ⟨by rw [← e2], rfl⟩
    · subst e1
      subst e2
      go_wp2_with fail
      go_meet
      exact ⟨rfl, rfl⟩
  case rest =>
  obtain ⟨rfl, rfl⟩ := hcut
  have m3 := (HCL.out w1 (HFO.out _ HF1.out)).2.2.2.1
  clear hidx m1 m2
  go_wp2_with fail
  refine (D2'.out _ HF1.out).mono ?_; rintro e w2 ⟨rfl, hf2⟩
  have HF2 := Lib.hid (HF1.out.trans hf2 (fun _ _ h => h))
  have m4 := (HCL.out w2 (HFO.out _ HF2.out)).2.2.2.2.1
  clear hf2 D2' m3
  go_upto_region 7 with fail
  go_cut [45] (fun s45 wc2 => s45 = .bool (know && qi) ∧ w2 = wc2)
  case first =>
    cases know
    · go_wp2_with fail
      go_meet
      exact ⟨rfl, rfl⟩
    · go_wp2_with fail
      go_meet
      exact ⟨rfl, rfl⟩
  case rest =>
  obtain ⟨rfl, rfl⟩ := hcut
  clear m4
  obtain ⟨kq, hkq⟩ : ∃ kq, (know && qi) = kq := ⟨_, rfl⟩
  rw [hkq] at ht2 ⊢
  clear hkq
  go_upto_if 45 with fail
  go_cut [10] (fun s10 wc3 => s10 = .int .i64 t2 ∧ w2 = wc3)
  case first =>
    rcases ht2 with ⟨e1, e2⟩ | ⟨e1, e2⟩
    · subst e1
      subst e2
      go_wp2_with fail
      go_meet
      exact ⟨rfl, rfl⟩
    · subst e1
      subst e2
      go_wp2_with fail
      go_meet
      exact ⟨rfl, rfl⟩
  case rest =>
  obtain ⟨rfl, rfl⟩ := hcut
  have m0 := (HCL.out w2 (HFO.out _ HF2.out)).1
  have HP2 := Lib.hid (HPW.out.fr0 HF2.out)
  clear ht2
  have g1 : (op == 1) = false := by rw [HOP.out]; rfl
  have g2 : (op == 2) = false := by rw [HOP.out]; rfl
  have g3 : (op == 3) = false := by rw [HOP.out]; rfl
  have g4 : (op == 4) = true := by rw [HOP.out]; rfl
  obtain ⟨c0, c1⟩ : w2.cell? ⟨gr, 0, none⟩ = some (.int .i64 (s.ix : Int)) ∧ w2.cell? ⟨gr, 1, none⟩ = some (.int .i64 s.tm) := by
    obtain ⟨v, ps', h1, _, _⟩ := HP2.out.rf
    exact ⟨h1.c0, h1.c1⟩
  obtain ⟨sx, hsx⟩ : ∃ sx, s.ix = sx := ⟨_, rfl⟩
  obtain ⟨st, hst⟩ : ∃ st, s.tm = st := ⟨_, rfl⟩
  have HSX := Lib.hid hsx
  rw [hsx] at c0
  rw [hst] at c1
  clear hsx hst
  by_cases k1 : (sx : Int) < idx
  · by_cases k2 : (1 : Int) ≤ t2
    · by_cases k3 : st ≤ t2
      · by_cases k4 : idx < (1099511627776 : Int)
        · have C1 := Lib.hid (lgRestore HP2.out.lg idx t2 y0 (by omega))
          go_wp2_with fail
          refine C1.out.mono ?_; rintro e w3 ⟨rfl, h3, hf3⟩
          obtain ⟨F3, hp3, hfr3⟩ := HP2.out.stepP (h3.toF hf3)
          have HP3 := Lib.hid hp3
          have C2 := Lib.hid (refRestore HP3.out.rf idx t2 (by rw [HSX.out]; exact k1) k2 (by omega) (by have h9 := HSM.out; unfold Sm at h9; have := HMM.out; omega))
          clear h3 hf3 hp3 hfr3 C1
          go_wp2_with fail
          refine C2.out.mono ?_; rintro e w4 ⟨rfl, h4⟩
          obtain ⟨G4, hp4, _⟩ := HP3.out.stepR h4
          have HP4 := Lib.hid hp4
          clear h4 hp4 C2
          have HS9 : Hid (Sm _ (M + n)) := Lib.hid ((HSM.out.rest (i := idx) (t := t2) (by omega)).up (Nat.le_add_right _ _))
          by_cases hbig : (1099511627776 : Int) < idx
          · go_wp2
            go_ret
            exact ⟨rfl, _, _, _, HP4.out, HS9.out⟩
          · have dbig : decide ((1099511627776 : Int) < idx) = false := decide_eq_false hbig
            have CLK := Lib.hid (looks_any HP4.out.lg HP4.out.rf idx t2 y0 (by omega) (by have h9 := HS9.out; unfold Sm at h9; have := HMM.out; omega))
            go_wp2_with fail
            refine CLK.out.mono ?_; rintro e w9 ⟨rfl, hf9⟩
            have HF9 := Lib.hid hf9
            clear hf9 CLK
            go_wp2
            go_ret
            exact ⟨rfl, _, _, _, HP4.out.fr0 HF9.out, HS9.out⟩
        · have d4 : decide (idx < (1099511627776 : Int)) = false := decide_eq_false k4
          have HS9 : Hid (Sm _ (M + n)) := Lib.hid (HSM.out.up (Nat.le_add_right _ _))
          by_cases hbig : (1099511627776 : Int) < idx
          · go_wp2
            go_ret
            exact ⟨rfl, _, _, _, HP2.out, HS9.out⟩
          · have dbig : decide ((1099511627776 : Int) < idx) = false := decide_eq_false hbig
            have CLK := Lib.hid (looks_any HP2.out.lg HP2.out.rf idx t2 y0 (by omega) (by have h9 := HS9.out; unfold Sm at h9; have := HMM.out; omega))
            go_wp2_with fail
            refine CLK.out.mono ?_; rintro e w9 ⟨rfl, hf9⟩
            have HF9 := Lib.hid hf9
            clear hf9 CLK
            go_wp2
            go_ret
            exact ⟨rfl, _, _, _, HP2.out.fr0 HF9.out, HS9.out⟩
      · have d3 : decide (st ≤ t2) = false := decide_eq_false k3
        have HS9 : Hid (Sm _ (M + n)) := Lib.hid (HSM.out.up (Nat.le_add_right _ _))
        by_cases hbig : (1099511627776 : Int) < idx
        · go_wp2
          go_ret
          exact ⟨rfl, _, _, _, HP2.out, HS9.out⟩
        · have dbig : decide ((1099511627776 : Int) < idx) = false := decide_eq_false hbig
          have CLK := Lib.hid (looks_any HP2.out.lg HP2.out.rf idx t2 y0 (by omega) (by have h9 := HS9.out; unfold Sm at h9; have := HMM.out; omega))
          go_wp2_with fail
          refine CLK.out.mono ?_; rintro e w9 ⟨rfl, hf9⟩
          have HF9 := Lib.hid hf9
          clear hf9 CLK
          go_wp2
          go_ret
          exact ⟨rfl, _, _, _, HP2.out.fr0 HF9.out, HS9.out⟩
    · have d2 : decide ((1 : Int) ≤ t2) = false := decide_eq_false k2
      have HS9 : Hid (Sm _ (M + n)) := Lib.hid (HSM.out.up (Nat.le_add_right _ _))
      by_cases hbig : (1099511627776 : Int) < idx
      · go_wp2
        go_ret
        exact ⟨rfl, _, _, _, HP2.out, HS9.out⟩
      · have dbig : decide ((1099511627776 : Int) < idx) = false := decide_eq_false hbig
        have CLK := Lib.hid (looks_any HP2.out.lg HP2.out.rf idx t2 y0 (by omega) (by have h9 := HS9.out; unfold Sm at h9; have := HMM.out; omega))
        go_wp2_with fail
        refine CLK.out.mono ?_; rintro e w9 ⟨rfl, hf9⟩
        have HF9 := Lib.hid hf9
        clear hf9 CLK
        go_wp2
        go_ret
        exact ⟨rfl, _, _, _, HP2.out.fr0 HF9.out, HS9.out⟩
  · have d1 : decide ((sx : Int) < idx) = false := decide_eq_false k1
    have HS9 : Hid (Sm _ (M + n)) := Lib.hid (HSM.out.up (Nat.le_add_right _ _))
    by_cases hbig : (1099511627776 : Int) < idx
    · go_wp2
      go_ret
      exact ⟨rfl, _, _, _, HP2.out, HS9.out⟩
    · have dbig : decide ((1099511627776 : Int) < idx) = false := decide_eq_false hbig
      have CLK := Lib.hid (looks_any HP2.out.lg HP2.out.rf idx t2 y0 (by omega) (by have h9 := HS9.out; unfold Sm at h9; have := HMM.out; omega))
      go_wp2_with fail
      refine CLK.out.mono ?_; rintro e w9 ⟨rfl, hf9⟩
      have HF9 := Lib.hid hf9
      clear hf9 CLK
      go_wp2
      go_ret
      exact ⟨rfl, _, _, _, HP2.out.fr0 HF9.out, HS9.out⟩

set_option maxRecDepth 100000 in
set_option maxHeartbeats 4000000 in
theorem step_merge {w0 w : World} {g gr : Nat} {s : LG} {F G : Nat → Prop} {M : Nat} (q : Ac) (hp : PP w0 w g gr s s F G) (hs : Sm s M) (hM : M ≤ 4194304) (hq : q.ok) (hes : Es w0 q.A q.n q.ps (fun k => k < w0.heap.size)) (hop : q.op = 2) :
    Calls Try.prog 13 #[.pointer (some ⟨g, 0, none⟩), .pointer (some ⟨gr, 0, none⟩), .agg #[.int .i64 q.op, .int .i64 q.ix, .bool q.own, .int .i64 q.tm, .bool q.know, .slice q.A q.n q.c]] w fun e w' => StepE w0 g gr (M + q.n) e w' := by
  obtain ⟨op, x, own, tm, know, A, n, c, ps⟩ := q
  simp only at hes hop ⊢
  have x0 := hq.x0
  have x1 := hq.x1
  have hn1 : n ≤ 1048576 := hq.n1
  have hnc : n ≤ c := hq.nc
  have hcm : (c : Int) ≤ 9223372036854775807 := hq.cm
  simp only at x0 x1
  obtain ⟨W, hW⟩ : ∃ W, w.alloc (.cells #[.int .i64 op, .int .i64 x, .bool own, .int .i64 tm, .bool know, .slice A n c] 37) = W := ⟨_, rfl⟩
  obtain ⟨gb, hgb⟩ : ∃ gb, w.heap.size = gb := ⟨_, rfl⟩
  have HFW : Hid (Fr (fun _ => False) w W) := Lib.hid (by rw [← hW]; exact (Fr.refl _ _).alloc _)
  have HBX : Hid (Bk W gb 37 #[.int .i64 op, .int .i64 x, .bool own, .int .i64 tm, .bool know, .slice A n c]) := Lib.hid (by rw [← hW, ← hgb]; exact Bk.new _ _ _)
  have HGB : Hid (¬ F gb ∧ ¬ G gb) := Lib.hid (by rw [← hgb]; exact ⟨fun e => absurd (hp.lg.lt e) (Nat.lt_irrefl _), fun e => absurd (hp.rf.lt e) (Nat.lt_irrefl _)⟩)
  have HPW := Lib.hid (hp.fr0 HFW.out)
  have HCL : Hid (∀ w', Fr (fun k => F k ∨ G k) W w' → w'.cell? ⟨gb, 0, none⟩ = some (.int .i64 op) ∧ w'.cell? ⟨gb, 1, none⟩ = some (.int .i64 x) ∧ w'.cell? ⟨gb, 2, none⟩ = some (.bool own) ∧ w'.cell? ⟨gb, 3, none⟩ = some (.int .i64 tm) ∧ w'.cell? ⟨gb, 4, none⟩ = some (.bool know) ∧ w'.cell? ⟨gb, 5, none⟩ = some (.slice A n c)) := Lib.hid (fun w' hf => by
    have h9 := HBX.out.fr hf (fun e => by rcases e with e | e; exact HGB.out.1 e; exact HGB.out.2 e)
    exact ⟨h9.cell 0, h9.cell 1, h9.cell 2, h9.cell 3, h9.cell 4, h9.cell 5⟩)
  have HFO : ∀ {w'}, Fr (fun _ => False) W w' → Fr (fun k => F k ∨ G k) W w' := fun h => h.mono (fun _ _ e => e.elim)
  have HFO := Lib.hid (fun w' => @HFO w')
  have HES0 := Lib.hid hes
  have HES := Lib.hid (hes.fr0 (hp.fr.trans HFW.out (fun _ _ h => h)))
  have HSM := Lib.hid hs
  have HMM := Lib.hid hM
  have D1 := Lib.hid (refLast HPW.out.rf)
  have D2 := Lib.hid (fun (y : Int) (y0 : -9223372036854775808 ≤ y) (y1 : y ≤ 9223372036854775807) w' (hf : Fr (fun _ => False) W w') => refTerm (HPW.out.rf.fr0 hf) y y0 y1)
  obtain ⟨li, hli⟩ : ∃ li, s.lastI = li := ⟨_, rfl⟩
  obtain ⟨lt, hlt⟩ : ∃ lt, s.lastT = lt := ⟨_, rfl⟩
  rw [hli, hlt] at D1
  obtain ⟨idx, hidx, y0, y1⟩ : ∃ idx, ((own = true ∧ IntKind.i64.wrap (li - x) = idx) ∨ (own = false ∧ x = idx)) ∧ -9223372036854775808 ≤ idx ∧ idx ≤ 9223372036854775807 := by
    cases own
    · exact ⟨x, .inr ⟨rfl, rfl⟩, x0, x1⟩
    · exact ⟨_, .inl ⟨rfl, rfl⟩, (wrap_range _).1, (wrap_range _).2⟩
  obtain ⟨ti, hti⟩ : ∃ ti, s.term idx = ti := ⟨_, rfl⟩
  obtain ⟨qi, hqi⟩ : ∃ qi, s.is idx = qi := ⟨_, rfl⟩
  obtain ⟨t2, ht2⟩ : ∃ t2, ((know && qi) = true ∧ ti = t2) ∨ ((know && qi) = false ∧ tm = t2) := by
    cases h : (know && qi)
    · exact ⟨tm, .inr ⟨rfl, rfl⟩⟩
    · exact ⟨ti, .inl ⟨rfl, rfl⟩⟩
  have D2' := Lib.hid (fun w' (hf : Fr (fun _ => False) W w') => D2.out idx y0 y1 w' hf)
  rw [hti, hqi] at D2'
  have HOP := Lib.hid hop
  clear hp hs hM hq hes D2 hli hlt hti hqi hop
  go_enter Try.func13, Try.ntmps13
  go_wp2_with fail
  clear hW hgb
  refine D1.out.mono ?_; rintro e w1 ⟨rfl, hf1⟩
  have HF1 := Lib.hid hf1
  have m1 := (HCL.out w1 (HFO.out _ HF1.out)).2.1
  have m2 := (HCL.out w1 (HFO.out _ HF1.out)).2.2.1
  clear hf1 D1
  go_upto_if 28 with fail
  go_cut [9] (fun s9 wc => s9 = .int .i64 idx ∧ w1 = wc)
  case first =>
    rcases hidx with ⟨e1, e2⟩ | ⟨e1, e2⟩
    · subst e1
      go_wp2_with fail
      go_meet
      exact ⟨by rw [← e2], rfl⟩
    · subst e1
      subst e2
      go_wp2_with fail
      go_meet
      exact ⟨rfl, rfl⟩
  case rest =>
  obtain ⟨rfl, rfl⟩ := hcut
  have m3 := (HCL.out w1 (HFO.out _ HF1.out)).2.2.2.1
  clear hidx m1 m2
  go_wp2_with fail
  refine (D2'.out _ HF1.out).mono ?_; rintro e w2 ⟨rfl, hf2⟩
  have HF2 := Lib.hid (HF1.out.trans hf2 (fun _ _ h => h))
  have m4 := (HCL.out w2 (HFO.out _ HF2.out)).2.2.2.2.1
  clear hf2 D2' m3
  go_upto_region 7 with fail
  go_cut [45] (fun s45 wc2 => s45 = .bool (know && qi) ∧ w2 = wc2)
  case first =>
    cases know
    · go_wp2_with fail
      go_meet
      exact ⟨rfl, rfl⟩
    · go_wp2_with fail
      go_meet
      exact ⟨rfl, rfl⟩
  case rest =>
  obtain ⟨rfl, rfl⟩ := hcut
  clear m4
  obtain ⟨kq, hkq⟩ : ∃ kq, (know && qi) = kq := ⟨_, rfl⟩
  rw [hkq] at ht2 ⊢
  clear hkq
  go_upto_if 45 with fail
  go_cut [10] (fun s10 wc3 => s10 = .int .i64 t2 ∧ w2 = wc3)
  case first =>
    rcases ht2 with ⟨e1, e2⟩ | ⟨e1, e2⟩
    · subst e1
      subst e2
      go_wp2_with fail
      go_meet
      exact ⟨rfl, rfl⟩
    · subst e1
      subst e2
      go_wp2_with fail
      go_meet
      exact ⟨rfl, rfl⟩
  case rest =>
  obtain ⟨rfl, rfl⟩ := hcut
  have m0 := (HCL.out w2 (HFO.out _ HF2.out)).1
  have HP2 := Lib.hid (HPW.out.fr0 HF2.out)
  clear ht2
  have g1 : (op == 1) = false := by rw [HOP.out]; rfl
  have g2 : (op == 2) = true := by rw [HOP.out]; rfl
  have m5 := (HCL.out w2 (HFO.out _ HF2.out)).2.2.2.2.2
  have HNN : Hid (n ≤ 1048576 ∧ n ≤ c ∧ (c : Int) ≤ 9223372036854775807) := Lib.hid ⟨hn1, hnc, hcm⟩
  have HPL : Hid ((ps.map EL.e).length = n) := Lib.hid (by rw [List.length_map, HES.out.len])
  have C1 := Lib.hid (lgMerge (c := c) HP2.out.lg (HES.out.fr0 HF2.out) (fun k hk => Nat.lt_of_lt_of_le hk HP2.out.fr.size) (fun k hk e => by have := HP2.out.newF k e; omega) (by have := HNN.out.1; omega) HNN.out.2.1 (by unfold maxLen; have := HNN.out.2.2; omega) (by have h9 := HSM.out; unfold Sm at h9; have := HMM.out; have := HNN.out.1; omega) (by have h9 := HSM.out; unfold Sm at h9; have := HMM.out; have := HNN.out.1; omega) idx y0 y1)
  obtain ⟨z1, hz1⟩ : ∃ z, (s.mres idx (ps.map EL.e)).1 = z := ⟨_, rfl⟩
  obtain ⟨z2, hz2⟩ : ∃ z, (s.mres idx (ps.map EL.e)).2.1 = z := ⟨_, rfl⟩
  obtain ⟨z3, hz3⟩ : ∃ z, (s.mres idx (ps.map EL.e)).2.2 = z := ⟨_, rfl⟩
  have HZ := Lib.hid (And.intro hz1 (And.intro hz2 hz3))
  unfold MergeE at C1
  rw [hz1, hz2, hz3] at C1
  have b1 := beq_refl_i z1
  have b3 := beq_refl_i z3
  have b1' : (z1 != z1) = false := by simp
  have b3' : (z3 != z3) = false := by simp
  clear hz1 hz2 hz3
  go_wp2_with fail
  refine C1.out.mono ?_; rintro e w3 ⟨v3, qs3, rfl, hq3, hv3, hto3⟩
  have hvf : ∃ Av cv, v3 = .slice Av qs3.length cv := by
    obtain ⟨Av, cv, e, _⟩ := hv3.1.row.form
    exact ⟨Av, cv, e⟩
  obtain ⟨Av, cv, rfl⟩ := hvf
  obtain ⟨F3, hp3, hfr3⟩ := HP2.out.stepP hto3
  have HP3 := Lib.hid hp3
  have HV3 := Lib.hid hv3
  have HQ3 := Lib.hid hq3
  have HF3 : Hid (Fr (fun k => F k ∨ G k) W w3) := Lib.hid ((HFO.out _ HF2.out).trans hfr3 (fun _ _ e => .inl e))
  have m6 := (HCL.out w3 HF3.out).2.2.2.2.2
  have HESB : Hid (∀ w', Fr (fun _ => False) w0 w' → Es w' A n ps (fun k => k < w0.heap.size)) := Lib.hid (fun w' hf => HES0.out.fr0 hf)
  have C2 := Lib.hid (of_any A n c ps _ w3 (HESB.out w3 HP3.out.fr) (by have := HNN.out.1; omega))
  clear hq3 hv3 hto3 hp3 hfr3 C1 m5
  go_wp2_with fail
  refine C2.out.mono ?_; rintro e w4 ⟨A4, c4, rfl, hrw⟩
  have HRW := Lib.hid hrw
  have HP4 := Lib.hid (HP3.out.fr0 hrw.fr)
  have C3 := Lib.hid (refMerge (c := c4) HP4.out.rf (hrw.es2 (HESB.out w3 HP3.out.fr)) (fun k hk e => by
    rcases hk with hk | hk
    · have := HP3.out.newG k e; omega
    · have := HP3.out.rf.lt e; omega) (by have := HNN.out.1; omega) hrw.caps.1 hrw.caps.2 (by have h9 := HSM.out; unfold Sm at h9; have := HMM.out; have := HNN.out.1; omega) (by have h9 := HSM.out; unfold Sm at h9; have := HMM.out; have := HNN.out.1; omega) idx y0 y1)
  unfold RMergeE at C3
  rw [HZ.out.1, HZ.out.2.1, HZ.out.2.2] at C3
  clear hrw C2 m6
  go_wp2_with fail
  refine C3.out.mono ?_; rintro e w5 ⟨A5, c5, m5, qs5, rfl, hq5, hes5, hto5⟩
  obtain ⟨G5, hp5, hfr5⟩ := HP4.out.stepR hto5
  have HP5 := Lib.hid hp5
  have hm5 : m5 = qs3.length := by
    have e8 := congrArg List.length hq5
    have e9 := congrArg List.length HQ3.out
    rw [List.length_map, hes5.len] at e8
    rw [List.length_map] at e9
    omega
  subst hm5
  have hev : Es w5 Av qs3.length qs3 (fun k => w2.heap.size ≤ k) := ((((HV3.out.1.fr0 HRW.out.fr).fr hfr5 (fun k hk e => by
    have a1 := HV3.out.2 k hk
    have a2 := HP2.out.rf.lt e
    omega)).es).mono (fun k hk => HV3.out.2 k hk))
  have hlm : qs3.length ≤ 5000000000000 := by
    have e9 := congrArg List.length HQ3.out
    rw [List.length_map, ← HZ.out.2.1] at e9
    have : (s.mres idx (ps.map EL.e)).2.1.length ≤ n := by
      have h9 := HPL.out
      unfold LG.mres
      split
      · split
        · simp only [List.length_drop]; omega
        · simp
      · simp
    have := HNN.out.1
    omega
  have CS := Lib.hid (same_any Av A5 qs3.length cv c5 qs3 qs5 _ _ w5 hev hes5 (by rw [HQ3.out, hq5]) hlm)
  clear hq5 hes5 hto5 hp5 hfr5 hev hlm C3
  go_wp2_with fail
  refine CS.out.mono ?_; rintro e w6 ⟨rfl, hf6⟩
  have HP6 := Lib.hid (HP5.out.fr0 hf6)
  clear hf6 CS
  have HS9 : Hid (Sm _ (M + n)) := Lib.hid (by have h9 := HSM.out.merge idx (ps.map EL.e); rw [HPL.out] at h9; exact h9)
  by_cases hbig : (1099511627776 : Int) < idx
  · go_wp2
    go_ret
    exact ⟨rfl, _, _, _, HP6.out, HS9.out⟩
  · have dbig : decide ((1099511627776 : Int) < idx) = false := decide_eq_false hbig
    have CLK := Lib.hid (looks_any HP6.out.lg HP6.out.rf idx t2 y0 (by omega) (by have h9 := HS9.out; unfold Sm at h9; have := HMM.out; omega))
    go_wp2_with fail
    refine CLK.out.mono ?_; rintro e w9 ⟨rfl, hf9⟩
    have HF9 := Lib.hid hf9
    clear hf9 CLK
    go_wp2
    go_ret
    exact ⟨rfl, _, _, _, HP6.out.fr0 HF9.out, HS9.out⟩
end Go.Proofs.Ytainkckcipdknaa
