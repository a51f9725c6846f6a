/- flow: May, and the reference's. -/
import Derived.Test.YtkinbcmnfpkncaaDoorXb
import Derived.Test.YtkinbcmnfpkncaaDoorXi0
namespace Go.Proofs.YtkinbcmnfpkncaaDoor
open Go.RowKit Go.Maps

set_option maxRecDepth 100000 in
theorem flowNumber_any (v : Int) (w : World) : Calls Tryd.prog 31 #[.int .i64 v] w fun e w' => e = .returned (.bool (betw 0 1048576 v)) ∧ w = w' := by
  unfold betw
  obtain ⟨x, hx⟩ : ∃ x, decide (0 ≤ v) = x := ⟨_, rfl⟩
  obtain ⟨y, hy⟩ : ∃ y, decide (v ≤ 1048576) = y := ⟨_, rfl⟩
  rw [hx, hy]
  cases x <;>
  · go_enter Tryd.func31, Tryd.ntmps31
    go_wp2
    go_ret
    exact ⟨rfl, rfl⟩
set_option maxRecDepth 100000 in
theorem ticks_any (v : Int) (w : World) : Calls Tryd.prog 32 #[.int .i64 v] w fun e w' => e = .returned (.bool (betw 1 1048576 v)) ∧ w = w' := by
  unfold betw
  obtain ⟨x, hx⟩ : ∃ x, decide (1 ≤ v) = x := ⟨_, rfl⟩
  obtain ⟨y, hy⟩ : ∃ y, decide (v ≤ 1048576) = y := ⟨_, rfl⟩
  rw [hx, hy]
  cases x <;>
  · go_enter Tryd.func32, Tryd.ntmps32
    go_wp2
    go_ret
    exact ⟨rfl, rfl⟩

set_option maxRecDepth 100000 in
set_option maxHeartbeats 16000000 in
theorem may_any (x : DL) (w : World) : Calls Tryd.prog 106 #[.agg x.cells] w fun e w' => e = .returned (.bool x.may) ∧ Fr (fun _ => False) w w' := by
  obtain ⟨g1, hg1⟩ : ∃ g1, w.heap.size = g1 := ⟨_, rfl⟩
  obtain ⟨W, hW⟩ : ∃ W, w.alloc (.cells x.cells 59) = W := ⟨_, rfl⟩
  have HF : Hid (Fr (fun _ => False) w W) := Lib.hid (by rw [← hW]; exact (Fr.refl _ _).alloc _)
  have HB : Hid (Bk W g1 59 x.cells) := Lib.hid (by rw [← hW, ← hg1]; exact Bk.new _ _ _)
  have HS : Hid (∀ w', Fr (fun k => k = g1) W w' → Fr (fun _ => False) w w') := Lib.hid (fun w' hf => HF.out.trans hf (fun y hy e => by have e' : y = g1 := e; omega))
  have HM : Hid (x.may = mayB x.k (betw 0 1048576 x.i) (betw 0 1048576 x.l) (betw 1 1048576 x.n) (decide ((x.dl : Int) ≤ 4096)) (x.i == 0) (x.l == 0) (x.n == 0) ((x.dl : Int) == 0)) := Lib.hid rfl
  have CI := Lib.hid (fun w' => isBetween_any x.i 0 1048576 w')
  have CL := Lib.hid (fun w' => isBetween_any x.l 0 1048576 w')
  have CN := Lib.hid (fun w' => isBetween_any x.n 1 1048576 w')
  change Hid (∀ w', Calls _ _ _ w' fun e w9 => e = .returned (.bool (betw 0 1048576 x.i)) ∧ w' = w9) at CI
  change Hid (∀ w', Calls _ _ _ w' fun e w9 => e = .returned (.bool (betw 0 1048576 x.l)) ∧ w' = w9) at CL
  change Hid (∀ w', Calls _ _ _ w' fun e w9 => e = .returned (.bool (betw 1 1048576 x.n)) ∧ w' = w9) at CN
  generalize x.may = R at *
  obtain ⟨k, i, l, n, A, dl, c⟩ := x
  unfold DL.cells at *
  simp only at *
  have q0 : W.cell? ⟨g1, 0, none⟩ = some (.int .i64 k) := HB.out.cell 0
  have q1 : W.cell? ⟨g1, 1, none⟩ = some (.int .i64 i) := HB.out.cell 1
  have q2 : W.cell? ⟨g1, 2, none⟩ = some (.int .i64 l) := HB.out.cell 2
  have q3 : W.cell? ⟨g1, 3, none⟩ = some (.int .i64 n) := HB.out.cell 3
  have q4 : W.cell? ⟨g1, 4, none⟩ = some (.slice A dl c) := HB.out.cell 4
  have f1 : W.frozen? ⟨g1, 1, none⟩ = false := HB.out.frozen 1
  have f2 : W.frozen? ⟨g1, 2, none⟩ = false := HB.out.frozen 2
  have f3 : W.frozen? ⟨g1, 3, none⟩ = false := HB.out.frozen 3
  have f4 : W.frozen? ⟨g1, 4, none⟩ = false := HB.out.frozen 4
  generalize betw 0 1048576 i = bi at *
  generalize betw 0 1048576 l = bl at *
  generalize betw 1 1048576 n = bn at *
  obtain ⟨bd, hbd⟩ : ∃ b, decide ((dl : Int) ≤ 4096) = b := ⟨_, rfl⟩
  obtain ⟨zi, hzi⟩ : ∃ b, (i == 0) = b := ⟨_, rfl⟩
  obtain ⟨zl, hzl⟩ : ∃ b, (l == 0) = b := ⟨_, rfl⟩
  obtain ⟨zn, hzn⟩ : ∃ b, (n == 0) = b := ⟨_, rfl⟩
  obtain ⟨zd, hzd⟩ : ∃ b, ((dl : Int) == 0) = b := ⟨_, rfl⟩
  rw [hbd, hzi, hzl, hzn, hzd] at HM
  have hbd' : decide (dl ≤ 4096) = bd := by rw [← hbd, Bool.eq_iff_iff]; first | (simp; done) | (simp; omega)
  have hbg : decide ((4096 : Int) < (dl : Int)) = !bd := by rw [← hbd, ← decide_not]; first | (simp; done) | (simp; omega)
  have hbg' : decide (4096 < dl) = !bd := by rw [← hbg]; first | (simp; done) | (simp; omega)
  have hzd' : (dl == 0) = zd := by rw [← hzd]; rw [Bool.eq_iff_iff]; simp
  have hzp : decide ((0 : Int) < (dl : Int)) = !zd := by rw [← hzd]; rw [Bool.eq_iff_iff]; simp; omega
  have hzp' : decide (0 < dl) = !zd := by rw [← hzp]; simp
  have hzi' : (i != 0) = !zi := by rw [bne, hzi]
  have hzl' : (l != 0) = !zl := by rw [bne, hzl]
  have hzn' : (n != 0) = !zn := by rw [bne, hzn]
  go_enter Tryd.func106, Tryd.ntmps106
  go_wp2_with fail
  clear hW hg1
  refine (CI.out _).mono ?_; rintro e w1 ⟨rfl, rfl⟩
  cases bi with
  | false =>
    go_wp2
    go_ret
    exact ⟨by rw [HM.out]; simp [mayB]; try rfl, HS.out _ (by repeat (first | exact Fr.refl _ _ | refine Fr.setCell (S := fun k => k = g1) ?_ (fun _ => rfl) _))⟩
  | true =>
  go_wp2_with fail
  refine (CL.out _).mono ?_; rintro e w1 ⟨rfl, rfl⟩
  cases bl with
  | false =>
    go_wp2
    go_ret
    exact ⟨by rw [HM.out]; simp [mayB]; try rfl, HS.out _ (by repeat (first | exact Fr.refl _ _ | refine Fr.setCell (S := fun k => k = g1) ?_ (fun _ => rfl) _))⟩
  | true =>
  cases bd with
  | false =>
    go_wp2
    go_ret
    exact ⟨by rw [HM.out]; simp [mayB]; try rfl, HS.out _ (by repeat (first | exact Fr.refl _ _ | refine Fr.setCell (S := fun k => k = g1) ?_ (fun _ => rfl) _))⟩
  | true =>
  by_cases hk1 : k = 1
  · subst hk1
    go_wp2_with fail
    refine (CN.out _).mono ?_; rintro e w1 ⟨rfl, rfl⟩
    cases bn with
    | false =>
      go_wp2
      go_ret
      refine ⟨?_, HS.out _ (by repeat (first | exact Fr.refl _ _ | refine Fr.setCell (S := fun k => k = g1) ?_ (fun _ => rfl) _))⟩
      rw [HM.out]; simp [mayB]
    | true =>
      go_wp2
      go_ret
      refine ⟨?_, HS.out _ (by repeat (first | exact Fr.refl _ _ | refine Fr.setCell (S := fun k => k = g1) ?_ (fun _ => rfl) _))⟩
      rw [HM.out]; simp [mayB]
  have d1 : (k == 1) = false := by simp [hk1]
  by_cases hk4 : k = 4
  · subst hk4
    go_wp2_with fail
    refine (CN.out _).mono ?_; rintro e w1 ⟨rfl, rfl⟩
    cases bn with
    | false =>
      go_wp2
      go_ret
      refine ⟨?_, HS.out _ (by repeat (first | exact Fr.refl _ _ | refine Fr.setCell (S := fun k => k = g1) ?_ (fun _ => rfl) _))⟩
      rw [HM.out]; simp [mayB]
    | true =>
      go_wp2
      go_ret
      refine ⟨?_, HS.out _ (by repeat (first | exact Fr.refl _ _ | refine Fr.setCell (S := fun k => k = g1) ?_ (fun _ => rfl) _))⟩
      rw [HM.out]; simp [mayB]
  have d4 : (k == 4) = false := by simp [hk4]
  by_cases hk2 : k = 2
  · subst hk2
    go_wp2_with fail
    refine (CN.out _).mono ?_; rintro e w1 ⟨rfl, rfl⟩
    cases bn with
    | false =>
      go_wp2
      go_ret
      refine ⟨?_, HS.out _ (by repeat (first | exact Fr.refl _ _ | refine Fr.setCell (S := fun k => k = g1) ?_ (fun _ => rfl) _))⟩
      rw [HM.out]; simp [mayB]
    | true =>
      cases zl with
      | false =>
        go_wp2
        go_ret
        refine ⟨?_, HS.out _ (by repeat (first | exact Fr.refl _ _ | refine Fr.setCell (S := fun k => k = g1) ?_ (fun _ => rfl) _))⟩
        rw [HM.out]; simp [mayB]
      | true =>
        cases zd with
        | false =>
          go_wp2
          go_ret
          refine ⟨?_, HS.out _ (by repeat (first | exact Fr.refl _ _ | refine Fr.setCell (S := fun k => k = g1) ?_ (fun _ => rfl) _))⟩
          rw [HM.out]; simp [mayB]
        | true =>
          go_wp2
          go_ret
          refine ⟨?_, HS.out _ (by repeat (first | exact Fr.refl _ _ | refine Fr.setCell (S := fun k => k = g1) ?_ (fun _ => rfl) _))⟩
          rw [HM.out]; simp [mayB]
  have d2 : (k == 2) = false := by simp [hk2]
  by_cases hk3 : k = 3
  · subst hk3
    cases zl with
    | false =>
      go_wp2
      go_ret
      refine ⟨?_, HS.out _ (by repeat (first | exact Fr.refl _ _ | refine Fr.setCell (S := fun k => k = g1) ?_ (fun _ => rfl) _))⟩
      rw [HM.out]; simp [mayB]
    | true =>
      cases zn with
      | false =>
        go_wp2
        go_ret
        refine ⟨?_, HS.out _ (by repeat (first | exact Fr.refl _ _ | refine Fr.setCell (S := fun k => k = g1) ?_ (fun _ => rfl) _))⟩
        rw [HM.out]; simp [mayB]
      | true =>
        cases zd with
        | false =>
          go_wp2
          go_ret
          refine ⟨?_, HS.out _ (by repeat (first | exact Fr.refl _ _ | refine Fr.setCell (S := fun k => k = g1) ?_ (fun _ => rfl) _))⟩
          rw [HM.out]; simp [mayB]
        | true =>
          go_wp2
          go_ret
          refine ⟨?_, HS.out _ (by repeat (first | exact Fr.refl _ _ | refine Fr.setCell (S := fun k => k = g1) ?_ (fun _ => rfl) _))⟩
          rw [HM.out]; simp [mayB]
  have d3 : (k == 3) = false := by simp [hk3]
  by_cases hk5 : k = 5
  · subst hk5
    cases zi with
    | false =>
      go_wp2
      go_ret
      refine ⟨?_, HS.out _ (by repeat (first | exact Fr.refl _ _ | refine Fr.setCell (S := fun k => k = g1) ?_ (fun _ => rfl) _))⟩
      rw [HM.out]; simp [mayB]
    | true =>
      cases zl with
      | false =>
        go_wp2
        go_ret
        refine ⟨?_, HS.out _ (by repeat (first | exact Fr.refl _ _ | refine Fr.setCell (S := fun k => k = g1) ?_ (fun _ => rfl) _))⟩
        rw [HM.out]; simp [mayB]
      | true =>
        cases zn with
        | false =>
          go_wp2
          go_ret
          refine ⟨?_, HS.out _ (by repeat (first | exact Fr.refl _ _ | refine Fr.setCell (S := fun k => k = g1) ?_ (fun _ => rfl) _))⟩
          rw [HM.out]; simp [mayB]
        | true =>
          go_wp2
          go_ret
          refine ⟨?_, HS.out _ (by repeat (first | exact Fr.refl _ _ | refine Fr.setCell (S := fun k => k = g1) ?_ (fun _ => rfl) _))⟩
          rw [HM.out]; simp [mayB]
  have d5 : (k == 5) = false := by simp [hk5]
  by_cases hk6 : k = 6
  · subst hk6
    cases zi with
    | false =>
      go_wp2
      go_ret
      refine ⟨?_, HS.out _ (by repeat (first | exact Fr.refl _ _ | refine Fr.setCell (S := fun k => k = g1) ?_ (fun _ => rfl) _))⟩
      rw [HM.out]; simp [mayB]
    | true =>
      cases zl with
      | false =>
        go_wp2
        go_ret
        refine ⟨?_, HS.out _ (by repeat (first | exact Fr.refl _ _ | refine Fr.setCell (S := fun k => k = g1) ?_ (fun _ => rfl) _))⟩
        rw [HM.out]; simp [mayB]
      | true =>
        cases zn with
        | false =>
          go_wp2
          go_ret
          refine ⟨?_, HS.out _ (by repeat (first | exact Fr.refl _ _ | refine Fr.setCell (S := fun k => k = g1) ?_ (fun _ => rfl) _))⟩
          rw [HM.out]; simp [mayB]
        | true =>
          go_wp2
          go_ret
          refine ⟨?_, HS.out _ (by repeat (first | exact Fr.refl _ _ | refine Fr.setCell (S := fun k => k = g1) ?_ (fun _ => rfl) _))⟩
          rw [HM.out]; simp [mayB]
  have d6 : (k == 6) = false := by simp [hk6]
  by_cases hk8 : k = 8
  · subst hk8
    cases zi with
    | false =>
      go_wp2
      go_ret
      refine ⟨?_, HS.out _ (by repeat (first | exact Fr.refl _ _ | refine Fr.setCell (S := fun k => k = g1) ?_ (fun _ => rfl) _))⟩
      rw [HM.out]; simp [mayB]
    | true =>
      cases zl with
      | false =>
        go_wp2
        go_ret
        refine ⟨?_, HS.out _ (by repeat (first | exact Fr.refl _ _ | refine Fr.setCell (S := fun k => k = g1) ?_ (fun _ => rfl) _))⟩
        rw [HM.out]; simp [mayB]
      | true =>
        cases zn with
        | false =>
          go_wp2
          go_ret
          refine ⟨?_, HS.out _ (by repeat (first | exact Fr.refl _ _ | refine Fr.setCell (S := fun k => k = g1) ?_ (fun _ => rfl) _))⟩
          rw [HM.out]; simp [mayB]
        | true =>
          go_wp2
          go_ret
          refine ⟨?_, HS.out _ (by repeat (first | exact Fr.refl _ _ | refine Fr.setCell (S := fun k => k = g1) ?_ (fun _ => rfl) _))⟩
          rw [HM.out]; simp [mayB]
  have d8 : (k == 8) = false := by simp [hk8]
  by_cases hk7 : k = 7
  · subst hk7
    cases zi with
    | false =>
      go_wp2
      go_ret
      refine ⟨?_, HS.out _ (by repeat (first | exact Fr.refl _ _ | refine Fr.setCell (S := fun k => k = g1) ?_ (fun _ => rfl) _))⟩
      rw [HM.out]; simp [mayB]
    | true =>
      cases zl with
      | false =>
        go_wp2
        go_ret
        refine ⟨?_, HS.out _ (by repeat (first | exact Fr.refl _ _ | refine Fr.setCell (S := fun k => k = g1) ?_ (fun _ => rfl) _))⟩
        rw [HM.out]; simp [mayB]
      | true =>
        cases zn with
        | false =>
          go_wp2
          go_ret
          refine ⟨?_, HS.out _ (by repeat (first | exact Fr.refl _ _ | refine Fr.setCell (S := fun k => k = g1) ?_ (fun _ => rfl) _))⟩
          rw [HM.out]; simp [mayB]
        | true =>
          cases zd with
          | false =>
            go_wp2
            go_ret
            refine ⟨?_, HS.out _ (by repeat (first | exact Fr.refl _ _ | refine Fr.setCell (S := fun k => k = g1) ?_ (fun _ => rfl) _))⟩
            rw [HM.out]; simp [mayB]
          | true =>
            go_wp2
            go_ret
            refine ⟨?_, HS.out _ (by repeat (first | exact Fr.refl _ _ | refine Fr.setCell (S := fun k => k = g1) ?_ (fun _ => rfl) _))⟩
            rw [HM.out]; simp [mayB]
  have d7 : (k == 7) = false := by simp [hk7]
  have HK : Hid (¬ (k = 1 ∨ k = 4) ∧ ¬ k = 2 ∧ ¬ k = 3 ∧ ¬ (k = 5 ∨ k = 6 ∨ k = 8) ∧ ¬ k = 7) := Lib.hid (by omega)
  clear hk1 hk2 hk3 hk4 hk5 hk6 hk7 hk8
  go_wp2
  go_ret
  refine ⟨?_, HS.out _ (Fr.refl _ _)⟩
  obtain ⟨h1, h2, h3, h4, h5⟩ := HK.out
  rw [HM.out]; simp [mayB, h1, h2, h3, h4, h5]

set_option maxRecDepth 100000 in
set_option maxHeartbeats 16000000 in
theorem refMay_any (x : DL) (w : World) : Calls Tryd.prog 101 #[.agg x.cells] w fun e w' => e = .returned (.bool x.may) ∧ Fr (fun _ => False) w w' := by
  obtain ⟨g1, hg1⟩ : ∃ g1, w.heap.size = g1 := ⟨_, rfl⟩
  obtain ⟨W, hW⟩ : ∃ W, w.alloc (.cells x.cells 59) = W := ⟨_, rfl⟩
  have HF : Hid (Fr (fun _ => False) w W) := Lib.hid (by rw [← hW]; exact (Fr.refl _ _).alloc _)
  have HB : Hid (Bk W g1 59 x.cells) := Lib.hid (by rw [← hW, ← hg1]; exact Bk.new _ _ _)
  have HS : Hid (∀ w', Fr (fun k => k = g1) W w' → Fr (fun _ => False) w w') := Lib.hid (fun w' hf => HF.out.trans hf (fun y hy e => by have e' : y = g1 := e; omega))
  have HM : Hid (x.may = mayB x.k (betw 0 1048576 x.i) (betw 0 1048576 x.l) (betw 1 1048576 x.n) (decide ((x.dl : Int) ≤ 4096)) (x.i == 0) (x.l == 0) (x.n == 0) ((x.dl : Int) == 0)) := Lib.hid rfl
  have CI := Lib.hid (fun w' => flowNumber_any x.i w')
  have CL := Lib.hid (fun w' => flowNumber_any x.l w')
  have CN := Lib.hid (fun w' => ticks_any x.n w')
  generalize x.may = R at *
  obtain ⟨k, i, l, n, A, dl, c⟩ := x
  unfold DL.cells at *
  simp only at *
  have q0 : W.cell? ⟨g1, 0, none⟩ = some (.int .i64 k) := HB.out.cell 0
  have q1 : W.cell? ⟨g1, 1, none⟩ = some (.int .i64 i) := HB.out.cell 1
  have q2 : W.cell? ⟨g1, 2, none⟩ = some (.int .i64 l) := HB.out.cell 2
  have q3 : W.cell? ⟨g1, 3, none⟩ = some (.int .i64 n) := HB.out.cell 3
  have q4 : W.cell? ⟨g1, 4, none⟩ = some (.slice A dl c) := HB.out.cell 4
  have f1 : W.frozen? ⟨g1, 1, none⟩ = false := HB.out.frozen 1
  have f2 : W.frozen? ⟨g1, 2, none⟩ = false := HB.out.frozen 2
  have f3 : W.frozen? ⟨g1, 3, none⟩ = false := HB.out.frozen 3
  have f4 : W.frozen? ⟨g1, 4, none⟩ = false := HB.out.frozen 4
  generalize betw 0 1048576 i = bi at *
  generalize betw 0 1048576 l = bl at *
  generalize betw 1 1048576 n = bn at *
  obtain ⟨bd, hbd⟩ : ∃ b, decide ((dl : Int) ≤ 4096) = b := ⟨_, rfl⟩
  obtain ⟨zi, hzi⟩ : ∃ b, (i == 0) = b := ⟨_, rfl⟩
  obtain ⟨zl, hzl⟩ : ∃ b, (l == 0) = b := ⟨_, rfl⟩
  obtain ⟨zn, hzn⟩ : ∃ b, (n == 0) = b := ⟨_, rfl⟩
  obtain ⟨zd, hzd⟩ : ∃ b, ((dl : Int) == 0) = b := ⟨_, rfl⟩
  rw [hbd, hzi, hzl, hzn, hzd] at HM
  have hbd' : decide (dl ≤ 4096) = bd := by rw [← hbd, Bool.eq_iff_iff]; first | (simp; done) | (simp; omega)
  have hbg : decide ((4096 : Int) < (dl : Int)) = !bd := by rw [← hbd, ← decide_not]; first | (simp; done) | (simp; omega)
  have hbg' : decide (4096 < dl) = !bd := by rw [← hbg]; first | (simp; done) | (simp; omega)
  have hzd' : (dl == 0) = zd := by rw [← hzd]; rw [Bool.eq_iff_iff]; simp
  have hzp : decide ((0 : Int) < (dl : Int)) = !zd := by rw [← hzd]; rw [Bool.eq_iff_iff]; simp; omega
  have hzp' : decide (0 < dl) = !zd := by rw [← hzp]; simp
  have hzi' : (i != 0) = !zi := by rw [bne, hzi]
  have hzl' : (l != 0) = !zl := by rw [bne, hzl]
  have hzn' : (n != 0) = !zn := by rw [bne, hzn]
  by_cases hk1 : k = 1
  · subst hk1
    go_enter Tryd.func101, Tryd.ntmps101
    go_wp2_with fail
    clear hW hg1
    refine (CI.out _).mono ?_; rintro e w1 ⟨rfl, rfl⟩
    cases bi with
    | false =>
      go_wp2
      go_ret
      refine ⟨?_, HS.out _ (by repeat (first | exact Fr.refl _ _ | refine Fr.setCell (S := fun k => k = g1) ?_ (fun _ => rfl) _))⟩
      rw [HM.out]; simp [mayB]
    | true =>
      go_wp2_with fail
      refine (CL.out _).mono ?_; rintro e w1 ⟨rfl, rfl⟩
      cases bl with
      | false =>
        go_wp2
        go_ret
        refine ⟨?_, HS.out _ (by repeat (first | exact Fr.refl _ _ | refine Fr.setCell (S := fun k => k = g1) ?_ (fun _ => rfl) _))⟩
        rw [HM.out]; simp [mayB]
      | true =>
        go_wp2_with fail
        refine (CN.out _).mono ?_; rintro e w1 ⟨rfl, rfl⟩
        cases bn with
        | false =>
          go_wp2
          go_ret
          refine ⟨?_, HS.out _ (by repeat (first | exact Fr.refl _ _ | refine Fr.setCell (S := fun k => k = g1) ?_ (fun _ => rfl) _))⟩
          rw [HM.out]; simp [mayB]
        | true =>
          cases bd with
          | false =>
            go_wp2
            go_ret
            refine ⟨?_, HS.out _ (by repeat (first | exact Fr.refl _ _ | refine Fr.setCell (S := fun k => k = g1) ?_ (fun _ => rfl) _))⟩
            rw [HM.out]; simp [mayB]
          | true =>
            go_wp2
            go_ret
            refine ⟨?_, HS.out _ (by repeat (first | exact Fr.refl _ _ | refine Fr.setCell (S := fun k => k = g1) ?_ (fun _ => rfl) _))⟩
            rw [HM.out]; simp [mayB]
  have d1 : (k == 1) = false := by simp [hk1]
  by_cases hk4 : k = 4
  · subst hk4
    go_enter Tryd.func101, Tryd.ntmps101
    go_wp2_with fail
    clear hW hg1
    refine (CI.out _).mono ?_; rintro e w1 ⟨rfl, rfl⟩
    cases bi with
    | false =>
      go_wp2
      go_ret
      refine ⟨?_, HS.out _ (by repeat (first | exact Fr.refl _ _ | refine Fr.setCell (S := fun k => k = g1) ?_ (fun _ => rfl) _))⟩
      rw [HM.out]; simp [mayB]
    | true =>
      go_wp2_with fail
      refine (CL.out _).mono ?_; rintro e w1 ⟨rfl, rfl⟩
      cases bl with
      | false =>
        go_wp2
        go_ret
        refine ⟨?_, HS.out _ (by repeat (first | exact Fr.refl _ _ | refine Fr.setCell (S := fun k => k = g1) ?_ (fun _ => rfl) _))⟩
        rw [HM.out]; simp [mayB]
      | true =>
        go_wp2_with fail
        refine (CN.out _).mono ?_; rintro e w1 ⟨rfl, rfl⟩
        cases bn with
        | false =>
          go_wp2
          go_ret
          refine ⟨?_, HS.out _ (by repeat (first | exact Fr.refl _ _ | refine Fr.setCell (S := fun k => k = g1) ?_ (fun _ => rfl) _))⟩
          rw [HM.out]; simp [mayB]
        | true =>
          cases bd with
          | false =>
            go_wp2
            go_ret
            refine ⟨?_, HS.out _ (by repeat (first | exact Fr.refl _ _ | refine Fr.setCell (S := fun k => k = g1) ?_ (fun _ => rfl) _))⟩
            rw [HM.out]; simp [mayB]
          | true =>
            go_wp2
            go_ret
            refine ⟨?_, HS.out _ (by repeat (first | exact Fr.refl _ _ | refine Fr.setCell (S := fun k => k = g1) ?_ (fun _ => rfl) _))⟩
            rw [HM.out]; simp [mayB]
  have d4 : (k == 4) = false := by simp [hk4]
  by_cases hk2 : k = 2
  · subst hk2
    cases zl with
    | false =>
      go_enter Tryd.func101, Tryd.ntmps101
      go_wp2
      go_ret
      refine ⟨?_, HS.out _ (by repeat (first | exact Fr.refl _ _ | refine Fr.setCell (S := fun k => k = g1) ?_ (fun _ => rfl) _))⟩
      rw [HM.out]; simp [mayB]
    | true =>
      cases zd with
      | false =>
        go_enter Tryd.func101, Tryd.ntmps101
        go_wp2
        go_ret
        refine ⟨?_, HS.out _ (by repeat (first | exact Fr.refl _ _ | refine Fr.setCell (S := fun k => k = g1) ?_ (fun _ => rfl) _))⟩
        rw [HM.out]; simp [mayB]
      | true =>
        go_enter Tryd.func101, Tryd.ntmps101
        go_wp2_with fail
        clear hW hg1
        refine (CI.out _).mono ?_; rintro e w1 ⟨rfl, rfl⟩
        cases bi with
        | false =>
          go_wp2
          go_ret
          refine ⟨?_, HS.out _ (by repeat (first | exact Fr.refl _ _ | refine Fr.setCell (S := fun k => k = g1) ?_ (fun _ => rfl) _))⟩
          rw [HM.out]; simp [mayB]
        | true =>
          go_wp2_with fail
          refine (CL.out _).mono ?_; rintro e w1 ⟨rfl, rfl⟩
          cases bl with
          | false =>
            go_wp2
            go_ret
            refine ⟨?_, HS.out _ (by repeat (first | exact Fr.refl _ _ | refine Fr.setCell (S := fun k => k = g1) ?_ (fun _ => rfl) _))⟩
            rw [HM.out]; simp [mayB]
          | true =>
            go_wp2_with fail
            refine (CN.out _).mono ?_; rintro e w1 ⟨rfl, rfl⟩
            cases bn with
            | false =>
              go_wp2
              go_ret
              refine ⟨?_, HS.out _ (by repeat (first | exact Fr.refl _ _ | refine Fr.setCell (S := fun k => k = g1) ?_ (fun _ => rfl) _))⟩
              rw [HM.out]; simp [mayB]
            | true =>
              cases bd with
              | false =>
                go_wp2
                go_ret
                refine ⟨?_, HS.out _ (by repeat (first | exact Fr.refl _ _ | refine Fr.setCell (S := fun k => k = g1) ?_ (fun _ => rfl) _))⟩
                rw [HM.out]; simp [mayB]
              | true =>
                go_wp2
                go_ret
                refine ⟨?_, HS.out _ (by repeat (first | exact Fr.refl _ _ | refine Fr.setCell (S := fun k => k = g1) ?_ (fun _ => rfl) _))⟩
                rw [HM.out]; simp [mayB]
  have d2 : (k == 2) = false := by simp [hk2]
  by_cases hk3 : k = 3
  · subst hk3
    cases zl with
    | false =>
      go_enter Tryd.func101, Tryd.ntmps101
      go_wp2
      go_ret
      refine ⟨?_, HS.out _ (by repeat (first | exact Fr.refl _ _ | refine Fr.setCell (S := fun k => k = g1) ?_ (fun _ => rfl) _))⟩
      rw [HM.out]; simp [mayB]
    | true =>
      cases zn with
      | false =>
        go_enter Tryd.func101, Tryd.ntmps101
        go_wp2
        go_ret
        refine ⟨?_, HS.out _ (by repeat (first | exact Fr.refl _ _ | refine Fr.setCell (S := fun k => k = g1) ?_ (fun _ => rfl) _))⟩
        rw [HM.out]; simp [mayB]
      | true =>
        cases zd with
        | false =>
          go_enter Tryd.func101, Tryd.ntmps101
          go_wp2
          go_ret
          refine ⟨?_, HS.out _ (by repeat (first | exact Fr.refl _ _ | refine Fr.setCell (S := fun k => k = g1) ?_ (fun _ => rfl) _))⟩
          rw [HM.out]; simp [mayB]
        | true =>
          go_enter Tryd.func101, Tryd.ntmps101
          go_wp2_with fail
          clear hW hg1
          refine (CI.out _).mono ?_; rintro e w1 ⟨rfl, rfl⟩
          cases bi with
          | false =>
            go_wp2
            go_ret
            refine ⟨?_, HS.out _ (by repeat (first | exact Fr.refl _ _ | refine Fr.setCell (S := fun k => k = g1) ?_ (fun _ => rfl) _))⟩
            rw [HM.out]; simp [mayB]
          | true =>
            go_wp2_with fail
            refine (CL.out _).mono ?_; rintro e w1 ⟨rfl, rfl⟩
            cases bl with
            | false =>
              go_wp2
              go_ret
              refine ⟨?_, HS.out _ (by repeat (first | exact Fr.refl _ _ | refine Fr.setCell (S := fun k => k = g1) ?_ (fun _ => rfl) _))⟩
              rw [HM.out]; simp [mayB]
            | true =>
              cases bd with
              | false =>
                go_wp2
                go_ret
                refine ⟨?_, HS.out _ (by repeat (first | exact Fr.refl _ _ | refine Fr.setCell (S := fun k => k = g1) ?_ (fun _ => rfl) _))⟩
                rw [HM.out]; simp [mayB]
              | true =>
                go_wp2
                go_ret
                refine ⟨?_, HS.out _ (by repeat (first | exact Fr.refl _ _ | refine Fr.setCell (S := fun k => k = g1) ?_ (fun _ => rfl) _))⟩
                rw [HM.out]; simp [mayB]
  have d3 : (k == 3) = false := by simp [hk3]
  by_cases hk5 : k = 5
  · subst hk5
    cases zi with
    | false =>
      go_enter Tryd.func101, Tryd.ntmps101
      go_wp2
      go_ret
      refine ⟨?_, HS.out _ (by repeat (first | exact Fr.refl _ _ | refine Fr.setCell (S := fun k => k = g1) ?_ (fun _ => rfl) _))⟩
      rw [HM.out]; simp [mayB]
    | true =>
      cases zl with
      | false =>
        go_enter Tryd.func101, Tryd.ntmps101
        go_wp2
        go_ret
        refine ⟨?_, HS.out _ (by repeat (first | exact Fr.refl _ _ | refine Fr.setCell (S := fun k => k = g1) ?_ (fun _ => rfl) _))⟩
        rw [HM.out]; simp [mayB]
      | true =>
        cases zn with
        | false =>
          go_enter Tryd.func101, Tryd.ntmps101
          go_wp2
          go_ret
          refine ⟨?_, HS.out _ (by repeat (first | exact Fr.refl _ _ | refine Fr.setCell (S := fun k => k = g1) ?_ (fun _ => rfl) _))⟩
          rw [HM.out]; simp [mayB]
        | true =>
          go_enter Tryd.func101, Tryd.ntmps101
          go_wp2_with fail
          clear hW hg1
          refine (CI.out _).mono ?_; rintro e w1 ⟨rfl, rfl⟩
          cases bi with
          | false =>
            go_wp2
            go_ret
            refine ⟨?_, HS.out _ (by repeat (first | exact Fr.refl _ _ | refine Fr.setCell (S := fun k => k = g1) ?_ (fun _ => rfl) _))⟩
            rw [HM.out]; simp [mayB]
          | true =>
            go_wp2_with fail
            refine (CL.out _).mono ?_; rintro e w1 ⟨rfl, rfl⟩
            cases bl with
            | false =>
              go_wp2
              go_ret
              refine ⟨?_, HS.out _ (by repeat (first | exact Fr.refl _ _ | refine Fr.setCell (S := fun k => k = g1) ?_ (fun _ => rfl) _))⟩
              rw [HM.out]; simp [mayB]
            | true =>
              cases bd with
              | false =>
                go_wp2
                go_ret
                refine ⟨?_, HS.out _ (by repeat (first | exact Fr.refl _ _ | refine Fr.setCell (S := fun k => k = g1) ?_ (fun _ => rfl) _))⟩
                rw [HM.out]; simp [mayB]
              | true =>
                go_wp2
                go_ret
                refine ⟨?_, HS.out _ (by repeat (first | exact Fr.refl _ _ | refine Fr.setCell (S := fun k => k = g1) ?_ (fun _ => rfl) _))⟩
                rw [HM.out]; simp [mayB]
  have d5 : (k == 5) = false := by simp [hk5]
  by_cases hk6 : k = 6
  · subst hk6
    cases zi with
    | false =>
      go_enter Tryd.func101, Tryd.ntmps101
      go_wp2
      go_ret
      refine ⟨?_, HS.out _ (by repeat (first | exact Fr.refl _ _ | refine Fr.setCell (S := fun k => k = g1) ?_ (fun _ => rfl) _))⟩
      rw [HM.out]; simp [mayB]
    | true =>
      cases zl with
      | false =>
        go_enter Tryd.func101, Tryd.ntmps101
        go_wp2
        go_ret
        refine ⟨?_, HS.out _ (by repeat (first | exact Fr.refl _ _ | refine Fr.setCell (S := fun k => k = g1) ?_ (fun _ => rfl) _))⟩
        rw [HM.out]; simp [mayB]
      | true =>
        cases zn with
        | false =>
          go_enter Tryd.func101, Tryd.ntmps101
          go_wp2
          go_ret
          refine ⟨?_, HS.out _ (by repeat (first | exact Fr.refl _ _ | refine Fr.setCell (S := fun k => k = g1) ?_ (fun _ => rfl) _))⟩
          rw [HM.out]; simp [mayB]
        | true =>
          go_enter Tryd.func101, Tryd.ntmps101
          go_wp2_with fail
          clear hW hg1
          refine (CI.out _).mono ?_; rintro e w1 ⟨rfl, rfl⟩
          cases bi with
          | false =>
            go_wp2
            go_ret
            refine ⟨?_, HS.out _ (by repeat (first | exact Fr.refl _ _ | refine Fr.setCell (S := fun k => k = g1) ?_ (fun _ => rfl) _))⟩
            rw [HM.out]; simp [mayB]
          | true =>
            go_wp2_with fail
            refine (CL.out _).mono ?_; rintro e w1 ⟨rfl, rfl⟩
            cases bl with
            | false =>
              go_wp2
              go_ret
              refine ⟨?_, HS.out _ (by repeat (first | exact Fr.refl _ _ | refine Fr.setCell (S := fun k => k = g1) ?_ (fun _ => rfl) _))⟩
              rw [HM.out]; simp [mayB]
            | true =>
              cases bd with
              | false =>
                go_wp2
                go_ret
                refine ⟨?_, HS.out _ (by repeat (first | exact Fr.refl _ _ | refine Fr.setCell (S := fun k => k = g1) ?_ (fun _ => rfl) _))⟩
                rw [HM.out]; simp [mayB]
              | true =>
                go_wp2
                go_ret
                refine ⟨?_, HS.out _ (by repeat (first | exact Fr.refl _ _ | refine Fr.setCell (S := fun k => k = g1) ?_ (fun _ => rfl) _))⟩
                rw [HM.out]; simp [mayB]
  have d6 : (k == 6) = false := by simp [hk6]
  by_cases hk8 : k = 8
  · subst hk8
    cases zi with
    | false =>
      go_enter Tryd.func101, Tryd.ntmps101
      go_wp2
      go_ret
      refine ⟨?_, HS.out _ (by repeat (first | exact Fr.refl _ _ | refine Fr.setCell (S := fun k => k = g1) ?_ (fun _ => rfl) _))⟩
      rw [HM.out]; simp [mayB]
    | true =>
      cases zl with
      | false =>
        go_enter Tryd.func101, Tryd.ntmps101
        go_wp2
        go_ret
        refine ⟨?_, HS.out _ (by repeat (first | exact Fr.refl _ _ | refine Fr.setCell (S := fun k => k = g1) ?_ (fun _ => rfl) _))⟩
        rw [HM.out]; simp [mayB]
      | true =>
        cases zn with
        | false =>
          go_enter Tryd.func101, Tryd.ntmps101
          go_wp2
          go_ret
          refine ⟨?_, HS.out _ (by repeat (first | exact Fr.refl _ _ | refine Fr.setCell (S := fun k => k = g1) ?_ (fun _ => rfl) _))⟩
          rw [HM.out]; simp [mayB]
        | true =>
          go_enter Tryd.func101, Tryd.ntmps101
          go_wp2_with fail
          clear hW hg1
          refine (CI.out _).mono ?_; rintro e w1 ⟨rfl, rfl⟩
          cases bi with
          | false =>
            go_wp2
            go_ret
            refine ⟨?_, HS.out _ (by repeat (first | exact Fr.refl _ _ | refine Fr.setCell (S := fun k => k = g1) ?_ (fun _ => rfl) _))⟩
            rw [HM.out]; simp [mayB]
          | true =>
            go_wp2_with fail
            refine (CL.out _).mono ?_; rintro e w1 ⟨rfl, rfl⟩
            cases bl with
            | false =>
              go_wp2
              go_ret
              refine ⟨?_, HS.out _ (by repeat (first | exact Fr.refl _ _ | refine Fr.setCell (S := fun k => k = g1) ?_ (fun _ => rfl) _))⟩
              rw [HM.out]; simp [mayB]
            | true =>
              cases bd with
              | false =>
                go_wp2
                go_ret
                refine ⟨?_, HS.out _ (by repeat (first | exact Fr.refl _ _ | refine Fr.setCell (S := fun k => k = g1) ?_ (fun _ => rfl) _))⟩
                rw [HM.out]; simp [mayB]
              | true =>
                go_wp2
                go_ret
                refine ⟨?_, HS.out _ (by repeat (first | exact Fr.refl _ _ | refine Fr.setCell (S := fun k => k = g1) ?_ (fun _ => rfl) _))⟩
                rw [HM.out]; simp [mayB]
  have d8 : (k == 8) = false := by simp [hk8]
  by_cases hk7 : k = 7
  · subst hk7
    cases zi with
    | false =>
      go_enter Tryd.func101, Tryd.ntmps101
      go_wp2
      go_ret
      refine ⟨?_, HS.out _ (by repeat (first | exact Fr.refl _ _ | refine Fr.setCell (S := fun k => k = g1) ?_ (fun _ => rfl) _))⟩
      rw [HM.out]; simp [mayB]
    | true =>
      cases zl with
      | false =>
        go_enter Tryd.func101, Tryd.ntmps101
        go_wp2
        go_ret
        refine ⟨?_, HS.out _ (by repeat (first | exact Fr.refl _ _ | refine Fr.setCell (S := fun k => k = g1) ?_ (fun _ => rfl) _))⟩
        rw [HM.out]; simp [mayB]
      | true =>
        cases zn with
        | false =>
          go_enter Tryd.func101, Tryd.ntmps101
          go_wp2
          go_ret
          refine ⟨?_, HS.out _ (by repeat (first | exact Fr.refl _ _ | refine Fr.setCell (S := fun k => k = g1) ?_ (fun _ => rfl) _))⟩
          rw [HM.out]; simp [mayB]
        | true =>
          cases zd with
          | false =>
            go_enter Tryd.func101, Tryd.ntmps101
            go_wp2
            go_ret
            refine ⟨?_, HS.out _ (by repeat (first | exact Fr.refl _ _ | refine Fr.setCell (S := fun k => k = g1) ?_ (fun _ => rfl) _))⟩
            rw [HM.out]; simp [mayB]
          | true =>
            go_enter Tryd.func101, Tryd.ntmps101
            go_wp2_with fail
            clear hW hg1
            refine (CI.out _).mono ?_; rintro e w1 ⟨rfl, rfl⟩
            cases bi with
            | false =>
              go_wp2
              go_ret
              refine ⟨?_, HS.out _ (by repeat (first | exact Fr.refl _ _ | refine Fr.setCell (S := fun k => k = g1) ?_ (fun _ => rfl) _))⟩
              rw [HM.out]; simp [mayB]
            | true =>
              go_wp2_with fail
              refine (CL.out _).mono ?_; rintro e w1 ⟨rfl, rfl⟩
              cases bl with
              | false =>
                go_wp2
                go_ret
                refine ⟨?_, HS.out _ (by repeat (first | exact Fr.refl _ _ | refine Fr.setCell (S := fun k => k = g1) ?_ (fun _ => rfl) _))⟩
                rw [HM.out]; simp [mayB]
              | true =>
                cases bd with
                | false =>
                  go_wp2
                  go_ret
                  refine ⟨?_, HS.out _ (by repeat (first | exact Fr.refl _ _ | refine Fr.setCell (S := fun k => k = g1) ?_ (fun _ => rfl) _))⟩
                  rw [HM.out]; simp [mayB]
                | true =>
                  go_wp2
                  go_ret
                  refine ⟨?_, HS.out _ (by repeat (first | exact Fr.refl _ _ | refine Fr.setCell (S := fun k => k = g1) ?_ (fun _ => rfl) _))⟩
                  rw [HM.out]; simp [mayB]
  have d7 : (k == 7) = false := by simp [hk7]
  have HK : Hid (¬ (k = 1 ∨ k = 4) ∧ ¬ k = 2 ∧ ¬ k = 3 ∧ ¬ (k = 5 ∨ k = 6 ∨ k = 8) ∧ ¬ k = 7) := Lib.hid (by omega)
  by_cases h1 : k < 1
  · have e1 : decide (1 ≤ k) = false := decide_eq_false (by omega)
    have e2 : decide (k < 1) = true := decide_eq_true h1
    clear hk1 hk2 hk3 hk4 hk5 hk6 hk7 hk8 h1
    go_enter Tryd.func101, Tryd.ntmps101
    go_wp2
    go_ret
    refine ⟨?_, HS.out _ (Fr.refl _ _)⟩
    obtain ⟨h1, h2, h3, h4, h5⟩ := HK.out
    rw [HM.out]; simp [mayB, h1, h2, h3, h4, h5]
  · have e1 : decide (1 ≤ k) = true := decide_eq_true (by omega)
    have e2 : decide (k < 1) = false := decide_eq_false h1
    have e3 : decide (k ≤ 4) = false := decide_eq_false (by omega)
    have e4 : decide (8 < k) = true := decide_eq_true (by omega)
    clear hk1 hk2 hk3 hk4 hk5 hk6 hk7 hk8 h1
    go_enter Tryd.func101, Tryd.ntmps101
    go_wp2
    go_ret
    refine ⟨?_, HS.out _ (Fr.refl _ _)⟩
    obtain ⟨h1, h2, h3, h4, h5⟩ := HK.out
    rw [HM.out]; simp [mayB, h1, h2, h3, h4, h5]
end Go.Proofs.YtkinbcmnfpkncaaDoor
