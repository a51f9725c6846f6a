/- event: misfit. -/
import Derived.Test.YtkinbcmnfpkncaaDoorMf
import Derived.Test.YtkinbcmnfpkncaaDoorMd
namespace Go.Proofs.YtkinbcmnfpkncaaDoor
open Go.RowKit Go.Maps

set_option maxRecDepth 100000 in
set_option maxHeartbeats 8000000 in
theorem misfit_any {w : World} {g bo bu : Nat} {b : Bo} (h : Book w g bo bu b) (p : VL) (ok : p.ok) :
    Calls Tryd.prog 71 #[.pointer (some ⟨g, 0, none⟩), p.val] w fun e w' => e = .returned (.string (wordW (b.misfit p.e))) ∧ Fr (fun _ => False) w w' := by
  obtain ⟨W, hW⟩ : ∃ W, w.alloc (.cells p.cells.toArray 75) = W := ⟨_, rfl⟩
  obtain ⟨g0, hg0⟩ : ∃ g0, w.heap.size = g0 := ⟨_, rfl⟩
  have FW : Hid (Fr (fun _ => False) w W) := Lib.hid (by rw [← hW]; exact (Fr.refl _ _).alloc _)
  have KW : Hid (Bk W g0 75 p.cells.toArray) := Lib.hid (by rw [← hW, ← hg0]; exact Bk.new _ _ _)
  have CR := Lib.hid (fun w' => right_any p w')
  have CL := Lib.hid (fun w' (hf : Fr (fun _ => False) w w') => lacks_any (h.fr0 hf) p ok)
  have HB : Hid (∀ w', Fr (fun _ => False) w w' → w'.cell? ⟨g, 0, none⟩ = some (.int .i64 (b.count : Int)) ∧ w'.cell? ⟨g, 1, none⟩ = some (.int .i64 b.now) ∧ w'.cell? ⟨g, 2, none⟩ = some (.bool b.closed)) := Lib.hid (fun w' hf => by
    obtain ⟨Do, Du, hb⟩ := h
    have := hb.blk.fr hf (fun h => h)
    exact ⟨this.cell 0, this.cell 1, this.cell 2⟩)
  have HM : Hid (b.misfit p.e = if p.e.right = false then 1 else if p.e.a < b.now then 2 else if (b.count == 0) != (p.e.k == 1) then 3 else if b.closed = true then 4 else b.lacks p.e) := Lib.hid rfl
  generalize b.misfit p.e = R at *
  generalize b.lacks p.e = L at *
  obtain ⟨x, hx⟩ : ∃ x, p.e.right = x := ⟨_, rfl⟩
  rw [hx] at HM CR
  clear hx
  obtain ⟨⟨k, a, r, i, l, m, d⟩, A, c⟩ := p
  unfold VL.val VL.cells VL.bv at *
  have K0 : W.cell? ⟨g0, 0, none⟩ = some (.int .i64 k) := KW.out.cell 0
  have K1 : W.cell? ⟨g0, 1, none⟩ = some (.int .i64 a) := KW.out.cell 1
  have K2 : W.cell? ⟨g0, 2, none⟩ = some (.int .i64 r) := KW.out.cell 2
  have K3 : W.cell? ⟨g0, 3, none⟩ = some (.int .i64 i) := KW.out.cell 3
  have K4 : W.cell? ⟨g0, 4, none⟩ = some (.int .i64 l) := KW.out.cell 4
  have K5 : W.cell? ⟨g0, 5, none⟩ = some (.int .i64 m) := KW.out.cell 5
  have K6 : W.cell? ⟨g0, 6, none⟩ = some (.slice A d.length c) := KW.out.cell 6
  have b0 := (HB.out W FW.out).1
  have hcnt : (((b.count : Int) == 0) : Bool) = (b.count == 0) := by
    by_cases h0 : b.count = 0
    · rw [h0]; rfl
    · rw [show ((b.count : Int) == 0) = false by simp; omega, show (b.count == 0) = false by simp; omega]
  obtain ⟨y, hy⟩ : ∃ y, (b.count == 0) = y := ⟨_, rfl⟩
  rw [hy] at hcnt HM
  clear hy
  obtain ⟨z, hz⟩ : ∃ z, (k == 1) = z := ⟨_, rfl⟩
  rw [hz] at HM
  clear ok h
  go_enter Tryd.func71, Tryd.ntmps71
  go_wp2_with fail
  clear hW hg0
  refine (CR.out _).mono ?_; rintro e w1 ⟨rfl, hf1⟩
  have HF1 := Lib.hid hf1
  clear hf1 CR b0 K0 K1 K2 K3 K4 K5 K6
  cases x with
  | false =>
    go_wp2
    go_ret
    exact ⟨by rw [HM.out]; rfl, FW.out.trans HF1.out (fun _ _ h => h)⟩
  | true =>
    have KK : Hid (∀ w', Fr (fun _ => False) w1 w' → w'.cell? ⟨g0, 0, none⟩ = some (.int .i64 k) ∧ w'.cell? ⟨g0, 1, none⟩ = some (.int .i64 a) ∧ w'.cell? ⟨g0, 2, none⟩ = some (.int .i64 r) ∧ w'.cell? ⟨g0, 3, none⟩ = some (.int .i64 i) ∧ w'.cell? ⟨g0, 4, none⟩ = some (.int .i64 l) ∧ w'.cell? ⟨g0, 5, none⟩ = some (.int .i64 m) ∧ w'.cell? ⟨g0, 6, none⟩ = some (.slice A d.length c)) := Lib.hid (fun w' hf => by
      have := KW.out.fr (HF1.out.trans hf (fun _ _ h => h)) (fun h => h)
      exact ⟨this.cell 0, this.cell 1, this.cell 2, this.cell 3, this.cell 4, this.cell 5, this.cell 6⟩)
    have HBB : Hid (∀ w', Fr (fun _ => False) w1 w' → w'.cell? ⟨g, 1, none⟩ = some (.int .i64 b.now) ∧ w'.cell? ⟨g, 2, none⟩ = some (.bool b.closed)) := Lib.hid (fun w' hf => (HB.out w' ((FW.out.trans HF1.out (fun _ _ h => h)).trans hf (fun _ _ h => h))).2)
    have q1 : ∀ n, (w1.drewN n).cell? ⟨g0, 1, none⟩ = some (.int .i64 a) := fun n => (KK.out _ ((Fr.refl _ _).drewN n)).2.1
    have q2 : ∀ n, (w1.drewN n).cell? ⟨g, 1, none⟩ = some (.int .i64 b.now) := fun n => (HBB.out _ ((Fr.refl _ _).drewN n)).1
    by_cases ht : a < b.now
    · go_wp2_with fail
      go_quiet (fail)
      clear q1 q2
      go_wp2
      go_ret
      exact ⟨by rw [HM.out, if_neg (by simp), if_pos ht]; rfl, (FW.out.trans HF1.out (fun _ _ h => h)).drewN _⟩
    · have d1 : decide (a < b.now) = false := decide_eq_false ht
      have HT := Lib.hid ht
      clear ht
      go_wp2_with fail
      go_quiet (fail)
      obtain ⟨w2, hw2⟩ : ∃ w2, w1.drewN nq = w2 := ⟨_, rfl⟩
      have HF2 : Hid (Fr (fun _ => False) w1 w2) := Lib.hid (by rw [← hw2]; exact (Fr.refl _ _).drewN _)
      rw [hw2]
      clear q1 q2 hw2
      obtain ⟨k0, k1, k2, k3, k4, k5, k6⟩ := KK.out _ HF2.out
      obtain ⟨-, k7⟩ := HBB.out _ HF2.out
      obtain ⟨cl, hcl⟩ : ∃ cl, b.closed = cl := ⟨_, rfl⟩
      rw [hcl] at HM k7
      have HFA := Lib.hid ((FW.out.trans HF1.out (fun _ _ h => h)).trans HF2.out (fun _ _ h => h))
      have CLL := Lib.hid (CL.out _ HFA.out)
      clear hcl CL KK HBB HB KW
      cases y <;> cases z <;> cases cl <;> first
        | (go_wp2
           go_ret
           exact ⟨by rw [HM.out, if_neg (by simp), if_neg (Int.not_lt.2 HT.out)]; rfl, HFA.out⟩)
        | (go_wp2_with fail
           refine CLL.out.mono ?_; rintro e w3 ⟨rfl, hf3⟩
           have HF3 := Lib.hid (HFA.out.trans hf3 (fun _ _ h => h))
           clear hf3 CLL
           go_wp2
           go_ret
           exact ⟨by rw [HM.out, if_neg (by simp), if_neg (Int.not_lt.2 HT.out)]; simp, HF3.out⟩)
end Go.Proofs.YtkinbcmnfpkncaaDoor
