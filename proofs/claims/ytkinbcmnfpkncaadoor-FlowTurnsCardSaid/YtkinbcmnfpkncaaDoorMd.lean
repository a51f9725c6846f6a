/- event: isKind, Closes, Right, a thing's opening; a book in memory. -/
import Derived.Test.YtkinbcmnfpkncaaDoorMc
import Derived.IntWalk
import Derived.Handy
namespace Go.Proofs.YtkinbcmnfpkncaaDoor
open Go.RowKit Go.Maps

def isKindB (k : Int) : Bool := decide (1 ≤ k) && decide (k ≤ 23)
set_option maxRecDepth 100000 in
theorem isKind_any (k : Int) (w : World) : Calls Tryd.prog 108 #[.int .i64 k] w fun e w' => e = .returned (.bool (isKindB k)) ∧ w = w' := by
  unfold isKindB
  obtain ⟨p, hp⟩ : ∃ p, decide (1 ≤ k) = p := ⟨_, rfl⟩
  obtain ⟨q, hq⟩ : ∃ q, decide (k ≤ 23) = q := ⟨_, rfl⟩
  rw [hp, hq]
  cases p <;> cases q <;>
  · go_enter Tryd.func108, Tryd.ntmps108
    go_wp2
    go_ret
    exact ⟨rfl, rfl⟩
set_option maxRecDepth 100000 in
theorem closes_any (k : Int) (w : World) : Calls Tryd.prog 59 #[.int .i64 k] w fun e w' => e = .returned (.bool (closesK k)) ∧ w = w' := by
  unfold closesK
  obtain ⟨p, hp⟩ : ∃ p, decide (19 ≤ k) = p := ⟨_, rfl⟩
  obtain ⟨q, hq⟩ : ∃ q, decide (k ≤ 23) = q := ⟨_, rfl⟩
  rw [hp, hq]
  cases p <;> cases q <;>
  · go_enter Tryd.func59, Tryd.ntmps59
    go_wp2
    go_ret
    exact ⟨rfl, rfl⟩

theorem inE_no {v : Int} (h : inE v = false) : v < 0 ∨ (0 ≤ v ∧ 1099511627776 < v) := by
  unfold inE at h; simp at h; omega
theorem inE_yes {v : Int} (h : inE v = true) : 0 ≤ v ∧ v ≤ 1099511627776 := by
  unfold inE at h; simp at h; omega
set_option maxRecDepth 100000 in
set_option maxHeartbeats 4000000 in
theorem right_any (p : VL) (w : World) : Calls Tryd.prog 98 #[p.val] w fun e w' => e = .returned (.bool p.e.right) ∧ Fr (fun _ => False) w w' := by
  have HF : Hid (Fr (fun _ => False) w (w.alloc (.cells p.cells.toArray 75))) := Lib.hid ((Fr.refl _ _).alloc _)
  obtain ⟨⟨k, a, r, i, l, n, d⟩, A, c⟩ := p
  unfold VL.val VL.cells VL.bv at *
  have HR : Hid ((⟨k, a, r, i, l, n, d⟩ : Ev).right = (isKindB k && inE a && inE r && inE i && inE l && inE n && decide (d.length ≤ 4096))) := Lib.hid rfl
  generalize (⟨k, a, r, i, l, n, d⟩ : Ev).right = RR at *
  simp only at *
  have x0 : ∀ w, (Instr.index 154 (.agg #[Value.int .i64 a, .int .i64 r, .int .i64 i, .int .i64 l, .int .i64 n]) (.int .i64 0)).run Tryd.prog w = .ok (.int .i64 a) w := fun _ => by kernel_rfl
  have x1 : ∀ w, (Instr.index 154 (.agg #[Value.int .i64 a, .int .i64 r, .int .i64 i, .int .i64 l, .int .i64 n]) (.int .i64 1)).run Tryd.prog w = .ok (.int .i64 r) w := fun _ => by kernel_rfl
  have x2 : ∀ w, (Instr.index 154 (.agg #[Value.int .i64 a, .int .i64 r, .int .i64 i, .int .i64 l, .int .i64 n]) (.int .i64 2)).run Tryd.prog w = .ok (.int .i64 i) w := fun _ => by kernel_rfl
  have x3 : ∀ w, (Instr.index 154 (.agg #[Value.int .i64 a, .int .i64 r, .int .i64 i, .int .i64 l, .int .i64 n]) (.int .i64 3)).run Tryd.prog w = .ok (.int .i64 l) w := fun _ => by kernel_rfl
  have x4 : ∀ w, (Instr.index 154 (.agg #[Value.int .i64 a, .int .i64 r, .int .i64 i, .int .i64 l, .int .i64 n]) (.int .i64 4)).run Tryd.prog w = .ok (.int .i64 n) w := fun _ => by kernel_rfl
  cases ha : inE a with
  | false =>
    have hres : RR = false := by rw [HR.out, ha]; simp
    clear HR
    rcases inE_no ha with b0 | ⟨b0, b1⟩
    all_goals
      clear ha
      go_enter Tryd.func98, Tryd.ntmps98
      go_wp2
      refine wp_loop_rounds 1 ?_
      rw [rounds_succ]
      go_wp2
      go_ret
      exact ⟨by rw [hres]; rfl, HF.out⟩
  | true =>
    obtain ⟨ga0, ga1⟩ := inE_yes ha
    cases hr : inE r with
    | false =>
      have hres : RR = false := by rw [HR.out, hr]; simp
      clear HR
      rcases inE_no hr with b0 | ⟨b0, b1⟩
      all_goals
        clear hr
        go_enter Tryd.func98, Tryd.ntmps98
        go_wp2
        refine wp_loop_rounds 2 ?_
        rw [rounds_succ]
        go_wp2
        rw [rounds_succ]
        go_wp2
        go_ret
        exact ⟨by rw [hres]; rfl, HF.out⟩
    | true =>
      obtain ⟨gr0, gr1⟩ := inE_yes hr
      cases hi : inE i with
      | false =>
        have hres : RR = false := by rw [HR.out, hi]; simp
        clear HR
        rcases inE_no hi with b0 | ⟨b0, b1⟩
        all_goals
          clear hi
          go_enter Tryd.func98, Tryd.ntmps98
          go_wp2
          refine wp_loop_rounds 3 ?_
          rw [rounds_succ]
          go_wp2
          rw [rounds_succ]
          go_wp2
          rw [rounds_succ]
          go_wp2
          go_ret
          exact ⟨by rw [hres]; rfl, HF.out⟩
      | true =>
        obtain ⟨gi0, gi1⟩ := inE_yes hi
        cases hl : inE l with
        | false =>
          have hres : RR = false := by rw [HR.out, hl]; simp
          clear HR
          rcases inE_no hl with b0 | ⟨b0, b1⟩
          all_goals
            clear hl
            go_enter Tryd.func98, Tryd.ntmps98
            go_wp2
            refine wp_loop_rounds 4 ?_
            rw [rounds_succ]
            go_wp2
            rw [rounds_succ]
            go_wp2
            rw [rounds_succ]
            go_wp2
            rw [rounds_succ]
            go_wp2
            go_ret
            exact ⟨by rw [hres]; rfl, HF.out⟩
        | true =>
          obtain ⟨gl0, gl1⟩ := inE_yes hl
          cases hn : inE n with
          | false =>
            have hres : RR = false := by rw [HR.out, hn]; simp
            clear HR
            rcases inE_no hn with b0 | ⟨b0, b1⟩
            all_goals
              clear hn
              go_enter Tryd.func98, Tryd.ntmps98
              go_wp2
              refine wp_loop_rounds 5 ?_
              rw [rounds_succ]
              go_wp2
              rw [rounds_succ]
              go_wp2
              rw [rounds_succ]
              go_wp2
              rw [rounds_succ]
              go_wp2
              rw [rounds_succ]
              go_wp2
              go_ret
              exact ⟨by rw [hres]; rfl, HF.out⟩
          | true =>
            obtain ⟨gn0, gn1⟩ := inE_yes hn
            have hres : RR = (isKindB k && decide (d.length ≤ 4096)) := by rw [HR.out, ha, hr, hi, hl, hn]; simp
            clear HR ha hr hi hl hn
            have HRES := Lib.hid hres
            clear hres
            have CK := Lib.hid (isKind_any k)
            obtain ⟨q, hq⟩ : ∃ q, decide (d.length ≤ 4096) = q := ⟨_, rfl⟩
            obtain ⟨x, hx⟩ : ∃ x, isKindB k = x := ⟨_, rfl⟩
            rw [hx] at CK
            rw [hx, hq] at HRES
            have hq2 : decide ((d.length : Int) ≤ 4096) = q := by rw [← hq]; exact decide_eq_decide.2 (by omega)
            clear hx
            go_enter Tryd.func98, Tryd.ntmps98
            go_wp2
            refine wp_loop_rounds 6 ?_
            rw [rounds_succ]
            go_wp2
            rw [rounds_succ]
            go_wp2
            rw [rounds_succ]
            go_wp2
            rw [rounds_succ]
            go_wp2
            rw [rounds_succ]
            go_wp2
            rw [rounds_succ]
            go_wp2_with fail
            refine (CK.out _).mono ?_; rintro e w1 ⟨rfl, rfl⟩
            cases x <;> cases q <;>
            · go_wp2
              go_ret
              exact ⟨by rw [HRES.out]; rfl, HF.out⟩
end Go.Proofs.YtkinbcmnfpkncaaDoor
