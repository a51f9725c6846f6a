/- The reference's Read. -/
import Derived.Test.YtnkkdpmmnenncaaVd
namespace Go.Proofs.Ytnkkdpmmnenncaa
open Go.RowKit Go.Maps

theorem refRead_err {w : World} {g : Nat} {s : DS} {m : RL} (h : RefM w g s m) (x : Int) (he : s.err x ≠ 0) :
    Calls Try.prog 41 #[.pointer (some ⟨g, 0, none⟩), .int .i64 x] w fun e w' => e = .returned (.tuple #[.slice none 0 0, .int .i64 (s.err x)]) ∧ w = w' := by
  have c4 : w.cell? ⟨g, 4, none⟩ = some (.bool s.off) := h.cells rfl
  have c0 : w.cell? ⟨g, 0, none⟩ = some (.int .i64 (s.N : Int)) := h.cells rfl
  by_cases ho : s.off = true
  · have e5 : s.err x = 5 := by unfold DS.err; rw [if_pos ho]
    rw [e5]
    rw [ho] at c4
    clear h he e5 ho
    go_enter Try.func41, Try.ntmps41
    go_wp2
    go_ret2
    exact ⟨rfl, rfl⟩
  · have ho' : s.off = false := by simpa using ho
    have e1 : s.err x = 1 := by
      unfold DS.err at he ⊢; rw [if_neg ho] at he ⊢
      split at he
      · rename_i h1; rw [if_pos h1]
      · exact absurd rfl he
    have hx : x < 0 ∨ (s.N : Int) ≤ x := by
      unfold DS.err at he; rw [if_neg ho] at he
      exact Classical.byContradiction fun h1 => he (if_neg h1)
    rw [e1]
    rw [ho'] at c4
    clear h he e1 ho ho'
    by_cases h0 : x < 0
    · clear hx
      go_enter Try.func41, Try.ntmps41
      go_wp2
      go_ret2
      exact ⟨rfl, rfl⟩
    · have d0 : decide (x < 0) = false := by simpa using h0
      have hx' : (s.N : Int) ≤ x := by omega
      clear hx
      go_enter Try.func41, Try.ntmps41
      go_wp2
      go_ret2
      exact ⟨rfl, rfl⟩

/-- What a read answers. -/
def ReadsAs (w : World) (s : DS) (x : Nat) (e : Ending) (w' : World) : Prop := ∃ A' c', e = .returned (.tuple #[.slice A' s.sz c', .int .i64 0]) ∧ Rd8 w' A' (s.read x) ∧ Fr (fun _ => False) w w'
set_option maxRecDepth 100000 in
set_option maxHeartbeats 4000000 in
theorem refRead_any {w : World} {g : Nat} {s : DS} {m : RL} (h : RefM w g s m) (hq : s.q.length ≤ 1048576) (x : Nat) (he : s.err (x : Int) = 0) :
    Calls Try.prog 41 #[.pointer (some ⟨g, 0, none⟩), .int .i64 (x : Int)] w (ReadsAs w s x) := by
  obtain ⟨bb, LV, ps, KV⟩ := m
  obtain ⟨LA, Lc, hLV, hlb⟩ := h.row.form
  have hql := h.ql
  simp only at hql hlb hLV
  subst hLV
  obtain ⟨hoff, _, hxN⟩ := DS.err_in he
  have c4 : w.cell? ⟨g, 4, none⟩ = some (.bool false) := by rw [← hoff]; exact h.cells rfl
  have c0 : w.cell? ⟨g, 0, none⟩ = some (.int .i64 (s.N : Int)) := h.cells rfl
  have c3 : w.cell? ⟨g, 3, none⟩ = some (.slice LA ps.length Lc) := h.cells rfl
  have hpl : (ps.length : Int) ≤ 1048576 := by omega
  have HH := Lib.hid h
  have HQ := Lib.hid hql
  have HLB := Lib.hid hlb
  have HE := Lib.hid he
  obtain ⟨X, hX⟩ : ∃ X : Int, (x : Int) = X := ⟨_, rfl⟩
  have hX0 : 0 ≤ X := by omega
  have hXN : X < (s.N : Int) := by omega
  have hd0 : decide (X < 0) = false := by simp; omega
  have HX := Lib.hid hX
  rw [hX]
  clear h hq hql hlb hoff he hX hxN
  go_enter Try.func41, Try.ntmps41
  go_wp2_with fail
  go_loop [6] (fun v => ∃ i : Int, v = .int .i64 i ∧ -1 ≤ i ∧ i < (ps.length : Int) ∧ lastIx s.q (x : Int) = lastN s.q (x : Int) (i + 1).toNat) (fun v => (intOf v + 1).toNat)
  case atStart =>
    refine ⟨_, rfl, by omega, by omega, ?_⟩
    unfold lastIx
    rw [HQ.out]
    congr 1
    omega
  case round =>
    obtain ⟨i, rfl, h1, h2, hl⟩ := hrel
    have HL := Lib.hid hl
    clear hl
    by_cases h0 : 0 ≤ i
    · obtain ⟨k, rfl⟩ : ∃ k : Nat, i = k := ⟨i.toNat, by omega⟩
      have hlt : k < ps.length := by omega
      obtain ⟨lb, rfl⟩ := HLB.out (by omega)
      have hqk : k < s.q.length := by rw [HQ.out]; exact hlt
      have hpe : pAt s.q k = (ps.getD k default).pend := by rw [HH.out.q]; exact pend_at hlt
      have hsz : (ps.getD k default).bs.length = s.sz := by
        have := HH.out.ok.len _ (pAt_mem hqk)
        rw [hpe] at this; exact this
      obtain ⟨p0, p1⟩ := OwnP.cell HH.out.row hlt
      simp only at p0 p1
      rw [hsz] at p1
      have HP := Lib.hid (HH.out.each _ (pi_at hlt)).1.rd
      have HLE : Hid (lastIx s.q (x : Int) = if ((ps.getD k default).x : Int) = (x : Int) then some k else lastN s.q (x : Int) k) := Lib.hid (by
        rw [HL.out, show ((k : Int) + 1).toNat = k + 1 by omega]
        conv => lhs; unfold lastN
        rw [hpe]; rfl)
      have HPE := Lib.hid hpe
      generalize ps.getD k default = p at *
      obtain ⟨PX, hPX⟩ : ∃ PX : Int, ((p.x : Nat) : Int) = PX := ⟨_, rfl⟩
      rw [hPX] at p0 HLE
      rw [HX.out] at HLE
      clear hsz hqk hpe hPX HL
      by_cases hpx : PX = X
      · have hb : (PX == X) = true := by simpa using hpx
        have HR : Hid (s.read x = p.bs) := Lib.hid (by
          have h3 := HLE.out
          rw [if_pos hpx] at h3
          rw [read_some (by rw [HX.out]; exact h3), HPE.out]; rfl)
        clear hpx
        go_wp2
        go_ret2
        exact ⟨_, _, rfl, by rw [HR.out]; exact HP.out, Fr.refl _ _⟩
      · have hb : (PX == X) = false := by simpa using hpx
        have HLN : Hid (lastIx s.q X = lastN s.q X k) := Lib.hid (by rw [HLE.out, if_neg hpx])
        clear hpx
        go_wp2
        go_round
        case rel => exact ⟨_, rfl, by omega, by omega, by rw [HX.out, HLN.out]; congr 1; omega⟩
        case measure => simp [intOf]
    · obtain rfl : i = -1 := by omega
      have HR : Hid (s.read x = pieceOf s.sz s.kept x) := Lib.hid (read_none (by rw [HL.out]; rfl))
      have hprod := HH.out.ok.prod
      have hfit := HH.out.ok.fits (x := x) (by have := HX.out; omega)
      have hkl := HH.out.ok.klen
      obtain ⟨y, hy⟩ : ∃ y, x * s.sz = y := ⟨_, rfl⟩
      have hxe : (x + 1) * s.sz = y + s.sz := by rw [Nat.add_mul, hy]; omega
      rw [hxe] at hfit
      obtain ⟨z, hz⟩ : ∃ z, y + s.sz = z := ⟨_, rfl⟩
      have hs0 := HH.out.ok.s0
      have hN := HH.out.ok.n1
      have CL := Lib.hid (fun w' (hf : Fr (fun _ => False) w w') => And.intro (show w'.cell? ⟨g, 2, none⟩ = some (.slice (some ⟨bb, 0, none⟩) (s.N * s.sz) (s.N * s.sz)) from (HH.out.blk.fr hf (fun h => h)).cell 2) (show w'.cell? ⟨g, 1, none⟩ = some (.int .i64 (s.sz : Int)) from (HH.out.blk.fr hf (fun h => h)).cell 1))
      have FIN := Lib.hid (fun w' (hf : Fr (fun _ => False) w w') => show Rd8 w' (some ⟨bb, y, none⟩) (pieceOf s.sz s.kept x) from fun h0 => by
        subst hy
        refine ⟨_, rfl, rfl, fun j hj => ?_⟩
        have hll : (pieceOf s.sz s.kept x).length = s.sz := by unfold pieceOf; rw [List.length_take, List.length_drop, hkl]; omega
        have h1 := Loc.cell (w := w') (g := bb) (xs := s.kept) (HH.out.kept.fr hf (fun h => h)) (x * s.sz + j) (by rw [hkl]; omega)
        have h2 := piece_at (sz := s.sz) (K := s.kept) (i := x) (j := j) (by omega)
        rw [List.getElem?_eq_getElem hj, List.getElem?_eq_getElem (by rw [hkl]; omega)] at h2
        injection h2 with h2
        rw [h2]; exact h1)
      generalize hM : s.N * s.sz = M at *
      have hzi : (X + 1) * (s.sz : Int) = (z : Int) := by
        have h1 := HX.out
        rw [← h1, ← hz, ← hxe]; simp
      have hyi : X * (s.sz : Int) = (y : Int) := by
        have h1 := HX.out
        rw [← h1, ← hy]; simp
      have WR : Hid (IntKind.i64.wrap (X * (s.sz : Int)) = (y : Int) ∧ IntKind.i64.wrap (X + 1) = X + 1 ∧ IntKind.i64.wrap ((X + 1) * (s.sz : Int)) = (z : Int) ∧ (z : Int) ≤ (M : Int) ∧ (y : Int) ≤ (z : Int) ∧ (y : Int).toNat = y ∧ (z : Int).toNat = z ∧ z - y = s.sz ∧ (M = y) = False ∧ (0 : Int) ≤ (z : Int)) := Lib.hid
        ⟨by rw [hyi, IntWalk.i64_in _ (by omega)], by rw [IntWalk.i64_in _ (by omega)], by rw [hzi, IntWalk.i64_in _ (by omega)], by omega, by omega, by omega, by omega, by omega, by simp; omega, by omega⟩
      clear hM hzi hyi hfit hprod hkl hxe hz hy hs0 hN HL h1 h2
      go_wp2_with fail
      refine wp_region_held_drew (S := fun w' => Fr (fun _ => False) w w') (by kernel_rfl) ((Fr.refl _ _).drew) (fun hHeld => ?_)
      refine wpAnyH_takeD (i := 0) (v := ?_) (some 49) rfl rfl (by kernel_rfl) (by kernel_rfl) (by kernel_rfl) (fun _ _ _ h => h) (Or.inl ⟨by rfl, ?_⟩) (by assumption) ?_
      rotate_left
      · intro w' hSw
        go_simp
        first | done | with_reducible rfl
      try simp only [Go.Act.put, List.setIfInBounds_toArray, List.set_cons_zero, List.set_cons_succ]
      refine wpAnyH_takeD (i := 1) (v := ?_) (some 50) rfl rfl (by kernel_rfl) (by kernel_rfl) (by kernel_rfl) (fun _ _ _ h => h) (Or.inl ⟨by rfl, ?_⟩) (by assumption) ?_
      rotate_left
      · intro w' hSw
        go_simp
        first | done | with_reducible rfl
      try simp only [Go.Act.put, List.setIfInBounds_toArray, List.set_cons_zero, List.set_cons_succ]
      refine wpAnyH_takeD (i := 2) (v := ?_) (some 51) rfl rfl (by kernel_rfl) (by kernel_rfl) (by kernel_rfl) (fun _ _ _ h => h) (Or.inl ⟨by rfl, ?_⟩) (by assumption) ?_
      rotate_left
      · intro w' hSw
        go_simp
        first | done | with_reducible rfl
      try simp only [Go.Act.put, List.setIfInBounds_toArray, List.set_cons_zero, List.set_cons_succ]
      refine wpAnyH_takeD (i := 3) (v := ?_) (some 52) rfl rfl (by kernel_rfl) (by kernel_rfl) (by kernel_rfl) (fun _ _ _ h => h) (Or.inl ⟨by rfl, ?_⟩) (by assumption) ?_
      rotate_left
      · intro w' hSw
        have q1 := (CL.out w' hSw).1
        go_simp
        first | done | with_reducible rfl
      try simp only [Go.Act.put, List.setIfInBounds_toArray, List.set_cons_zero, List.set_cons_succ]
      refine wpAnyH_takeD (i := 4) (v := ?_) (some 53) rfl rfl (by kernel_rfl) (by kernel_rfl) (by kernel_rfl) (fun _ _ _ h => h) (Or.inl ⟨by rfl, ?_⟩) (by assumption) ?_
      rotate_left
      · intro w' hSw
        go_simp
        first | done | with_reducible rfl
      try simp only [Go.Act.put, List.setIfInBounds_toArray, List.set_cons_zero, List.set_cons_succ]
      refine wpAnyH_takeD (i := 5) (v := ?_) (some 54) rfl rfl (by kernel_rfl) (by kernel_rfl) (by kernel_rfl) (fun _ _ _ h => h) (Or.inl ⟨by rfl, ?_⟩) (by assumption) ?_
      rotate_left
      · intro w' hSw
        go_simp
        first | done | with_reducible rfl
      try simp only [Go.Act.put, List.setIfInBounds_toArray, List.set_cons_zero, List.set_cons_succ]
      refine wpAnyH_takeD (i := 6) (v := ?_) (some 55) rfl rfl (by kernel_rfl) (by kernel_rfl) (by kernel_rfl) (fun _ _ _ h => h) (Or.inl ⟨by rfl, ?_⟩) (by assumption) ?_
      rotate_left
      · intro w' hSw
        go_simp
        first | done | with_reducible rfl
      try simp only [Go.Act.put, List.setIfInBounds_toArray, List.set_cons_zero, List.set_cons_succ]
      refine wpAnyH_takeD (i := 7) (v := ?_) (some 56) rfl rfl (by kernel_rfl) (by kernel_rfl) (by kernel_rfl) (fun _ _ _ h => h) (Or.inl ⟨by rfl, ?_⟩) (by assumption) ?_
      rotate_left
      · intro w' hSw
        go_simp
        first | done | with_reducible rfl
      try simp only [Go.Act.put, List.setIfInBounds_toArray, List.set_cons_zero, List.set_cons_succ]
      refine wpAnyH_takeD (i := 8) (v := ?_) (some 57) rfl rfl (by kernel_rfl) (by kernel_rfl) (by kernel_rfl) (fun _ _ _ h => h) (Or.inl ⟨by rfl, ?_⟩) (by assumption) ?_
      rotate_left
      · intro w' hSw
        have q1 := (CL.out w' hSw).2
        go_simp
        first | done | with_reducible rfl
      try simp only [Go.Act.put, List.setIfInBounds_toArray, List.set_cons_zero, List.set_cons_succ]
      refine wpAnyH_takeD (i := 9) (v := ?_) (some 58) rfl rfl (by kernel_rfl) (by kernel_rfl) (by kernel_rfl) (fun _ _ _ h => h) (Or.inl ⟨by rfl, ?_⟩) (by assumption) ?_
      rotate_left
      · intro w' hSw
        have s1 := WR.out.1
        go_simp
        first | done | with_reducible rfl
      try simp only [Go.Act.put, List.setIfInBounds_toArray, List.set_cons_zero, List.set_cons_succ]
      refine wpAnyH_takeD (i := 10) (v := ?_) (some 59) rfl rfl (by kernel_rfl) (by kernel_rfl) (by kernel_rfl) (fun _ _ _ h => h) (Or.inl ⟨by rfl, ?_⟩) (by assumption) ?_
      rotate_left
      · intro w' hSw
        go_simp
        first | done | with_reducible rfl
      try simp only [Go.Act.put, List.setIfInBounds_toArray, List.set_cons_zero, List.set_cons_succ]
      refine wpAnyH_takeD (i := 11) (v := ?_) (some 60) rfl rfl (by kernel_rfl) (by kernel_rfl) (by kernel_rfl) (fun _ _ _ h => h) (Or.inl ⟨by rfl, ?_⟩) (by assumption) ?_
      rotate_left
      · intro w' hSw
        have s1 := WR.out.2.1
        go_simp
        first | done | with_reducible rfl
      try simp only [Go.Act.put, List.setIfInBounds_toArray, List.set_cons_zero, List.set_cons_succ]
      refine wpAnyH_takeD (i := 12) (v := ?_) (some 61) rfl rfl (by kernel_rfl) (by kernel_rfl) (by kernel_rfl) (fun _ _ _ h => h) (Or.inl ⟨by rfl, ?_⟩) (by assumption) ?_
      rotate_left
      · intro w' hSw
        go_simp
        first | done | with_reducible rfl
      try simp only [Go.Act.put, List.setIfInBounds_toArray, List.set_cons_zero, List.set_cons_succ]
      refine wpAnyH_takeD (i := 13) (v := ?_) (some 62) rfl rfl (by kernel_rfl) (by kernel_rfl) (by kernel_rfl) (fun _ _ _ h => h) (Or.inl ⟨by rfl, ?_⟩) (by assumption) ?_
      rotate_left
      · intro w' hSw
        go_simp
        first | done | with_reducible rfl
      try simp only [Go.Act.put, List.setIfInBounds_toArray, List.set_cons_zero, List.set_cons_succ]
      refine wpAnyH_takeD (i := 14) (v := ?_) (some 63) rfl rfl (by kernel_rfl) (by kernel_rfl) (by kernel_rfl) (fun _ _ _ h => h) (Or.inl ⟨by rfl, ?_⟩) (by assumption) ?_
      rotate_left
      · intro w' hSw
        go_simp
        first | done | with_reducible rfl
      try simp only [Go.Act.put, List.setIfInBounds_toArray, List.set_cons_zero, List.set_cons_succ]
      refine wpAnyH_takeD (i := 15) (v := ?_) (some 64) rfl rfl (by kernel_rfl) (by kernel_rfl) (by kernel_rfl) (fun _ _ _ h => h) (Or.inl ⟨by rfl, ?_⟩) (by assumption) ?_
      rotate_left
      · intro w' hSw
        have q1 := (CL.out w' hSw).2
        go_simp
        first | done | with_reducible rfl
      try simp only [Go.Act.put, List.setIfInBounds_toArray, List.set_cons_zero, List.set_cons_succ]
      refine wpAnyH_takeD (i := 16) (v := ?_) (some 65) rfl rfl (by kernel_rfl) (by kernel_rfl) (by kernel_rfl) (fun _ _ _ h => h) (Or.inl ⟨by rfl, ?_⟩) (by assumption) ?_
      rotate_left
      · intro w' hSw
        have s1 := WR.out.2.2.1
        go_simp
        first | done | with_reducible rfl
      try simp only [Go.Act.put, List.setIfInBounds_toArray, List.set_cons_zero, List.set_cons_succ]
      refine wpAnyH_takeD (i := 17) (v := ?_) (some 66) rfl rfl (by kernel_rfl) (by kernel_rfl) (by kernel_rfl) (fun _ _ _ h => h) (Or.inl ⟨by rfl, ?_⟩) (by assumption) ?_
      rotate_left
      · intro w' hSw
        obtain ⟨r1, r2, r3, r4, r5, r6, r7, r8, r9, r10⟩ := WR.out
        go_simp
        first | done | with_reducible rfl
      try simp only [Go.Act.put, List.setIfInBounds_toArray, List.set_cons_zero, List.set_cons_succ]
      refine wpAnyH_takeD (i := 18) (v := ?_) (some 4) rfl rfl (by kernel_rfl) (by kernel_rfl) (by kernel_rfl) (fun _ _ _ h => h) (Or.inl ⟨by rfl, ?_⟩) (by assumption) ?_
      rotate_left
      · intro w' hSw
        go_simp
        first | done | with_reducible rfl
      try simp only [Go.Act.put, List.setIfInBounds_toArray, List.set_cons_zero, List.set_cons_succ]
      refine wpAnyH_takeD (i := 19) (v := ?_) (some 5) rfl rfl (by kernel_rfl) (by kernel_rfl) (by kernel_rfl) (fun _ _ _ h => h) (Or.inl ⟨by rfl, ?_⟩) (by assumption) ?_
      rotate_left
      · intro w' hSw
        go_simp
        first | done | with_reducible rfl
      try simp only [Go.Act.put, List.setIfInBounds_toArray, List.set_cons_zero, List.set_cons_succ]
      refine wpAnyH_done (by kernel_rfl) ?_ _
      go_wp2
      go_ret2
      exact ⟨_, _, rfl, by rw [HR.out]; exact FIN.out _ hHeld, hHeld⟩
end Go.Proofs.Ytnkkdpmmnenncaa
