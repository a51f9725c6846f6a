/- The walk of IdsBack. -/
import Derived.Test.YtjgccgfabacbkaaIk
namespace Go.Proofs.Ytjgccgfabacbkaa
open Go.RowKit

theorem tokN_fits {k : Tok} (h : tokN k ≠ 0) : k.fits := by
  unfold tokN at h
  by_cases hc : k.fits ∧ ¬ k.none
  · exact hc.1
  · rw [if_neg hc] at h; exact absurd rfl h
theorem tokN_pack {k : Tok} (h : tokN k ≠ 0) : tokN k = packN k ∧ ¬ k.none := by
  unfold tokN at h ⊢
  by_cases hc : k.fits ∧ ¬ k.none
  · exact ⟨if_pos hc, hc.2⟩
  · rw [if_neg hc] at h; exact absurd rfl h
theorem ofN_tokN {k : Tok} (h : tokN k ≠ 0) : ofN (tokN k) = (k, 0) := by
  obtain ⟨h1, h2⟩ := tokN_pack h
  have hf := tokN_fits h
  unfold ofN
  rw [h1, tokOf_pack hf, if_neg]
  unfold noneB
  simp only [beq_iff_eq]
  exact fun h => h2 ((pack_none hf).1 h)
theorem tokN_less {a b : Tok} (ha : tokN a ≠ 0) (hb : tokN b ≠ 0) : decide (tokN a < tokN b) = lessB a b := by
  have h1 := (tokN_pack ha).1
  have h2 := (tokN_pack hb).1
  obtain ⟨f, r, e, t, rfl, hf, hr, he, ht⟩ := Tok.cast (tokN_fits ha)
  obtain ⟨f', r', e', t', rfl, hf', hr', he', ht'⟩ := Tok.cast (tokN_fits hb)
  rw [h1, h2, packN_fits f r e t hf hr he ht, packN_fits f' r' e' t' hf' hr' he' ht']
  unfold sumN
  by_cases g1 : f = f'
  · by_cases g2 : r = r'
    · by_cases g3 : e = e'
      · rw [less_t (by simp [g1]) (by simp [g2]) (by simp [g3])]
        apply decide_eq_decide.2; simp only; omega
      · rw [less_e (by simp [g1]) (by simp [g2]) (by simp; omega)]
        apply decide_eq_decide.2; simp only; omega
    · rw [less_r (by simp [g1]) (by simp; omega)]
      apply decide_eq_decide.2; simp only; omega
  · rw [less_f (by simp; omega)]
    apply decide_eq_decide.2; simp only; omega

theorem owner_in {r s at' : Int} (h1 : 0 ≤ r) (h2 : r ≤ 1099511627776) (h3 : 1 ≤ s) (h4 : s ≤ 1048576) : ownerOf (r * s + at' % s) s = (r, 0) := by
  have a1 := Int.emod_nonneg at' (show s ≠ 0 by omega)
  have a2 := Int.emod_lt_of_pos at' (show 0 < s by omega)
  have a3 := prod_in h1 h2 h3 h4
  have hd : (r * s + at' % s) / s = r := by
    rw [Int.add_comm, Int.add_mul_ediv_right _ _ (by omega), Int.ediv_eq_zero_of_lt a1 a2]; omega
  unfold ownerOf
  rw [hd, if_pos ⟨by omega, sizB_mk ⟨h3, h4⟩, rngB_mk ⟨h1, h2⟩⟩]

theorem blockOf_cases (r s : Int) : (blockOf r s = (0, 0, 1)) ∨ (0 ≤ r ∧ r ≤ 1099511627776 ∧ 1 ≤ s ∧ s ≤ 1048576 ∧ blockOf r s = (r * s, r * s + s, 0)) := by
  by_cases h : rngB r = true ∧ sizB s = true
  · obtain ⟨a1, a2⟩ := rngB_yes h.1
    obtain ⟨a3, a4⟩ := sizB_yes h.2
    exact .inr ⟨a1, a2, a3, a4, if_pos h⟩
  · exact .inl (if_neg h)

set_option maxRecDepth 100000 in
set_option maxHeartbeats 4000000 in
theorem back_00 (a b : Tok) (r s k : Int) (w : World) (hx : tokN a = 0) (hb : blockOf r s = (0, 0, 1)) :
    Calls Try.prog 5 #[.agg a.cs, .agg b.cs, .int .i64 r, .int .i64 s, .int .i64 k] w fun e w' => e = .returned (.bool true) ∧ Fr (fun _ => False) w w' := by
  have C1 := Lib.hid (fun w => known_any w)
  have C2 := Lib.hid (fun w => token_any a w)
  have C3 := Lib.hid (fun w => token_any b w)
  have C7 := Lib.hid (fun w => block_any r s w)
  have T2 := Lib.hid (fun w => two_new w a b)
  have hF0 : ∀ w, Fr (fun _ => False) w ((w.alloc (.cells a.cs 38)).alloc (.cells b.cs 38)) := fun w => ((Fr.refl _ w).alloc _).alloc _
  have HF0 := @Lib.hid _ hF0
  clear hF0
  rw [hb] at C7
  clear hb
  rw [hx] at C2
  generalize tokN b = y at *
  obtain ⟨f, r1, e, t⟩ := a
  obtain ⟨f', r', e', t'⟩ := b
  simp only [Tok.cs] at *
  go_enter Try.func5, Try.ntmps5
  go_wp2_with fail
  refine (C1.out _).mono ?_; rintro e9 w1 ⟨rfl, hf1⟩
  have hA := (T2.out w).1.fr hf1 (fun h => h)
  have hB := (T2.out w).2.fr hf1 (fun h => h)
  have hF := (HF0.out w).trans hf1 (fun _ _ h => h)
  clear hf1 T2 HF0
  generalize w.heap.size = g at *
  have H1 := hA; have H2 := hB
  obtain ⟨m0, m1, m2, m3⟩ := H1
  obtain ⟨n0, n1, n2, n3⟩ := H2
  go_wp2_with fail
  refine (C2.out _).mono ?_; rintro e9 w2 ⟨rfl, hf2⟩
  have hA := hA.fr hf2 (fun h => h)
  have hB := hB.fr hf2 (fun h => h)
  have hF := hF.trans hf2 (fun _ _ h => h)
  clear hf2 m0 m1 m2 m3 n0 n1 n2 n3
  have H1 := hA; have H2 := hB
  obtain ⟨m0, m1, m2, m3⟩ := H1
  obtain ⟨n0, n1, n2, n3⟩ := H2
  go_wp2_with fail
  refine (C3.out _).mono ?_; rintro e9 w3 ⟨rfl, hf3⟩
  have hA := hA.fr hf3 (fun h => h)
  have hB := hB.fr hf3 (fun h => h)
  have hF := hF.trans hf3 (fun _ _ h => h)
  clear hf3 m0 m1 m2 m3 n0 n1 n2 n3
  go_wp2_with fail
  refine (C7.out _).mono ?_; rintro e9 w9 ⟨rfl, rfl⟩
  go_wp2
  go_ret
  exact ⟨rfl, hF⟩

set_option maxRecDepth 100000 in
set_option maxHeartbeats 4000000 in
theorem back_10 (a b : Tok) (r s k : Int) (w : World) (hx : tokN a ≠ 0) (hy : tokN b = 0) (hb : blockOf r s = (0, 0, 1)) :
    Calls Try.prog 5 #[.agg a.cs, .agg b.cs, .int .i64 r, .int .i64 s, .int .i64 k] w fun e w' => e = .returned (.bool true) ∧ Fr (fun _ => False) w w' := by
  have C1 := Lib.hid (fun w => known_any w)
  have C2 := Lib.hid (fun w => token_any a w)
  have C3 := Lib.hid (fun w => token_any b w)
  have C7 := Lib.hid (fun w => block_any r s w)
  have T2 := Lib.hid (fun w => two_new w a b)
  have hF0 : ∀ w, Fr (fun _ => False) w ((w.alloc (.cells a.cs 38)).alloc (.cells b.cs 38)) := fun w => ((Fr.refl _ w).alloc _).alloc _
  have HF0 := @Lib.hid _ hF0
  clear hF0
  rw [hb] at C7
  clear hb
  have C4 := Lib.hid (fun w => of_any (tokN a) w (tokN_lt a))
  rw [ofN_tokN hx] at C4
  have x1 : (((tokN a : Nat) : Int) == 0) = false := by rw [beq_eq_false_iff_ne]; omega
  have x2 : (((tokN a : Nat) : Int) != 0) = true := by rw [bne, x1]; rfl
  rw [hy] at C3
  clear hx
  generalize tokN a = x at *
  obtain ⟨f, r1, e, t⟩ := a
  obtain ⟨f', r', e', t'⟩ := b
  simp only [Tok.cs] at *
  go_enter Try.func5, Try.ntmps5
  go_wp2_with fail
  refine (C1.out _).mono ?_; rintro e9 w1 ⟨rfl, hf1⟩
  have hA := (T2.out w).1.fr hf1 (fun h => h)
  have hB := (T2.out w).2.fr hf1 (fun h => h)
  have hF := (HF0.out w).trans hf1 (fun _ _ h => h)
  clear hf1 T2 HF0
  generalize w.heap.size = g at *
  have H1 := hA; have H2 := hB
  obtain ⟨m0, m1, m2, m3⟩ := H1
  obtain ⟨n0, n1, n2, n3⟩ := H2
  go_wp2_with fail
  refine (C2.out _).mono ?_; rintro e9 w2 ⟨rfl, hf2⟩
  have hA := hA.fr hf2 (fun h => h)
  have hB := hB.fr hf2 (fun h => h)
  have hF := hF.trans hf2 (fun _ _ h => h)
  clear hf2 m0 m1 m2 m3 n0 n1 n2 n3
  have H1 := hA; have H2 := hB
  obtain ⟨m0, m1, m2, m3⟩ := H1
  obtain ⟨n0, n1, n2, n3⟩ := H2
  go_wp2_with fail
  refine (C3.out _).mono ?_; rintro e9 w3 ⟨rfl, hf3⟩
  have hA := hA.fr hf3 (fun h => h)
  have hB := hB.fr hf3 (fun h => h)
  have hF := hF.trans hf3 (fun _ _ h => h)
  clear hf3 m0 m1 m2 m3 n0 n1 n2 n3
  have q1 : (f == f) = true := by simp
  have q2 : (r1 == r1) = true := by simp
  have q3 : (e == e) = true := by simp
  have q4 : (t == t) = true := by simp
  go_wp2_with fail
  refine (C4.out _).mono ?_; rintro e9 w4 ⟨rfl, hf4⟩
  have hA := hA.fr hf4 (fun h => h)
  have hB := hB.fr hf4 (fun h => h)
  have hF := hF.trans hf4 (fun _ _ h => h)
  clear hf4
  have H1 := hA; have H2 := hB
  obtain ⟨m0, m1, m2, m3⟩ := H1
  obtain ⟨n0, n1, n2, n3⟩ := H2
  have z1 : g < w4.heap.size := hA.lt
  have z2 : g + 1 < w4.heap.size := hB.lt
  go_wp2_with fail
  refine (C7.out _).mono ?_; rintro e9 w9 ⟨rfl, rfl⟩
  go_wp2
  go_ret
  exact ⟨rfl, hF.alloc _⟩

set_option maxRecDepth 100000 in
set_option maxHeartbeats 4000000 in
theorem back_20 (a b : Tok) (r s k : Int) (w : World) (hx : tokN a ≠ 0) (hy : tokN b ≠ 0) (hb : blockOf r s = (0, 0, 1)) :
    Calls Try.prog 5 #[.agg a.cs, .agg b.cs, .int .i64 r, .int .i64 s, .int .i64 k] w fun e w' => e = .returned (.bool true) ∧ Fr (fun _ => False) w w' := by
  have C1 := Lib.hid (fun w => known_any w)
  have C2 := Lib.hid (fun w => token_any a w)
  have C3 := Lib.hid (fun w => token_any b w)
  have C7 := Lib.hid (fun w => block_any r s w)
  have T2 := Lib.hid (fun w => two_new w a b)
  have hF0 : ∀ w, Fr (fun _ => False) w ((w.alloc (.cells a.cs 38)).alloc (.cells b.cs 38)) := fun w => ((Fr.refl _ w).alloc _).alloc _
  have HF0 := @Lib.hid _ hF0
  clear hF0
  rw [hb] at C7
  clear hb
  have C4 := Lib.hid (fun w => of_any (tokN a) w (tokN_lt a))
  rw [ofN_tokN hx] at C4
  have C6 := Lib.hid (fun w => less_any a b w)
  have x1 : (((tokN a : Nat) : Int) == 0) = false := by rw [beq_eq_false_iff_ne]; omega
  have x2 : (((tokN a : Nat) : Int) != 0) = true := by rw [bne, x1]; rfl
  have y1 : (((tokN b : Nat) : Int) == 0) = false := by rw [beq_eq_false_iff_ne]; omega
  have y2 : (((tokN b : Nat) : Int) != 0) = true := by rw [bne, y1]; rfl
  have hL : decide (tokN a < tokN b) = lessB a b := tokN_less hx hy
  clear hx hy
  generalize lessB a b = L at *
  have l1 : (L == L) = true := by cases L <;> rfl
  generalize tokN a = x at *
  generalize tokN b = y at *
  obtain ⟨f, r1, e, t⟩ := a
  obtain ⟨f', r', e', t'⟩ := b
  simp only [Tok.cs] at *
  go_enter Try.func5, Try.ntmps5
  go_wp2_with fail
  refine (C1.out _).mono ?_; rintro e9 w1 ⟨rfl, hf1⟩
  have hA := (T2.out w).1.fr hf1 (fun h => h)
  have hB := (T2.out w).2.fr hf1 (fun h => h)
  have hF := (HF0.out w).trans hf1 (fun _ _ h => h)
  clear hf1 T2 HF0
  generalize w.heap.size = g at *
  have H1 := hA; have H2 := hB
  obtain ⟨m0, m1, m2, m3⟩ := H1
  obtain ⟨n0, n1, n2, n3⟩ := H2
  go_wp2_with fail
  refine (C2.out _).mono ?_; rintro e9 w2 ⟨rfl, hf2⟩
  have hA := hA.fr hf2 (fun h => h)
  have hB := hB.fr hf2 (fun h => h)
  have hF := hF.trans hf2 (fun _ _ h => h)
  clear hf2 m0 m1 m2 m3 n0 n1 n2 n3
  have H1 := hA; have H2 := hB
  obtain ⟨m0, m1, m2, m3⟩ := H1
  obtain ⟨n0, n1, n2, n3⟩ := H2
  go_wp2_with fail
  refine (C3.out _).mono ?_; rintro e9 w3 ⟨rfl, hf3⟩
  have hA := hA.fr hf3 (fun h => h)
  have hB := hB.fr hf3 (fun h => h)
  have hF := hF.trans hf3 (fun _ _ h => h)
  clear hf3 m0 m1 m2 m3 n0 n1 n2 n3
  have q1 : (f == f) = true := by simp
  have q2 : (r1 == r1) = true := by simp
  have q3 : (e == e) = true := by simp
  have q4 : (t == t) = true := by simp
  go_wp2_with fail
  refine (C4.out _).mono ?_; rintro e9 w4 ⟨rfl, hf4⟩
  have hA := hA.fr hf4 (fun h => h)
  have hB := hB.fr hf4 (fun h => h)
  have hF := hF.trans hf4 (fun _ _ h => h)
  clear hf4
  have H1 := hA; have H2 := hB
  obtain ⟨m0, m1, m2, m3⟩ := H1
  obtain ⟨n0, n1, n2, n3⟩ := H2
  have z1 : g < w4.heap.size := hA.lt
  have z2 : g + 1 < w4.heap.size := hB.lt
  go_wp2_with fail
  refine (C6.out _).mono ?_; rintro e9 w5 ⟨rfl, hf5⟩
  have hF := (hF.alloc _).trans hf5 (fun _ _ h => h)
  clear hf5 m0 m1 m2 m3 n0 n1 n2 n3 hA hB z1 z2
  go_wp2_with fail
  refine (C7.out _).mono ?_; rintro e9 w9 ⟨rfl, rfl⟩
  go_wp2
  go_ret
  exact ⟨rfl, hF⟩

set_option maxRecDepth 100000 in
set_option maxHeartbeats 4000000 in
theorem back_01 (a b : Tok) (r s k : Int) (w : World) (hx : tokN a = 0) (h1 : 0 ≤ r) (h2 : r ≤ 1099511627776) (h3 : 1 ≤ s) (h4 : s ≤ 1048576) (hb : blockOf r s = (r * s, r * s + s, 0)) (hn : k < 0) :
    Calls Try.prog 5 #[.agg a.cs, .agg b.cs, .int .i64 r, .int .i64 s, .int .i64 k] w fun e w' => e = .returned (.bool true) ∧ Fr (fun _ => False) w w' := by
  have C1 := Lib.hid (fun w => known_any w)
  have C2 := Lib.hid (fun w => token_any a w)
  have C3 := Lib.hid (fun w => token_any b w)
  have C7 := Lib.hid (fun w => block_any r s w)
  have T2 := Lib.hid (fun w => two_new w a b)
  have hF0 : ∀ w, Fr (fun _ => False) w ((w.alloc (.cells a.cs 38)).alloc (.cells b.cs 38)) := fun w => ((Fr.refl _ w).alloc _).alloc _
  have HF0 := @Lib.hid _ hF0
  clear hF0
  rw [hb] at C7
  clear hb
  obtain ⟨p1, p2⟩ := prod_in h1 h2 h3 h4
  have HD : r * s + s - r * s = s := by omega
  rw [hx] at C2
  generalize tokN b = y at *
  obtain ⟨f, r1, e, t⟩ := a
  obtain ⟨f', r', e', t'⟩ := b
  simp only [Tok.cs] at *
  go_enter Try.func5, Try.ntmps5
  go_wp2_with fail
  refine (C1.out _).mono ?_; rintro e9 w1 ⟨rfl, hf1⟩
  have hA := (T2.out w).1.fr hf1 (fun h => h)
  have hB := (T2.out w).2.fr hf1 (fun h => h)
  have hF := (HF0.out w).trans hf1 (fun _ _ h => h)
  clear hf1 T2 HF0
  generalize w.heap.size = g at *
  have H1 := hA; have H2 := hB
  obtain ⟨m0, m1, m2, m3⟩ := H1
  obtain ⟨n0, n1, n2, n3⟩ := H2
  go_wp2_with fail
  refine (C2.out _).mono ?_; rintro e9 w2 ⟨rfl, hf2⟩
  have hA := hA.fr hf2 (fun h => h)
  have hB := hB.fr hf2 (fun h => h)
  have hF := hF.trans hf2 (fun _ _ h => h)
  clear hf2 m0 m1 m2 m3 n0 n1 n2 n3
  have H1 := hA; have H2 := hB
  obtain ⟨m0, m1, m2, m3⟩ := H1
  obtain ⟨n0, n1, n2, n3⟩ := H2
  go_wp2_with fail
  refine (C3.out _).mono ?_; rintro e9 w3 ⟨rfl, hf3⟩
  have hA := hA.fr hf3 (fun h => h)
  have hB := hB.fr hf3 (fun h => h)
  have hF := hF.trans hf3 (fun _ _ h => h)
  clear hf3 m0 m1 m2 m3 n0 n1 n2 n3
  go_wp2_with fail
  refine (C7.out _).mono ?_; rintro e9 w9 ⟨rfl, rfl⟩
  go_wp2
  go_ret
  exact ⟨rfl, hF⟩

set_option maxRecDepth 100000 in
set_option maxHeartbeats 4000000 in
theorem back_11 (a b : Tok) (r s k : Int) (w : World) (hx : tokN a ≠ 0) (hy : tokN b = 0) (h1 : 0 ≤ r) (h2 : r ≤ 1099511627776) (h3 : 1 ≤ s) (h4 : s ≤ 1048576) (hb : blockOf r s = (r * s, r * s + s, 0)) (hn : k < 0) :
    Calls Try.prog 5 #[.agg a.cs, .agg b.cs, .int .i64 r, .int .i64 s, .int .i64 k] w fun e w' => e = .returned (.bool true) ∧ Fr (fun _ => False) w w' := by
  have C1 := Lib.hid (fun w => known_any w)
  have C2 := Lib.hid (fun w => token_any a w)
  have C3 := Lib.hid (fun w => token_any b w)
  have C7 := Lib.hid (fun w => block_any r s w)
  have T2 := Lib.hid (fun w => two_new w a b)
  have hF0 : ∀ w, Fr (fun _ => False) w ((w.alloc (.cells a.cs 38)).alloc (.cells b.cs 38)) := fun w => ((Fr.refl _ w).alloc _).alloc _
  have HF0 := @Lib.hid _ hF0
  clear hF0
  rw [hb] at C7
  clear hb
  obtain ⟨p1, p2⟩ := prod_in h1 h2 h3 h4
  have HD : r * s + s - r * s = s := by omega
  have C4 := Lib.hid (fun w => of_any (tokN a) w (tokN_lt a))
  rw [ofN_tokN hx] at C4
  have x1 : (((tokN a : Nat) : Int) == 0) = false := by rw [beq_eq_false_iff_ne]; omega
  have x2 : (((tokN a : Nat) : Int) != 0) = true := by rw [bne, x1]; rfl
  rw [hy] at C3
  clear hx
  generalize tokN a = x at *
  obtain ⟨f, r1, e, t⟩ := a
  obtain ⟨f', r', e', t'⟩ := b
  simp only [Tok.cs] at *
  go_enter Try.func5, Try.ntmps5
  go_wp2_with fail
  refine (C1.out _).mono ?_; rintro e9 w1 ⟨rfl, hf1⟩
  have hA := (T2.out w).1.fr hf1 (fun h => h)
  have hB := (T2.out w).2.fr hf1 (fun h => h)
  have hF := (HF0.out w).trans hf1 (fun _ _ h => h)
  clear hf1 T2 HF0
  generalize w.heap.size = g at *
  have H1 := hA; have H2 := hB
  obtain ⟨m0, m1, m2, m3⟩ := H1
  obtain ⟨n0, n1, n2, n3⟩ := H2
  go_wp2_with fail
  refine (C2.out _).mono ?_; rintro e9 w2 ⟨rfl, hf2⟩
  have hA := hA.fr hf2 (fun h => h)
  have hB := hB.fr hf2 (fun h => h)
  have hF := hF.trans hf2 (fun _ _ h => h)
  clear hf2 m0 m1 m2 m3 n0 n1 n2 n3
  have H1 := hA; have H2 := hB
  obtain ⟨m0, m1, m2, m3⟩ := H1
  obtain ⟨n0, n1, n2, n3⟩ := H2
  go_wp2_with fail
  refine (C3.out _).mono ?_; rintro e9 w3 ⟨rfl, hf3⟩
  have hA := hA.fr hf3 (fun h => h)
  have hB := hB.fr hf3 (fun h => h)
  have hF := hF.trans hf3 (fun _ _ h => h)
  clear hf3 m0 m1 m2 m3 n0 n1 n2 n3
  have q1 : (f == f) = true := by simp
  have q2 : (r1 == r1) = true := by simp
  have q3 : (e == e) = true := by simp
  have q4 : (t == t) = true := by simp
  go_wp2_with fail
  refine (C4.out _).mono ?_; rintro e9 w4 ⟨rfl, hf4⟩
  have hA := hA.fr hf4 (fun h => h)
  have hB := hB.fr hf4 (fun h => h)
  have hF := hF.trans hf4 (fun _ _ h => h)
  clear hf4
  have H1 := hA; have H2 := hB
  obtain ⟨m0, m1, m2, m3⟩ := H1
  obtain ⟨n0, n1, n2, n3⟩ := H2
  have z1 : g < w4.heap.size := hA.lt
  have z2 : g + 1 < w4.heap.size := hB.lt
  go_wp2_with fail
  refine (C7.out _).mono ?_; rintro e9 w9 ⟨rfl, rfl⟩
  go_wp2
  go_ret
  exact ⟨rfl, hF.alloc _⟩

set_option maxRecDepth 100000 in
set_option maxHeartbeats 4000000 in
theorem back_21 (a b : Tok) (r s k : Int) (w : World) (hx : tokN a ≠ 0) (hy : tokN b ≠ 0) (h1 : 0 ≤ r) (h2 : r ≤ 1099511627776) (h3 : 1 ≤ s) (h4 : s ≤ 1048576) (hb : blockOf r s = (r * s, r * s + s, 0)) (hn : k < 0) :
    Calls Try.prog 5 #[.agg a.cs, .agg b.cs, .int .i64 r, .int .i64 s, .int .i64 k] w fun e w' => e = .returned (.bool true) ∧ Fr (fun _ => False) w w' := by
  have C1 := Lib.hid (fun w => known_any w)
  have C2 := Lib.hid (fun w => token_any a w)
  have C3 := Lib.hid (fun w => token_any b w)
  have C7 := Lib.hid (fun w => block_any r s w)
  have T2 := Lib.hid (fun w => two_new w a b)
  have hF0 : ∀ w, Fr (fun _ => False) w ((w.alloc (.cells a.cs 38)).alloc (.cells b.cs 38)) := fun w => ((Fr.refl _ w).alloc _).alloc _
  have HF0 := @Lib.hid _ hF0
  clear hF0
  rw [hb] at C7
  clear hb
  obtain ⟨p1, p2⟩ := prod_in h1 h2 h3 h4
  have HD : r * s + s - r * s = s := by omega
  have C4 := Lib.hid (fun w => of_any (tokN a) w (tokN_lt a))
  rw [ofN_tokN hx] at C4
  have C6 := Lib.hid (fun w => less_any a b w)
  have x1 : (((tokN a : Nat) : Int) == 0) = false := by rw [beq_eq_false_iff_ne]; omega
  have x2 : (((tokN a : Nat) : Int) != 0) = true := by rw [bne, x1]; rfl
  have y1 : (((tokN b : Nat) : Int) == 0) = false := by rw [beq_eq_false_iff_ne]; omega
  have y2 : (((tokN b : Nat) : Int) != 0) = true := by rw [bne, y1]; rfl
  have hL : decide (tokN a < tokN b) = lessB a b := tokN_less hx hy
  clear hx hy
  generalize lessB a b = L at *
  have l1 : (L == L) = true := by cases L <;> rfl
  generalize tokN a = x at *
  generalize tokN b = y at *
  obtain ⟨f, r1, e, t⟩ := a
  obtain ⟨f', r', e', t'⟩ := b
  simp only [Tok.cs] at *
  go_enter Try.func5, Try.ntmps5
  go_wp2_with fail
  refine (C1.out _).mono ?_; rintro e9 w1 ⟨rfl, hf1⟩
  have hA := (T2.out w).1.fr hf1 (fun h => h)
  have hB := (T2.out w).2.fr hf1 (fun h => h)
  have hF := (HF0.out w).trans hf1 (fun _ _ h => h)
  clear hf1 T2 HF0
  generalize w.heap.size = g at *
  have H1 := hA; have H2 := hB
  obtain ⟨m0, m1, m2, m3⟩ := H1
  obtain ⟨n0, n1, n2, n3⟩ := H2
  go_wp2_with fail
  refine (C2.out _).mono ?_; rintro e9 w2 ⟨rfl, hf2⟩
  have hA := hA.fr hf2 (fun h => h)
  have hB := hB.fr hf2 (fun h => h)
  have hF := hF.trans hf2 (fun _ _ h => h)
  clear hf2 m0 m1 m2 m3 n0 n1 n2 n3
  have H1 := hA; have H2 := hB
  obtain ⟨m0, m1, m2, m3⟩ := H1
  obtain ⟨n0, n1, n2, n3⟩ := H2
  go_wp2_with fail
  refine (C3.out _).mono ?_; rintro e9 w3 ⟨rfl, hf3⟩
  have hA := hA.fr hf3 (fun h => h)
  have hB := hB.fr hf3 (fun h => h)
  have hF := hF.trans hf3 (fun _ _ h => h)
  clear hf3 m0 m1 m2 m3 n0 n1 n2 n3
  have q1 : (f == f) = true := by simp
  have q2 : (r1 == r1) = true := by simp
  have q3 : (e == e) = true := by simp
  have q4 : (t == t) = true := by simp
  go_wp2_with fail
  refine (C4.out _).mono ?_; rintro e9 w4 ⟨rfl, hf4⟩
  have hA := hA.fr hf4 (fun h => h)
  have hB := hB.fr hf4 (fun h => h)
  have hF := hF.trans hf4 (fun _ _ h => h)
  clear hf4
  have H1 := hA; have H2 := hB
  obtain ⟨m0, m1, m2, m3⟩ := H1
  obtain ⟨n0, n1, n2, n3⟩ := H2
  have z1 : g < w4.heap.size := hA.lt
  have z2 : g + 1 < w4.heap.size := hB.lt
  go_wp2_with fail
  refine (C6.out _).mono ?_; rintro e9 w5 ⟨rfl, hf5⟩
  have hF := (hF.alloc _).trans hf5 (fun _ _ h => h)
  clear hf5 m0 m1 m2 m3 n0 n1 n2 n3 hA hB z1 z2
  go_wp2_with fail
  refine (C7.out _).mono ?_; rintro e9 w9 ⟨rfl, rfl⟩
  go_wp2
  go_ret
  exact ⟨rfl, hF⟩

set_option maxRecDepth 100000 in
set_option maxHeartbeats 4000000 in
theorem back_02 (a b : Tok) (r s k : Int) (w : World) (hx : tokN a = 0) (h1 : 0 ≤ r) (h2 : r ≤ 1099511627776) (h3 : 1 ≤ s) (h4 : s ≤ 1048576) (hb : blockOf r s = (r * s, r * s + s, 0)) (hn : 0 ≤ k) (hk : k ≤ 9223372036854775807) :
    Calls Try.prog 5 #[.agg a.cs, .agg b.cs, .int .i64 r, .int .i64 s, .int .i64 k] w fun e w' => e = .returned (.bool true) ∧ Fr (fun _ => False) w w' := by
  have C1 := Lib.hid (fun w => known_any w)
  have C2 := Lib.hid (fun w => token_any a w)
  have C3 := Lib.hid (fun w => token_any b w)
  have C7 := Lib.hid (fun w => block_any r s w)
  have T2 := Lib.hid (fun w => two_new w a b)
  have hF0 : ∀ w, Fr (fun _ => False) w ((w.alloc (.cells a.cs 38)).alloc (.cells b.cs 38)) := fun w => ((Fr.refl _ w).alloc _).alloc _
  have HF0 := @Lib.hid _ hF0
  clear hF0
  rw [hb] at C7
  clear hb
  obtain ⟨p1, p2⟩ := prod_in h1 h2 h3 h4
  have HD : r * s + s - r * s = s := by omega
  have j1 := Int.emod_nonneg k (show s ≠ 0 by omega)
  have j2 := Int.emod_lt_of_pos k (show 0 < s by omega)
  have C8 := Lib.hid (fun w => owner_any (r * s + k % s) s w (by omega))
  rw [owner_in h1 h2 h3 h4] at C8
  rw [hx] at C2
  generalize tokN b = y at *
  obtain ⟨f, r1, e, t⟩ := a
  obtain ⟨f', r', e', t'⟩ := b
  simp only [Tok.cs] at *
  go_enter Try.func5, Try.ntmps5
  go_wp2_with fail
  refine (C1.out _).mono ?_; rintro e9 w1 ⟨rfl, hf1⟩
  have hA := (T2.out w).1.fr hf1 (fun h => h)
  have hB := (T2.out w).2.fr hf1 (fun h => h)
  have hF := (HF0.out w).trans hf1 (fun _ _ h => h)
  clear hf1 T2 HF0
  generalize w.heap.size = g at *
  have H1 := hA; have H2 := hB
  obtain ⟨m0, m1, m2, m3⟩ := H1
  obtain ⟨n0, n1, n2, n3⟩ := H2
  go_wp2_with fail
  refine (C2.out _).mono ?_; rintro e9 w2 ⟨rfl, hf2⟩
  have hA := hA.fr hf2 (fun h => h)
  have hB := hB.fr hf2 (fun h => h)
  have hF := hF.trans hf2 (fun _ _ h => h)
  clear hf2 m0 m1 m2 m3 n0 n1 n2 n3
  have H1 := hA; have H2 := hB
  obtain ⟨m0, m1, m2, m3⟩ := H1
  obtain ⟨n0, n1, n2, n3⟩ := H2
  go_wp2_with fail
  refine (C3.out _).mono ?_; rintro e9 w3 ⟨rfl, hf3⟩
  have hA := hA.fr hf3 (fun h => h)
  have hB := hB.fr hf3 (fun h => h)
  have hF := hF.trans hf3 (fun _ _ h => h)
  clear hf3 m0 m1 m2 m3 n0 n1 n2 n3
  go_wp2_with fail
  refine (C7.out _).mono ?_; rintro e9 w9 ⟨rfl, rfl⟩
  go_wp2_with fail
  refine (C8.out _).mono ?_; rintro e9 w9 ⟨rfl, rfl⟩
  go_wp2
  go_ret
  exact ⟨rfl, hF⟩

set_option maxRecDepth 100000 in
set_option maxHeartbeats 4000000 in
theorem back_12 (a b : Tok) (r s k : Int) (w : World) (hx : tokN a ≠ 0) (hy : tokN b = 0) (h1 : 0 ≤ r) (h2 : r ≤ 1099511627776) (h3 : 1 ≤ s) (h4 : s ≤ 1048576) (hb : blockOf r s = (r * s, r * s + s, 0)) (hn : 0 ≤ k) (hk : k ≤ 9223372036854775807) :
    Calls Try.prog 5 #[.agg a.cs, .agg b.cs, .int .i64 r, .int .i64 s, .int .i64 k] w fun e w' => e = .returned (.bool true) ∧ Fr (fun _ => False) w w' := by
  have C1 := Lib.hid (fun w => known_any w)
  have C2 := Lib.hid (fun w => token_any a w)
  have C3 := Lib.hid (fun w => token_any b w)
  have C7 := Lib.hid (fun w => block_any r s w)
  have T2 := Lib.hid (fun w => two_new w a b)
  have hF0 : ∀ w, Fr (fun _ => False) w ((w.alloc (.cells a.cs 38)).alloc (.cells b.cs 38)) := fun w => ((Fr.refl _ w).alloc _).alloc _
  have HF0 := @Lib.hid _ hF0
  clear hF0
  rw [hb] at C7
  clear hb
  obtain ⟨p1, p2⟩ := prod_in h1 h2 h3 h4
  have HD : r * s + s - r * s = s := by omega
  have j1 := Int.emod_nonneg k (show s ≠ 0 by omega)
  have j2 := Int.emod_lt_of_pos k (show 0 < s by omega)
  have C8 := Lib.hid (fun w => owner_any (r * s + k % s) s w (by omega))
  rw [owner_in h1 h2 h3 h4] at C8
  have C4 := Lib.hid (fun w => of_any (tokN a) w (tokN_lt a))
  rw [ofN_tokN hx] at C4
  have x1 : (((tokN a : Nat) : Int) == 0) = false := by rw [beq_eq_false_iff_ne]; omega
  have x2 : (((tokN a : Nat) : Int) != 0) = true := by rw [bne, x1]; rfl
  rw [hy] at C3
  clear hx
  generalize tokN a = x at *
  obtain ⟨f, r1, e, t⟩ := a
  obtain ⟨f', r', e', t'⟩ := b
  simp only [Tok.cs] at *
  go_enter Try.func5, Try.ntmps5
  go_wp2_with fail
  refine (C1.out _).mono ?_; rintro e9 w1 ⟨rfl, hf1⟩
  have hA := (T2.out w).1.fr hf1 (fun h => h)
  have hB := (T2.out w).2.fr hf1 (fun h => h)
  have hF := (HF0.out w).trans hf1 (fun _ _ h => h)
  clear hf1 T2 HF0
  generalize w.heap.size = g at *
  have H1 := hA; have H2 := hB
  obtain ⟨m0, m1, m2, m3⟩ := H1
  obtain ⟨n0, n1, n2, n3⟩ := H2
  go_wp2_with fail
  refine (C2.out _).mono ?_; rintro e9 w2 ⟨rfl, hf2⟩
  have hA := hA.fr hf2 (fun h => h)
  have hB := hB.fr hf2 (fun h => h)
  have hF := hF.trans hf2 (fun _ _ h => h)
  clear hf2 m0 m1 m2 m3 n0 n1 n2 n3
  have H1 := hA; have H2 := hB
  obtain ⟨m0, m1, m2, m3⟩ := H1
  obtain ⟨n0, n1, n2, n3⟩ := H2
  go_wp2_with fail
  refine (C3.out _).mono ?_; rintro e9 w3 ⟨rfl, hf3⟩
  have hA := hA.fr hf3 (fun h => h)
  have hB := hB.fr hf3 (fun h => h)
  have hF := hF.trans hf3 (fun _ _ h => h)
  clear hf3 m0 m1 m2 m3 n0 n1 n2 n3
  have q1 : (f == f) = true := by simp
  have q2 : (r1 == r1) = true := by simp
  have q3 : (e == e) = true := by simp
  have q4 : (t == t) = true := by simp
  go_wp2_with fail
  refine (C4.out _).mono ?_; rintro e9 w4 ⟨rfl, hf4⟩
  have hA := hA.fr hf4 (fun h => h)
  have hB := hB.fr hf4 (fun h => h)
  have hF := hF.trans hf4 (fun _ _ h => h)
  clear hf4
  have H1 := hA; have H2 := hB
  obtain ⟨m0, m1, m2, m3⟩ := H1
  obtain ⟨n0, n1, n2, n3⟩ := H2
  have z1 : g < w4.heap.size := hA.lt
  have z2 : g + 1 < w4.heap.size := hB.lt
  go_wp2_with fail
  refine (C7.out _).mono ?_; rintro e9 w9 ⟨rfl, rfl⟩
  go_wp2_with fail
  refine (C8.out _).mono ?_; rintro e9 w9 ⟨rfl, rfl⟩
  go_wp2
  go_ret
  exact ⟨rfl, hF.alloc _⟩

set_option maxRecDepth 100000 in
set_option maxHeartbeats 4000000 in
theorem back_22 (a b : Tok) (r s k : Int) (w : World) (hx : tokN a ≠ 0) (hy : tokN b ≠ 0) (h1 : 0 ≤ r) (h2 : r ≤ 1099511627776) (h3 : 1 ≤ s) (h4 : s ≤ 1048576) (hb : blockOf r s = (r * s, r * s + s, 0)) (hn : 0 ≤ k) (hk : k ≤ 9223372036854775807) :
    Calls Try.prog 5 #[.agg a.cs, .agg b.cs, .int .i64 r, .int .i64 s, .int .i64 k] w fun e w' => e = .returned (.bool true) ∧ Fr (fun _ => False) w w' := by
  have C1 := Lib.hid (fun w => known_any w)
  have C2 := Lib.hid (fun w => token_any a w)
  have C3 := Lib.hid (fun w => token_any b w)
  have C7 := Lib.hid (fun w => block_any r s w)
  have T2 := Lib.hid (fun w => two_new w a b)
  have hF0 : ∀ w, Fr (fun _ => False) w ((w.alloc (.cells a.cs 38)).alloc (.cells b.cs 38)) := fun w => ((Fr.refl _ w).alloc _).alloc _
  have HF0 := @Lib.hid _ hF0
  clear hF0
  rw [hb] at C7
  clear hb
  obtain ⟨p1, p2⟩ := prod_in h1 h2 h3 h4
  have HD : r * s + s - r * s = s := by omega
  have j1 := Int.emod_nonneg k (show s ≠ 0 by omega)
  have j2 := Int.emod_lt_of_pos k (show 0 < s by omega)
  have C8 := Lib.hid (fun w => owner_any (r * s + k % s) s w (by omega))
  rw [owner_in h1 h2 h3 h4] at C8
  have C4 := Lib.hid (fun w => of_any (tokN a) w (tokN_lt a))
  rw [ofN_tokN hx] at C4
  have C6 := Lib.hid (fun w => less_any a b w)
  have x1 : (((tokN a : Nat) : Int) == 0) = false := by rw [beq_eq_false_iff_ne]; omega
  have x2 : (((tokN a : Nat) : Int) != 0) = true := by rw [bne, x1]; rfl
  have y1 : (((tokN b : Nat) : Int) == 0) = false := by rw [beq_eq_false_iff_ne]; omega
  have y2 : (((tokN b : Nat) : Int) != 0) = true := by rw [bne, y1]; rfl
  have hL : decide (tokN a < tokN b) = lessB a b := tokN_less hx hy
  clear hx hy
  generalize lessB a b = L at *
  have l1 : (L == L) = true := by cases L <;> rfl
  generalize tokN a = x at *
  generalize tokN b = y at *
  obtain ⟨f, r1, e, t⟩ := a
  obtain ⟨f', r', e', t'⟩ := b
  simp only [Tok.cs] at *
  go_enter Try.func5, Try.ntmps5
  go_wp2_with fail
  refine (C1.out _).mono ?_; rintro e9 w1 ⟨rfl, hf1⟩
  have hA := (T2.out w).1.fr hf1 (fun h => h)
  have hB := (T2.out w).2.fr hf1 (fun h => h)
  have hF := (HF0.out w).trans hf1 (fun _ _ h => h)
  clear hf1 T2 HF0
  generalize w.heap.size = g at *
  have H1 := hA; have H2 := hB
  obtain ⟨m0, m1, m2, m3⟩ := H1
  obtain ⟨n0, n1, n2, n3⟩ := H2
  go_wp2_with fail
  refine (C2.out _).mono ?_; rintro e9 w2 ⟨rfl, hf2⟩
  have hA := hA.fr hf2 (fun h => h)
  have hB := hB.fr hf2 (fun h => h)
  have hF := hF.trans hf2 (fun _ _ h => h)
  clear hf2 m0 m1 m2 m3 n0 n1 n2 n3
  have H1 := hA; have H2 := hB
  obtain ⟨m0, m1, m2, m3⟩ := H1
  obtain ⟨n0, n1, n2, n3⟩ := H2
  go_wp2_with fail
  refine (C3.out _).mono ?_; rintro e9 w3 ⟨rfl, hf3⟩
  have hA := hA.fr hf3 (fun h => h)
  have hB := hB.fr hf3 (fun h => h)
  have hF := hF.trans hf3 (fun _ _ h => h)
  clear hf3 m0 m1 m2 m3 n0 n1 n2 n3
  have q1 : (f == f) = true := by simp
  have q2 : (r1 == r1) = true := by simp
  have q3 : (e == e) = true := by simp
  have q4 : (t == t) = true := by simp
  go_wp2_with fail
  refine (C4.out _).mono ?_; rintro e9 w4 ⟨rfl, hf4⟩
  have hA := hA.fr hf4 (fun h => h)
  have hB := hB.fr hf4 (fun h => h)
  have hF := hF.trans hf4 (fun _ _ h => h)
  clear hf4
  have H1 := hA; have H2 := hB
  obtain ⟨m0, m1, m2, m3⟩ := H1
  obtain ⟨n0, n1, n2, n3⟩ := H2
  have z1 : g < w4.heap.size := hA.lt
  have z2 : g + 1 < w4.heap.size := hB.lt
  go_wp2_with fail
  refine (C6.out _).mono ?_; rintro e9 w5 ⟨rfl, hf5⟩
  have hF := (hF.alloc _).trans hf5 (fun _ _ h => h)
  clear hf5 m0 m1 m2 m3 n0 n1 n2 n3 hA hB z1 z2
  go_wp2_with fail
  refine (C7.out _).mono ?_; rintro e9 w9 ⟨rfl, rfl⟩
  go_wp2_with fail
  refine (C8.out _).mono ?_; rintro e9 w9 ⟨rfl, rfl⟩
  go_wp2
  go_ret
  exact ⟨rfl, hF⟩

theorem back_any (a b : Tok) (r s k : Int) (w : World) (hk : k ≤ 9223372036854775807) :
    Calls Try.prog 5 #[.agg a.cs, .agg b.cs, .int .i64 r, .int .i64 s, .int .i64 k] w fun e w' => e = .returned (.bool true) ∧ Fr (fun _ => False) w w' := by
  rcases blockOf_cases r s with hb | ⟨h1, h2, h3, h4, hb⟩
  · by_cases hx : tokN a = 0
    · exact back_00 a b r s k w hx hb
    · by_cases hy : tokN b = 0
      · exact back_10 a b r s k w hx hy hb
      · exact back_20 a b r s k w hx hy hb
  · by_cases hn : k < 0
    · by_cases hx : tokN a = 0
      · exact back_01 a b r s k w hx h1 h2 h3 h4 hb hn
      · by_cases hy : tokN b = 0
        · exact back_11 a b r s k w hx hy h1 h2 h3 h4 hb hn
        · exact back_21 a b r s k w hx hy h1 h2 h3 h4 hb hn
    · have hn : 0 ≤ k := by omega
      by_cases hx : tokN a = 0
      · exact back_02 a b r s k w hx h1 h2 h3 h4 hb hn hk
      · by_cases hy : tokN b = 0
        · exact back_12 a b r s k w hx hy h1 h2 h3 h4 hb hn hk
        · exact back_22 a b r s k w hx hy h1 h2 h3 h4 hb hn hk
end Go.Proofs.Ytjgccgfabacbkaa
