/- slices.nextPowerOfTwo, xorshift.Next, breakPatternsCmpFunc (no comparison is called). -/
import Derived.Test.YtholaofgdahcbaaWh
import Derived.Test.YtholaofgdahcbaaFs
import Derived.Sort.Walk7
namespace Go.Proofs.Ytholaofgdahcbaa
open Go.RowKit Go.Maps Go.Sort

/-- A world of the sort, a generator's state beside it. -/
structure SX (w0 : World) (d g b n : Nat) (now : Int) (D : DataW Unit) (tl : List Value) (dk : Array Int) (c X : Nat) (w : World) : Prop where
  sr : SR w0 d g b n now D tl dk w
  ct : Bk w c 72 #[.int .u64 (X : Int)]
  cd : c ≠ d
  cg : ¬ CS g (some b) c
  new : w0.heap.size ≤ c
section
variable {w0 w w' : World} {d g b n c X : Nat} {now : Int} {D : DataW Unit} {tl : List Value} {dk : Array Int}
theorem SX.cell (h : SX w0 d g b n now D tl dk c X w) (i : Nat) (hi : i < dk.size) : w.cell? ⟨d, i, none⟩ = some (.int .i64 dk[i]!) := h.sr.cell i hi
theorem SX.frozen (h : SX w0 d g b n now D tl dk c X w) (i : Nat) : w.frozen? ⟨d, i, none⟩ = false := h.sr.frozen i
theorem SX.ok (h : SX w0 d g b n now D tl dk c X w) : ∀ i, i < dk.size → I64 dk[i]! := h.sr.ok
theorem SX.second (h : SX w0 d g b n now D tl dk c X w) (i j : Nat) (hi : i < dk.size) (hj : j < dk.size) (z : Int) (hz : I64 z) :
    ∃ u, (w.setCell ⟨d, i, none⟩ (.int .i64 z)).cell? ⟨d, j, none⟩ = some u := h.sr.second i j hi hj z hz
theorem SX.swap (h : SX w0 d g b n now D tl dk c X w) (i j : Nat) (hi : i < dk.size) (hj : j < dk.size) :
    SX w0 d g b n now D tl (swp dk i j) c X ((w.setCell ⟨d, i, none⟩ (.int .i64 dk[j]!)).setCell ⟨d, j, none⟩ (.int .i64 dk[i]!)).drew := by
  have f1 : Fr (fun k => k = d) w (w.setCell ⟨d, i, none⟩ (.int .i64 dk[j]!)) := Fr.setCell (S := fun k => k = d) (Fr.refl _ _) (fun _ => rfl) _
  have f2 := f1.setCell (p := ⟨d, j, none⟩) (fun _ => rfl) (.int .i64 dk[i]!)
  exact ⟨h.sr.swap i j hi hj, h.ct.fr f2.drew (fun e => h.cd e), h.cd, h.cg, h.new⟩
theorem SX.nx (h : SX w0 d g b n now D tl dk c X w) {X' : Nat} (hf : Fr (fun k => k = c) w w') (hb : Bk w' c 72 #[.int .u64 (X' : Int)]) : SX w0 d g b n now D tl dk c X' w' :=
  ⟨⟨h.sr.clk.fr hf (fun k hk e => h.cg (e ▸ hk)), h.sr.bk.fr hf (fun e => h.cd e.symm), h.sr.fr.trans hf (fun x hx e => by have h1 : x = c := e; have h2 := h.new; omega), h.sr.gd, h.sr.ok⟩, hb, h.cd, h.cg, h.new⟩
theorem SX.start (h : SR w0 d g b n now D tl dk w) (X : Nat) : SX w0 d g b n now D tl dk w.heap.size X (w.alloc (.cells #[.int .u64 (X : Int)] 72)) := by
  have hd := h.bk.lt
  have hg := h.clk.1.lt
  refine ⟨h.on ((Fr.refl _ _).alloc _), Bk.new _ _ _, by omega, fun e => ?_, h.fr.size⟩
  rcases e with e | e
  · omega
  · rcases h.clk.2 with ⟨e2, _⟩ | ⟨b', e2, ha⟩
    · cases e2
    · injection e with e; injection e2 with e2; have := ha.lt; omega
end

theorem npot_any (L M : Nat) (h1 : (L : Int) ≤ 4611686018427387903) (hM : 1 <<< bitsLen L = M) (w : World) :
    Calls Try.prog 45 #[.int .i64 (L : Int)] w fun e w' => e = .returned (.int .u64 (M : Int)) ∧ w' = w := by
  have hb : bitsLen L ≤ 62 := by rw [bitsLen_le_iff]; omega
  have C := Lib.hid (fun w => show Calls Try.prog 28 #[.int .u64 (L : Int)] w fun e w' => e = .returned (.int .i64 (bitsLen L : Nat)) ∧ w' = w from by
    have := Try.bits_Len (L : Int) w (by omega) (by omega)
    rwa [Int.toNat_natCast, bitLen_eq _ (by omega)] at this)
  have hp := wrap_two_pow (bitsLen L) hb
  rw [hM] at hp
  clear hM
  have hwu : IntKind.u64.wrap (L : Int) = (L : Int) := by rw [IntKind.wrap_u64]; omega
  generalize bitsLen L = k at *
  have hk0 : (0 : Int) ≤ (k : Int) := by omega
  go_enter Try.func45, Try.ntmps45
  go_wp2_with fail
  refine (C.out _).mono ?_; rintro e w1 ⟨rfl, rfl⟩
  go_wp2
  go_ret
  exact ⟨rfl, rfl⟩

set_option maxRecDepth 100000 in
set_option maxHeartbeats 2000000 in
theorem xnext_any (c X : Nat) (hX : X < 18446744073709551616) (w : World) (h : Bk w c 72 #[.int .u64 (X : Int)]) :
    Calls Try.prog 46 #[.pointer (some ⟨c, 0, none⟩)] w fun e w' => e = .returned (.int .u64 (xorNextN X : Nat)) ∧ Fr (fun k => k = c) w w' ∧ Bk w' c 72 #[.int .u64 (xorNextN X : Nat)] := by
  obtain ⟨A, hA⟩ : ∃ A : Nat, A = X ^^^ (X * 8192 % 18446744073709551616) := ⟨_, rfl⟩
  obtain ⟨B, hB⟩ : ∃ B : Nat, B = A ^^^ (A / 128) := ⟨_, rfl⟩
  obtain ⟨C, hC⟩ : ∃ C : Nat, C = B ^^^ (B * 131072 % 18446744073709551616) := ⟨_, rfl⟩
  have lA : A < 18446744073709551616 := by rw [hA]; exact Nat.xor_lt_two_pow (n := 64) (by omega) (by omega)
  have lB : B < 18446744073709551616 := by rw [hB]; exact Nat.xor_lt_two_pow (n := 64) (by omega) (by omega)
  have e1 : bits .xor .u64 (X : Int) (IntKind.u64.wrap ((X : Int) * 8192)) = (A : Int) := by
    rw [IntKind.wrap_u64, show ((X : Int) * 8192 % 18446744073709551616) = ((X * 8192 % 18446744073709551616 : Nat) : Int) by omega, bits_xor_u64_nat _ _ hX (by omega), hA]
  have e2 : bits .xor .u64 (A : Int) ((A : Int) / 128) = (B : Int) := by
    rw [show ((A : Int) / 128) = ((A / 128 : Nat) : Int) by omega, bits_xor_u64_nat _ _ lA (by omega), hB]
  have e3 : bits .xor .u64 (B : Int) (IntKind.u64.wrap ((B : Int) * 131072)) = (C : Int) := by
    rw [IntKind.wrap_u64, show ((B : Int) * 131072 % 18446744073709551616) = ((B * 131072 % 18446744073709551616 : Nat) : Int) by omega, bits_xor_u64_nat _ _ lB (by omega), hC]
  have hv : xorNextN X = C := by unfold xorNextN; simp only []; rw [← hA, ← hB, ← hC]
  rw [hv]
  clear hA hB hC hv hX lA lB
  have HST := Lib.hid (fun (w : World) (Y Z : Nat) (h : Bk w c 72 #[.int .u64 (Y : Int)]) => show Fr (fun k => k = c) w (w.setCell ⟨c, 0, none⟩ (.int .u64 (Z : Int))).drew ∧ Bk (w.setCell ⟨c, 0, none⟩ (.int .u64 (Z : Int))).drew c 72 #[.int .u64 (Z : Int)] from
    ⟨(Fr.setCell (S := fun k => k = c) (Fr.refl _ _) (fun _ => rfl) _).drew, by
      have h2 := h.set 0 (.int .u64 (Z : Int))
      exact (show Bk (w.setCell ⟨c, 0, none⟩ (.int .u64 (Z : Int))) c 72 #[.int .u64 (Z : Int)] from by simpa using h2).fr ((Fr.refl (fun _ => False) _).drew) (fun h => h)⟩)
  have c0 := h.cell 0
  have f0 := h.frozen 0
  simp at c0
  have H1 := Lib.hid (HST.out w X A h)
  clear h
  have mixed := Try.mixed
  go_enter Try.func46, Try.ntmps46
  go_wp2_with fail
  go_big_region_o
  generalize (w.setCell ⟨c, 0, none⟩ (.int .u64 (A : Int))).drew = w1 at *
  clear c0 f0
  obtain ⟨fr1, b1⟩ := H1.out
  have c0 := b1.cell 0
  have f0 := b1.frozen 0
  simp at c0
  have H2 := Lib.hid (HST.out w1 A B b1)
  have HF1 := Lib.hid fr1
  clear H1 fr1 b1
  go_wp2_with fail
  go_big_region_o
  generalize (w1.setCell ⟨c, 0, none⟩ (.int .u64 (B : Int))).drew = w2 at *
  clear c0 f0
  obtain ⟨fr1, b1⟩ := H2.out
  have c0 := b1.cell 0
  have f0 := b1.frozen 0
  simp at c0
  have H3 := Lib.hid (HST.out w2 B C b1)
  have HF2 := Lib.hid (HF1.out.trans fr1 (fun _ _ e => e))
  clear H2 fr1 b1 HF1
  go_wp2_with fail
  go_big_region_o
  generalize (w2.setCell ⟨c, 0, none⟩ (.int .u64 (C : Int))).drew = w3 at *
  clear c0 f0
  obtain ⟨fr1, b1⟩ := H3.out
  have c0 := b1.cell 0
  simp at c0
  have HB := Lib.hid b1
  have HF3 := Lib.hid (HF2.out.trans fr1 (fun _ _ e => e))
  clear H3 fr1 b1 HF2
  go_wp2
  go_ret
  exact ⟨rfl, HF3.out, HB.out⟩

set_option maxRecDepth 100000 in
set_option maxHeartbeats 2000000 in
theorem brk_long (w0 : World) (d cap g b n : Nat) (now : Int) (D : DataW Unit) (tl : List Value) (a L N : Nat) (dk : Array Int) (w : World) (h : SR w0 d g b n now D tl dk w) (hN : dk.size = N) (h1 : 8 ≤ L) (h2 : a + L ≤ N) (h3 : (N : Int) ≤ 4611686018427387903) :
    Calls Try.prog 34 #[.slice (some ⟨d, 0, none⟩) N cap, .int .i64 a, .int .i64 ((a + L : Nat) : Int), cmpF g] w fun e w' => e = .returned (.tuple #[]) ∧ SR w0 d g b n now D tl (breakPatterns dk a (a + L)) w' := by
  have H0 := Lib.hid (SX.start h L)
  obtain ⟨c, hc⟩ : ∃ c, w.heap.size = c := ⟨_, rfl⟩
  obtain ⟨W, hW⟩ : ∃ W, w.alloc (.cells #[.int .u64 (L : Int)] 72) = W := ⟨_, rfl⟩
  rw [hc, hW] at H0
  obtain ⟨M, hM⟩ : ∃ M : Nat, 1 <<< bitsLen L = M := ⟨_, rfl⟩
  have hM1 : 1 ≤ M := by rw [← hM, Nat.one_shiftLeft]; exact Nat.two_pow_pos _
  have hM2 : M ≤ 2 * L := by rw [← hM, Nat.one_shiftLeft]; exact two_pow_bitsLen_le (by omega)
  have CN := Lib.hid (fun w => npot_any L M (by omega) hM w)
  obtain ⟨q, hq⟩ : ∃ q, L / 4 = q := ⟨_, rfl⟩
  obtain ⟨i0, hi0⟩ : ∃ i, a + q * 2 - 1 = i := ⟨_, rfl⟩
  have hbe : breakPatterns dk a (a + L) = bpRest a L M i0 3 0 (UInt64.ofNat L, dk) := by rw [breakPatterns_eq dk a L h1, hM, hq, hi0]
  have hLU : (UInt64.ofNat L).toNat = L := by simp; omega
  have HSTART := Lib.hid (show SX w0 d g b n now D tl dk c (UInt64.ofNat L).toNat W from by rw [hLU]; exact H0.out)
  have HN := Lib.hid hN
  have HBE := Lib.hid hbe.symm
  have hql : 4 * q ≤ L := by omega
  have hql2 : L < 4 * q + 4 := by omega
  have hi1 : a + 2 * q ≤ i0 + 1 := by omega
  have hi2 : i0 + 1 ≤ a + 2 * q := by omega
  have e1 : ((a + L : Nat) : Int) - (a : Int) = (L : Int) := by omega
  have e1' : (a : Int) + (L : Int) - (a : Int) = (L : Int) := by omega
  have e2 : IntKind.i64.wrap (L : Int) = (L : Int) := IntWalk.i64_in _ (by omega)
  have e3 : IntKind.u64.wrap (L : Int) = (L : Int) := by rw [IntKind.wrap_u64]; omega
  have ht : (L : Int).tdiv 4 = (q : Int) := by rw [Int.tdiv_eq_ediv_of_nonneg (by omega)]; omega
  have ht2 : (L : Int) / 4 = (q : Int) := by omega
  obtain ⟨q2, hq2⟩ : ∃ z, 2 * q = z := ⟨_, rfl⟩
  rw [hq2] at hi1 hi2
  have m2 : (q : Int) * 2 = (q2 : Int) := by omega
  have v2 : IntKind.i64.wrap (q2 : Int) = (q2 : Int) := IntWalk.i64_in _ (by omega)
  have s2 : IntKind.i64.wrap ((a : Int) + (q2 : Int)) = (a : Int) + (q2 : Int) := IntWalk.i64_in _ (by omega)
  have s3 : IntKind.i64.wrap ((a : Int) + (q2 : Int) - 1) = (i0 : Int) := by rw [show (a : Int) + (q2 : Int) - 1 = (i0 : Int) by omega]; exact IntWalk.i64_in _ (by omega)
  have s3' : (a : Int) + (q2 : Int) - 1 = (i0 : Int) := by omega
  have s4 : IntKind.i64.wrap ((a : Int) + (q2 : Int) + 1) = (a : Int) + (q2 : Int) + 1 := IntWalk.i64_in _ (by omega)
  have l8 : (8 : Int) ≤ (L : Int) := by omega
  obtain ⟨M1, hM3⟩ : ∃ M1, M - 1 = M1 := ⟨_, rfl⟩
  have mm : (M : Int) - 1 = (M1 : Int) := by omega
  have mw : IntKind.u64.wrap (M1 : Int) = (M1 : Int) := by rw [IntKind.wrap_u64]; omega
  have HM3 := Lib.hid hM3
  have q2b : (q2 : Int) ≤ (L : Int) := by omega
  clear hM hq hi0 hbe h hN hLU H0 hM3 hq2
  unfold cmpF at *
  go_enter Try.func34, Try.ntmps34
  go_wp2_with fail
  clear hW hc
  refine (CN.out _).mono ?_; rintro e w1 ⟨rfl, rfl⟩
  clear CN
  go_wp2_with fail
  go_loopw [11] (fun vi wr => ∃ (xi t : Nat) (r : UInt64) (dj : Array Int), vi = .int .i64 xi ∧ xi ≤ i0 + t ∧ i0 + t ≤ xi ∧ t ≤ 3 ∧ Hid (dj.size = N) ∧ Hid (SX w0 d g b n now D tl dj c r.toNat wr) ∧ Hid (bpRest a L M i0 (3 - t) t (r, dj) = breakPatterns dk a (a + L))) (fun vi _ => i0 + 3 - (intOf vi).toNat)
  case atStart => exact ⟨i0, 0, UInt64.ofNat L, dk, rfl, by omega, by omega, by omega, HN, HSTART, HBE⟩
  case round =>
    obtain ⟨xi, t, r, dj, rfl, hx1, hx2, ht3, HDJ, HS, HR⟩ := hrel
    clear HN HSTART HBE
    by_cases htt : t < 3
    · have hxz : (xi : Int) ≤ (a : Int) + (q2 : Int) + 1 := by omega
      have HX := Lib.hid (show xi = i0 + t by omega)
      obtain ⟨X, hX⟩ : ∃ X, r.toNat = X := ⟨_, rfl⟩
      have lX : X < 18446744073709551616 := by rw [← hX]; exact r.toNat_lt
      obtain ⟨Y, hY⟩ : ∃ Y, xorNextN X = Y := ⟨_, rfl⟩
      have lY : Y < 18446744073709551616 := by rw [← hY]; exact xorNextN_lt X lX
      have hYn : (xorNext r).toNat = Y := by rw [xorNext_toNat, hX, hY]
      obtain ⟨O, hO⟩ : ∃ O, Y &&& M1 = O := ⟨_, rfl⟩
      have lO : O ≤ M1 := by rw [← hO]; exact Nat.and_le_right
      have eAnd : bits .and .u64 (Y : Int) (M1 : Int) = (O : Int) := by rw [bits_and_u64_nat _ _ lY (by omega), hO]
      have HO := Lib.hid (show (xorNext r).toNat &&& (M - 1) = O from by rw [hYn, HM3.out, hO])
      have HYN := Lib.hid hYn
      have CX := Lib.hid (xnext_any c X lX wr (by rw [← hX]; exact HS.out.ct))
      rw [hY] at CX
      have O1 : (O : Int) ≤ 9223372036854775807 := by omega
      have O2 : IntKind.i64.wrap (O : Int) = (O : Int) := IntWalk.i64_in _ (by omega)
      have O3 : O < 2 * L := by omega
      clear hX hY hYn hO lX lY
      go_wp2_with fail
      refine CX.out.mono ?_; rintro e w1 ⟨rfl, hf, hb⟩
      have HSX := Lib.hid (show SX w0 d g b n now D tl dj c (xorNext r).toNat w1 from by rw [HYN.out]; exact HS.out.nx hf hb)
      clear hf hb CX HS HYN
      by_cases hOL : L ≤ O
      · have hOz : (L : Int) ≤ (O : Int) := by omega
        have hOw : IntKind.i64.wrap ((O : Int) - (L : Int)) = (O : Int) - (L : Int) := IntWalk.i64_in _ (by omega)
        obtain ⟨p, hp⟩ : ∃ p, a + (O - L) = p := ⟨_, rfl⟩
        have ep : ((a : Int) + ((O : Int) - (L : Int))).toNat = p := by omega
        have ep1 : (0 : Int) ≤ (a : Int) + ((O : Int) - (L : Int)) := by omega
        have ep2 : (a : Int) + ((O : Int) - (L : Int)) < (N : Int) := by omega
        have ep3 : IntKind.i64.wrap ((a : Int) + ((O : Int) - (L : Int))) = (a : Int) + ((O : Int) - (L : Int)) := IntWalk.i64_in _ (by omega)
        have HP := Lib.hid hp
        have hpN : p < N := by omega
        clear hp
        have HQ := Lib.hid (show bpRest a L M i0 (3 - (t + 1)) (t + 1) (xorNext r, swp dj xi p) = breakPatterns dk a (a + L) from by
          rw [← HR.out, bp_step a L M i0 t r dj (O - L) (by omega) (by rw [HO.out, if_pos (by omega)]), ← HX.out, HP.out])
        clear HR HO
        have c1 := HSX.out
        have m0 := c1.cell xi (by have := HDJ.out; omega)
        have m1 := c1.cell p (by have := HDJ.out; omega)
        have f0 := c1.frozen xi
        have f1 := c1.frozen p
        obtain ⟨u, m2⟩ := c1.second xi p (by have := HDJ.out; omega) (by have := HDJ.out; omega) _ (c1.ok p (by have := HDJ.out; omega))
        have s1 := c1.swap xi p (by have := HDJ.out; omega) (by have := HDJ.out; omega)
        obtain ⟨x, hx⟩ : ∃ x, dj[xi]! = x := ⟨_, rfl⟩
        obtain ⟨y, hy⟩ : ∃ y, dj[p]! = y := ⟨_, rfl⟩
        simp only [hx, hy] at s1 m0 m1 m2
        have HS1 := Lib.hid s1
        have mixed := Try.mixed
        clear c1 hx hy s1 HSX
        go_wp2_with fail
        go_big_region_o
        clear m0 m1 m2 f0 f1 mixed
        generalize ((w1.setCell ⟨d, xi, none⟩ (.int .i64 y)).setCell ⟨d, p, none⟩ (.int .i64 x)).drew = v1 at *
        clear HX
        go_wp2
        go_roundw
        case rel => exact ⟨xi + 1, t + 1, xorNext r, swp dj xi p, by go_num, by omega, by omega, by omega, Lib.hid (by rw [size_swp]; exact HDJ.out), HS1, HQ⟩
        case measure => simp [intOf]; omega
      · have hOz : ¬ ((L : Int) ≤ (O : Int)) := by omega
        obtain ⟨p, hp⟩ : ∃ p, a + (O) = p := ⟨_, rfl⟩
        have ep : ((a : Int) + (O : Int)).toNat = p := by omega
        have ep1 : (0 : Int) ≤ (a : Int) + (O : Int) := by omega
        have ep2 : (a : Int) + (O : Int) < (N : Int) := by omega
        have ep3 : IntKind.i64.wrap ((a : Int) + (O : Int)) = (a : Int) + (O : Int) := IntWalk.i64_in _ (by omega)
        have HP := Lib.hid hp
        have hpN : p < N := by omega
        clear hp
        have HQ := Lib.hid (show bpRest a L M i0 (3 - (t + 1)) (t + 1) (xorNext r, swp dj xi p) = breakPatterns dk a (a + L) from by
          rw [← HR.out, bp_step a L M i0 t r dj (O) (by omega) (by rw [HO.out, if_neg (by omega)]), ← HX.out, HP.out])
        clear HR HO
        have c2 := HSX.out
        have m0 := c2.cell xi (by have := HDJ.out; omega)
        have m1 := c2.cell p (by have := HDJ.out; omega)
        have f0 := c2.frozen xi
        have f1 := c2.frozen p
        obtain ⟨u, m2⟩ := c2.second xi p (by have := HDJ.out; omega) (by have := HDJ.out; omega) _ (c2.ok p (by have := HDJ.out; omega))
        have s2 := c2.swap xi p (by have := HDJ.out; omega) (by have := HDJ.out; omega)
        obtain ⟨x, hx⟩ : ∃ x, dj[xi]! = x := ⟨_, rfl⟩
        obtain ⟨y, hy⟩ : ∃ y, dj[p]! = y := ⟨_, rfl⟩
        simp only [hx, hy] at s2 m0 m1 m2
        have HS2 := Lib.hid s2
        have mixed := Try.mixed
        clear c2 hx hy s2 HSX
        go_wp2_with fail
        go_big_region_o
        clear m0 m1 m2 f0 f1 mixed
        generalize ((w1.setCell ⟨d, xi, none⟩ (.int .i64 y)).setCell ⟨d, p, none⟩ (.int .i64 x)).drew = v2 at *
        clear HX
        go_wp2
        go_roundw
        case rel => exact ⟨xi + 1, t + 1, xorNext r, swp dj xi p, by go_num, by omega, by omega, by omega, Lib.hid (by rw [size_swp]; exact HDJ.out), HS2, HQ⟩
        case measure => simp [intOf]; omega
    · have htt3 : t = 3 := by omega
      have hxz : ¬ ((xi : Int) ≤ (a : Int) + (q2 : Int) + 1) := by omega
      have HE := Lib.hid (show SR w0 d g b n now D tl (breakPatterns dk a (a + L)) wr from by rw [← HR.out, htt3]; exact HS.out.sr)
      clear HR HS htt3
      go_wp2
      go_end0
      exact ⟨rfl, HE.out⟩
end Go.Proofs.Ytholaofgdahcbaa
