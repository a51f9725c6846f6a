/- slices.choosePivotCmpFunc under a clock's comparison. -/
import Derived.Test.YtholaofgdahcbaaWf
import Derived.Sort.LotD4
namespace Go.Proofs.Ytholaofgdahcbaa
open Go.RowKit Go.Maps Go.Sort

theorem SC.start {w0 w : World} {d g b n : Nat} {now : Int} {D : DataW Unit} {tl : List Value} {dk : Array Int} (h : SR w0 d g b n now D tl dk w) : SC w0 d g b n now D tl dk w.heap.size 0 (w.alloc (.cells #[.int .i64 0] 3)) := by
  have hd := h.bk.lt
  have hg := h.clk.1.lt
  refine ⟨h.on ((Fr.refl _ _).alloc _), Bk.new _ _ _, by omega, fun e => ?_, h.fr.size⟩
  rcases e with e | e
  · omega
  · rcases h.clk.2 with ⟨e2, _⟩ | ⟨b', e2, ha⟩
    · cases e2
    · injection e with e; injection e2 with e2; have := ha.lt; omega
theorem medadj_lt {lt : Int → Int → Bool} {dk : Array Int} {i s N : Nat} (h1 : 1 ≤ i) (h2 : i + 1 < N) : (medianAdjacent lt dk i s).1 < N ∧ (medianAdjacent lt dk i s).2 ≤ s + 3 := median_lt (by omega) (by omega) h2

set_option maxRecDepth 100000 in
set_option maxHeartbeats 2000000 in
theorem pivot_low (w0 : World) (d cap g b n : Nat) (now : Int) (D : DataW Unit) (tl : List Value) (a hi N : Nat) (dk : Array Int) (w : World) (h : SR w0 d g b n now D tl dk w) (hN : dk.size = N) (h2 : hi ≤ N) (h1 : a + 8 ≤ hi) (h50 : hi < a + 50) (h3 : (N : Int) ≤ 4611686018427387903) :
    Calls Try.prog 35 #[.slice (some ⟨d, 0, none⟩) N cap, .int .i64 a, .int .i64 hi, cmpF g] w fun e w' => e = .returned (.tuple #[.int .i64 ((choosePivot (ltC D) dk a hi).1 : Nat), .int .i64 (hintCode (choosePivot (ltC D) dk a hi).2)]) ∧ SR w0 d g b n now D tl dk w' := by
  have H0 := Lib.hid (SC.start h)
  obtain ⟨c, hc⟩ : ∃ c, w.heap.size = c := ⟨_, rfl⟩
  obtain ⟨W, hW⟩ : ∃ W, w.alloc (.cells #[.int .i64 0] 3) = W := ⟨_, rfl⟩
  rw [hc, hW] at H0
  obtain ⟨L, hL⟩ : ∃ L, hi - a = L := ⟨_, rfl⟩
  have hsub : (hi : Int) - (a : Int) = (L : Int) := by omega
  have hw1 : IntKind.i64.wrap (L : Int) = (L : Int) := IntWalk.i64_in _ (by omega)
  rw [choosePivot_eq]
  unfold rawPivot
  rw [hL]
  obtain ⟨q, hq⟩ : ∃ q, L / 4 = q := ⟨_, rfl⟩
  rw [hq]
  have ht : (L : Int).tdiv 4 = (q : Int) := by rw [Int.tdiv_eq_ediv_of_nonneg (by omega)]; omega
  have ht2 : (L : Int) / 4 = (q : Int) := by omega
  have hql : 4 * q ≤ L := by omega
  have hql2 : L < 4 * q + 4 := by omega
  have l8 : (8 : Int) ≤ (L : Int) := by omega
  rw [if_pos (show L ≥ 8 by omega)]
  have l50 : ¬ ((50 : Int) ≤ (L : Int)) := by omega
  have l50' : decide ((L : Int) ≥ 50) = false := decide_eq_false l50
  rw [if_neg (show ¬ L ≥ 50 by omega)]
  obtain ⟨i1, hi1⟩ : ∃ i, a + q * 1 = i := ⟨_, rfl⟩
  obtain ⟨i2, hi2⟩ : ∃ i, a + q * 2 = i := ⟨_, rfl⟩
  obtain ⟨i3, hi3⟩ : ∃ i, a + q * 3 = i := ⟨_, rfl⟩
  rw [hi1, hi2, hi3]
  have s1 : IntKind.i64.wrap ((a : Int) + (q : Int)) = (i1 : Int) := by rw [show ((a : Int) + (q : Int)) = (i1 : Int) by omega]; exact IntWalk.i64_in _ (by omega)
  have s1' : (a : Int) + (q : Int) = (i1 : Int) := by omega
  have m2 : (q : Int) * 2 = ((2 * q : Nat) : Int) := by omega
  have m3 : (q : Int) * 3 = ((3 * q : Nat) : Int) := by omega
  have v2 : IntKind.i64.wrap ((2 * q : Nat) : Int) = ((2 * q : Nat) : Int) := IntWalk.i64_in _ (by omega)
  have v3 : IntKind.i64.wrap ((3 * q : Nat) : Int) = ((3 * q : Nat) : Int) := IntWalk.i64_in _ (by omega)
  obtain ⟨q2, hq2⟩ : ∃ z, 2 * q = z := ⟨_, rfl⟩
  obtain ⟨q3, hq3⟩ : ∃ z, 3 * q = z := ⟨_, rfl⟩
  rw [hq2] at m2 v2
  rw [hq3] at m3 v3
  have s2 : IntKind.i64.wrap ((a : Int) + (q2 : Int)) = (i2 : Int) := by rw [show ((a : Int) + (q2 : Int)) = (i2 : Int) by omega]; exact IntWalk.i64_in _ (by omega)
  have s2' : (a : Int) + (q2 : Int) = (i2 : Int) := by omega
  have s3 : IntKind.i64.wrap ((a : Int) + (q3 : Int)) = (i3 : Int) := by rw [show ((a : Int) + (q3 : Int)) = (i3 : Int) by omega]; exact IntWalk.i64_in _ (by omega)
  have s3' : (a : Int) + (q3 : Int) = (i3 : Int) := by omega
  have C1 := median_any w0 d cap g b n now D tl i1 i2 i3 c 0 N dk W H0.out hN (by omega) (by omega) (by omega) (by omega) h3
  generalize median (ltC D) dk i1 i2 i3 0 = r at *
  obtain ⟨p, s⟩ := r
  simp only at *
  have C1 := Lib.hid C1
  clear h hN H0 hi1 hi2 hi3 hq hL hq2 hq3
  unfold cmpF at *
  go_enter Try.func35, Try.ntmps35
  go_wp2_with fail
  clear hW hc
  refine C1.out.mono ?_; rintro e w1 ⟨rfl, h1⟩
  have HSC := Lib.hid h1
  clear C1 h1
  have c0 := HSC.out.ct.cell 0
  simp at c0
  have HRES := Lib.hid HSC.out.sr
  clear HSC
  by_cases hs0 : s = 0
  · subst hs0
    go_wp2
    try simp only [Exit.inBlock, Exit.then]
    go_ret2
    exact ⟨rfl, HRES.out⟩
  · have e0 : ((s : Int) == 0) = false := by simp; omega
    by_cases hs12 : s = 12
    · subst hs12
      go_wp2
      try simp only [Exit.inBlock, Exit.then]
      go_ret2
      exact ⟨rfl, HRES.out⟩
    · have e12 : ((s : Int) == 12) = false := by simp; omega
      have HH := Lib.hid (show hintCode (hintOf s) = 0 from by unfold hintOf; rw [if_neg hs0, if_neg hs12]; rfl)
      clear hs0 hs12
      go_wp2
      try simp only [Exit.inBlock, Exit.then]
      go_ret2
      rw [HH.out]
      exact ⟨rfl, HRES.out⟩

set_option maxRecDepth 100000 in
set_option maxHeartbeats 2000000 in
theorem pivot_high (w0 : World) (d cap g b n : Nat) (now : Int) (D : DataW Unit) (tl : List Value) (a hi N : Nat) (dk : Array Int) (w : World) (h : SR w0 d g b n now D tl dk w) (hN : dk.size = N) (h2 : hi ≤ N) (h50 : a + 50 ≤ hi) (h3 : (N : Int) ≤ 4611686018427387903) :
    Calls Try.prog 35 #[.slice (some ⟨d, 0, none⟩) N cap, .int .i64 a, .int .i64 hi, cmpF g] w fun e w' => e = .returned (.tuple #[.int .i64 ((choosePivot (ltC D) dk a hi).1 : Nat), .int .i64 (hintCode (choosePivot (ltC D) dk a hi).2)]) ∧ SR w0 d g b n now D tl dk w' := by
  have H0 := Lib.hid (SC.start h)
  obtain ⟨c, hc⟩ : ∃ c, w.heap.size = c := ⟨_, rfl⟩
  obtain ⟨W, hW⟩ : ∃ W, w.alloc (.cells #[.int .i64 0] 3) = W := ⟨_, rfl⟩
  rw [hc, hW] at H0
  obtain ⟨L, hL⟩ : ∃ L, hi - a = L := ⟨_, rfl⟩
  have hsub : (hi : Int) - (a : Int) = (L : Int) := by omega
  have hw1 : IntKind.i64.wrap (L : Int) = (L : Int) := IntWalk.i64_in _ (by omega)
  rw [choosePivot_eq]
  unfold rawPivot
  rw [hL]
  obtain ⟨q, hq⟩ : ∃ q, L / 4 = q := ⟨_, rfl⟩
  rw [hq]
  have ht : (L : Int).tdiv 4 = (q : Int) := by rw [Int.tdiv_eq_ediv_of_nonneg (by omega)]; omega
  have ht2 : (L : Int) / 4 = (q : Int) := by omega
  have hql : 4 * q ≤ L := by omega
  have hql2 : L < 4 * q + 4 := by omega
  have l8 : (8 : Int) ≤ (L : Int) := by omega
  rw [if_pos (show L ≥ 8 by omega)]
  have l50 : (50 : Int) ≤ (L : Int) := by omega
  rw [if_pos (show L ≥ 50 by omega)]
  obtain ⟨i1, hi1⟩ : ∃ i, a + q * 1 = i := ⟨_, rfl⟩
  obtain ⟨i2, hi2⟩ : ∃ i, a + q * 2 = i := ⟨_, rfl⟩
  obtain ⟨i3, hi3⟩ : ∃ i, a + q * 3 = i := ⟨_, rfl⟩
  rw [hi1, hi2, hi3]
  have s1 : IntKind.i64.wrap ((a : Int) + (q : Int)) = (i1 : Int) := by rw [show ((a : Int) + (q : Int)) = (i1 : Int) by omega]; exact IntWalk.i64_in _ (by omega)
  have s1' : (a : Int) + (q : Int) = (i1 : Int) := by omega
  have m2 : (q : Int) * 2 = ((2 * q : Nat) : Int) := by omega
  have m3 : (q : Int) * 3 = ((3 * q : Nat) : Int) := by omega
  have v2 : IntKind.i64.wrap ((2 * q : Nat) : Int) = ((2 * q : Nat) : Int) := IntWalk.i64_in _ (by omega)
  have v3 : IntKind.i64.wrap ((3 * q : Nat) : Int) = ((3 * q : Nat) : Int) := IntWalk.i64_in _ (by omega)
  obtain ⟨q2, hq2⟩ : ∃ z, 2 * q = z := ⟨_, rfl⟩
  obtain ⟨q3, hq3⟩ : ∃ z, 3 * q = z := ⟨_, rfl⟩
  rw [hq2] at m2 v2
  rw [hq3] at m3 v3
  have s2 : IntKind.i64.wrap ((a : Int) + (q2 : Int)) = (i2 : Int) := by rw [show ((a : Int) + (q2 : Int)) = (i2 : Int) by omega]; exact IntWalk.i64_in _ (by omega)
  have s2' : (a : Int) + (q2 : Int) = (i2 : Int) := by omega
  have s3 : IntKind.i64.wrap ((a : Int) + (q3 : Int)) = (i3 : Int) := by rw [show ((a : Int) + (q3 : Int)) = (i3 : Int) by omega]; exact IntWalk.i64_in _ (by omega)
  have s3' : (a : Int) + (q3 : Int) = (i3 : Int) := by omega
  have C1 := medadj_any w0 d cap g b n now D tl i1 c 0 N dk W H0.out hN (by omega) (by omega) (by omega) h3
  obtain ⟨p1, p1'⟩ := medadj_lt (lt := ltC D) (dk := dk) (i := i1) (s := 0) (N := N) (by omega) (by omega)
  generalize medianAdjacent (ltC D) dk i1 0 = r1 at *
  obtain ⟨x1, t1⟩ := r1
  simp only at *
  have C2 := Lib.hid (fun w h => medadj_any w0 d cap g b n now D tl i2 c t1 N dk w h hN (by omega) (by omega) (by omega) h3)
  obtain ⟨p2, p2'⟩ := medadj_lt (lt := ltC D) (dk := dk) (i := i2) (s := t1) (N := N) (by omega) (by omega)
  generalize medianAdjacent (ltC D) dk i2 t1 = r2 at *
  obtain ⟨x2, t2⟩ := r2
  simp only at *
  have C3 := Lib.hid (fun w h => medadj_any w0 d cap g b n now D tl i3 c t2 N dk w h hN (by omega) (by omega) (by omega) h3)
  obtain ⟨p3, p3'⟩ := medadj_lt (lt := ltC D) (dk := dk) (i := i3) (s := t2) (N := N) (by omega) (by omega)
  generalize medianAdjacent (ltC D) dk i3 t2 = r3 at *
  obtain ⟨x3, t3⟩ := r3
  simp only at *
  have C4 := Lib.hid (fun w h => median_any w0 d cap g b n now D tl x1 x2 x3 c t3 N dk w h hN p1 p2 p3 (by omega) h3)
  generalize median (ltC D) dk x1 x2 x3 t3 = r at *
  obtain ⟨p, s⟩ := r
  simp only at *
  have C1 := Lib.hid C1
  clear h hN H0 hi1 hi2 hi3 hq hL hq2 hq3
  unfold cmpF at *
  go_enter Try.func35, Try.ntmps35
  go_wp2_with fail
  clear hW hc
  refine C1.out.mono ?_; rintro e w1 ⟨rfl, h1⟩
  have C2 := Lib.hid (C2.out w1 h1)
  clear C1 h1
  go_wp2_with fail
  refine C2.out.mono ?_; rintro e w2 ⟨rfl, h1⟩
  have C3 := Lib.hid (C3.out w2 h1)
  clear C2 h1
  go_wp2_with fail
  refine C3.out.mono ?_; rintro e w3 ⟨rfl, h1⟩
  have C4 := Lib.hid (C4.out w3 h1)
  clear C3 h1
  go_wp2_with fail
  refine C4.out.mono ?_; rintro e w4 ⟨rfl, h1⟩
  have HSC := Lib.hid h1
  clear C4 h1
  have c0 := HSC.out.ct.cell 0
  simp at c0
  have HRES := Lib.hid HSC.out.sr
  clear HSC
  by_cases hs0 : s = 0
  · subst hs0
    go_wp2
    try simp only [Exit.inBlock, Exit.then]
    go_ret2
    exact ⟨rfl, HRES.out⟩
  · have e0 : ((s : Int) == 0) = false := by simp; omega
    by_cases hs12 : s = 12
    · subst hs12
      go_wp2
      try simp only [Exit.inBlock, Exit.then]
      go_ret2
      exact ⟨rfl, HRES.out⟩
    · have e12 : ((s : Int) == 12) = false := by simp; omega
      have HH := Lib.hid (show hintCode (hintOf s) = 0 from by unfold hintOf; rw [if_neg hs0, if_neg hs12]; rfl)
      clear hs0 hs12
      go_wp2
      try simp only [Exit.inBlock, Exit.then]
      go_ret2
      rw [HH.out]
      exact ⟨rfl, HRES.out⟩

theorem pivot_any (w0 : World) (d cap g b n : Nat) (now : Int) (D : DataW Unit) (tl : List Value) (a hi N : Nat) (dk : Array Int) (w : World) (h : SR w0 d g b n now D tl dk w) (hN : dk.size = N) (h2 : hi ≤ N) (h1 : a + 8 ≤ hi) (h3 : (N : Int) ≤ 4611686018427387903) :
    Calls Try.prog 35 #[.slice (some ⟨d, 0, none⟩) N cap, .int .i64 a, .int .i64 hi, cmpF g] w fun e w' => e = .returned (.tuple #[.int .i64 ((choosePivot (ltC D) dk a hi).1 : Nat), .int .i64 (hintCode (choosePivot (ltC D) dk a hi).2)]) ∧ SR w0 d g b n now D tl dk w' := by
  by_cases h50 : a + 50 ≤ hi
  · exact pivot_high w0 d cap g b n now D tl a hi N dk w h hN h2 h50 h3
  · exact pivot_low w0 d cap g b n now D tl a hi N dk w h hN h2 h1 (by omega) h3
end Go.Proofs.Ytholaofgdahcbaa
