/- The walk of DiskArmed, on. -/
import Derived.Test.YtnkkdpmmnenncaaUn
namespace Go.Proofs.Ytnkkdpmmnenncaa
open Go.RowKit Go.Maps

def IntAt (v : Value) (k : Nat) : Prop := v = .int .i64 (k : Int)

set_option maxRecDepth 100000 in
set_option maxHeartbeats 4000000 in
theorem armed_low (n m sync : Int) (w : World) (hn : n ≤ 9223372036854775807) (h0 : 0 ≤ m) (h1 : m ≤ 100) (hcase : n < 1) :
    Calls Try.prog 6 #[.int .i64 n, .int .i64 m, .int .i64 sync] w fun e w' => e = .returned (.bool true) ∧ Fr (fun _ => False) w w' := by
  obtain ⟨cur, HC, _, _, hmk⟩ := Try.make64c
  obtain ⟨M, rfl⟩ : ∃ M : Nat, m = M := ⟨m.toNat, by omega⟩
  have IN0 := a0_inv n
  obtain ⟨L, hL⟩ : ∃ L, (max n 1).toNat = L := ⟨_, rfl⟩
  rw [hL] at IN0
  have hL1 : 1 ≤ L := by omega
  have hv1 : 1 ≤ (L : Int) := by omega
  have hv2 : (L : Int) ≤ 1 := by omega
  have HIN := Lib.hid IN0
  clear hL IN0
  go_enter Try.func6, Try.ntmps6
  go_wp2_with fail
  refine (known_any w).mono ?_; rintro e w0 ⟨rfl, hf0⟩
  go_wp2_with fail
  refine (a0_new w0).mono ?_; rintro e w1 ⟨g, F, rfl, h1'⟩
  have H1 := Lib.hid (show RunF w w1 g a0 F from ⟨h1'.dsk, fun k hk => Nat.le_trans hf0.size (h1'.low k hk), hf0.trans h1'.fr (fun _ _ h => h)⟩)
  clear h1' hf0
  have C1 := Lib.hid (H1.out.arm n hn none 0 0 [] (RdB.nil _ _) rfl (by omega))
  go_wp2_with fail
  refine C1.out.mono ?_; rintro e w2 ⟨rfl, F2, R2, f2, n2⟩
  have HR2 := Lib.hid R2
  clear C1 R2 f2 n2 H1
  go_wp2_with fail
  go_loopw [9, 10] (fun c i wr => ∃ (k : Nat) (s : DS) (F : Nat → Prop), k ≤ M ∧ IntAt i k ∧ IntAt c (min k (L - 1)) ∧ AInv s L k ∧ RunF w wr g s F) (fun _ i _ => M - (intOf i).toNat)
  case atStart => exact ⟨0, _, F2, by omega, rfl, by simp [IntAt], HIN.out, HR2.out⟩
  case round =>
    obtain ⟨k, s, F3, hk, hi, hc, hinv, hr⟩ := hrel
    obtain rfl := hi
    obtain rfl := hc
    have HI := Lib.hid hinv
    have HR := Lib.hid hr
    clear hinv hr HR2 HIN
    by_cases hlt : k < M
    · have hmod : (k : Int) % 4 = ((k % 4 : Nat) : Int) := by omega
      have hm4 : k % 4 < 4 := by omega
      have hrw : ((k : Int)).tmod 4 = ((k % 4 : Nat) : Int) := by rw [Int.tmod_eq_emod_of_nonneg (by omega)]; omega
      generalize k % 4 = x at *
      have hc0 : min k (L - 1) ≤ k := Nat.min_le_left _ _
      have STEP : Hid (∀ w3 s3 F3, AInv s3 L k → RunF w w3 g s3 F3 → ∀ z : Int, z = (if k + 1 < L then 0 else 5) → Calls Try.prog 12 #[.pointer (some ⟨g, 0, none⟩), .int .i64 (x : Int), .slice (some ⟨w3.heap.size, 0, none⟩) 64 64] (w3.alloc (.cells cur 5)) fun e w' => e = .returned (.int .i64 z) ∧ ∃ s' F', AInv s' L (k + 1) ∧ RunF w w' g s' F') :=
        Lib.hid (fun w3 s3 F3 hi3 hr3 z hz => hr3.zero hi3 (by omega) hL1 x hm4 z hz HC.out)
      have FIN : Hid (∀ (w4 : World) s4 F4 (i c : Int), i = (k : Int) + 1 → c = ((min k (L - 1) : Nat) : Int) + (if k + 1 < L then 1 else 0) → AInv s4 L (k + 1) → RunF w w4 g s4 F4 →
          ∃ (k' : Nat) (s : DS) (F : Nat → Prop), k' ≤ M ∧ IntAt (.int .i64 i) k' ∧ IntAt (.int .i64 c) (min k' (L - 1)) ∧ AInv s L k' ∧ RunF w w4 g s F) := Lib.hid (by
        intro w4 s4 F4 i c hi hc h3 h4
        refine ⟨k + 1, s4, F4, by omega, by unfold IntAt; rw [hi]; congr 1, ?_, h3, h4⟩
        unfold IntAt
        rw [hc]
        split
        · rw [show min (k + 1) (L - 1) = min k (L - 1) + 1 by omega]; congr 1
        · rw [show min (k + 1) (L - 1) = min k (L - 1) by omega]; simp)
      clear HC
      generalize min k (L - 1) = c at *
      by_cases hs : (k : Int) = sync
      · subst hs
        have C2 := Lib.hid (HR.out.sync (by have := HI.out.q; omega))
        go_wp2_with fail
        refine C2.out.mono ?_; rintro e w3 ⟨rfl, F4, R4, f4, n4⟩
        have HI4 := Lib.hid HI.out.sync
        have HR4 := Lib.hid R4
        generalize syncE s = z1 at *
        generalize syncS s = s4 at *
        clear C2 R4 f4 n4 HR HI
        by_cases hz : k + 1 < L
        · have C3 := Lib.hid (STEP.out w3 s4 F4 HI4.out HR4.out 0 (by rw [if_pos hz]))
          have FIN' := Lib.hid (fun w4 s4 F4 h3 h4 => FIN.out w4 s4 F4 ((k : Int) + 1) ((c : Int) + 1) rfl (by rw [if_pos hz]) h3 h4)
          clear STEP FIN HR4
          go_wp2_with fail
          refine C3.out.mono ?_; rintro e w4 ⟨rfl, s5, F5, I5, R5⟩
          have HI5 := Lib.hid I5
          have HR5 := Lib.hid R5
          clear I5 R5 C3
          go_wp2
          go_roundw
          case rel => exact FIN'.out _ _ _ HI5.out HR5.out
          case measure => simp [intOf]; omega
        · have C3 := Lib.hid (STEP.out w3 s4 F4 HI4.out HR4.out 5 (by rw [if_neg hz]))
          have FIN' := Lib.hid (fun w4 s4 F4 h3 h4 => FIN.out w4 s4 F4 ((k : Int) + 1) (c : Int) rfl (by rw [if_neg hz]; simp) h3 h4)
          clear STEP FIN HR4
          go_wp2_with fail
          refine C3.out.mono ?_; rintro e w4 ⟨rfl, s5, F5, I5, R5⟩
          have HI5 := Lib.hid I5
          have HR5 := Lib.hid R5
          clear I5 R5 C3
          go_wp2
          go_roundw
          case rel => exact FIN'.out _ _ _ HI5.out HR5.out
          case measure => simp [intOf]; omega
      · have hsb : ((k : Int) == sync) = false := by simpa using hs
        clear hs
        by_cases hz : k + 1 < L
        · have C3 := Lib.hid (STEP.out wr s F3 HI.out HR.out 0 (by rw [if_pos hz]))
          have FIN' := Lib.hid (fun w4 s4 F4 h3 h4 => FIN.out w4 s4 F4 ((k : Int) + 1) ((c : Int) + 1) rfl (by rw [if_pos hz]) h3 h4)
          clear STEP FIN HR
          go_wp2_with fail
          refine C3.out.mono ?_; rintro e w4 ⟨rfl, s5, F5, I5, R5⟩
          have HI5 := Lib.hid I5
          have HR5 := Lib.hid R5
          clear I5 R5 C3
          go_wp2
          go_roundw
          case rel => exact FIN'.out _ _ _ HI5.out HR5.out
          case measure => simp [intOf]; omega
        · have C3 := Lib.hid (STEP.out wr s F3 HI.out HR.out 5 (by rw [if_neg hz]))
          have FIN' := Lib.hid (fun w4 s4 F4 h3 h4 => FIN.out w4 s4 F4 ((k : Int) + 1) (c : Int) rfl (by rw [if_neg hz]; simp) h3 h4)
          clear STEP FIN HR
          go_wp2_with fail
          refine C3.out.mono ?_; rintro e w4 ⟨rfl, s5, F5, I5, R5⟩
          have HI5 := Lib.hid I5
          have HR5 := Lib.hid R5
          clear I5 R5 C3
          go_wp2
          go_roundw
          case rel => exact FIN'.out _ _ _ HI5.out HR5.out
          case measure => simp [intOf]; omega
    · obtain rfl : k = M := by omega
      have CO := Lib.hid HR.out.offC
      have CW := Lib.hid (writes_any HR.out.dsk)
      rw [HI.out.off] at CO
      have hwr := HI.out.wr
      have hsw : (s.writes : Int) = ((min k (L - 1) : Nat) : Int) := by rw [hwr]
      rw [hsw] at CW
      have hcv : ((min k (L - 1) : Nat) : Int) = min (k : Int) ((L : Int) - 1) := by omega
      clear hsw hwr
      generalize ((min k (L - 1) : Nat) : Int) = c at *
      by_cases hd : L ≤ k
      · have hdd : decide (L ≤ k) = true := by simpa using hd
        rw [hdd] at CO
        have hle : 1 ≤ (k : Int) := by omega
        obtain rfl : c = 0 := by omega
        have hoff : s.off = true := by rw [HI.out.off, hdd]
        have he5 : s.err 0 = 5 := by unfold DS.err; rw [hoff, if_pos rfl]
        have C1 := Lib.hid (read_err HR.out.dsk 0 (by rw [he5]; decide))
        rw [he5] at C1
        have hsy : syncE s = 5 ∧ syncS s = s := ⟨if_pos hoff, if_pos hoff⟩
        have C2 := Lib.hid (HR.out.sync (by have := HI.out.q; omega))
        rw [hsy.1, hsy.2] at C2
        have HDEAD := Lib.hid (HI.out.dead hd)
        have HN4 := Lib.hid HI.out.N
        have HS64 := Lib.hid HI.out.sz
        have HWR := Lib.hid (show (s.writes : Int) ≤ 100 by have := HI.out.wr; omega)
        have HKP := Lib.hid HI.out.keep
        clear hdd hoff he5 hsy hcv HR HI hd
        go_wp2_with fail
        refine CO.out.mono ?_; rintro e w3 ⟨rfl, rfl⟩
        go_wp2_with fail
        refine CW.out.mono ?_; rintro e w3 ⟨rfl, rfl⟩
        clear CW
        go_wp2_with fail
        refine CO.out.mono ?_; rintro e w3 ⟨rfl, rfl⟩
        clear CO
        go_wp2_with fail
        refine C1.out.mono ?_; rintro e w3 ⟨rfl, rfl⟩
        clear C1
        go_wp2_with fail
        refine C2.out.mono ?_; rintro e w3 ⟨rfl, F4, R4, f4, n4⟩
        have C3 := Lib.hid R4.onC
        clear C2 R4 f4 n4
        go_wp2_with fail
        refine C3.out.mono ?_; rintro e w4 ⟨rfl, F5, R5, f5, n5⟩
        have R6 : RunF w (w4.alloc (.cells cur 5)) g s.on F5 := R5.on0 ((Fr.refl _ _).alloc _)
        have hb : Z64.length = 64 := by simp [Z64]
        have he0 : s.on.err 0 = 0 := by
          unfold DS.err
          rw [show s.on.off = false from rfl, if_neg (by simp), if_neg (by show ¬ ((0 : Int) < 0 ∨ (s.N : Int) ≤ 0); rw [HN4.out]; omega)]
        obtain ⟨e1, e2⟩ := write_add (b := Z64) he0 (by rw [hb]; exact HS64.out.symm) (by show s.left ≠ 1; rw [HDEAD.out.2]; omega)
        have C4 := Lib.hid (R6.writeL (by show s.q.length ≤ _; rw [HDEAD.out.1]; simp) (by show (s.writes : Int) ≤ _; have := HWR.out; omega) (by show s.keep.length ≤ _; rw [HKP.out]; simp) 0 w4.heap.size 64 64 Z64 (Loc.of (Bk.new w4 _ _) HC.out) hb (fun hF => by have := R5.lt hF; omega))
        rw [e1, e2] at C4
        have hq1 : ((s.on.add (0 : Int).toNat Z64).q.length : Int) = 1 := by
          show (((s.q ++ [((0 : Int).toNat, Z64)]).length : Nat) : Int) = 1
          rw [HDEAD.out.1]; rfl
        have HQ1 := Lib.hid hq1
        clear C3 R5 f5 n5 R6 hb he0 e1 e2 hq1
        go_wp2_with fail
        refine C4.out.mono ?_; rintro e w5 ⟨rfl, F6, R6, f6, n6⟩
        have C5 := Lib.hid (pending_any R6.dsk)
        rw [HQ1.out] at C5
        have HF6 := Lib.hid R6.fr
        clear C4 R6 f6 n6
        go_wp2_with fail
        refine C5.out.mono ?_; rintro e w6 ⟨rfl, rfl⟩
        go_wp2
        go_ret
        exact ⟨rfl, HF6.out⟩
      · have hdd : decide (L ≤ k) = false := by simpa using hd
        rw [hdd] at CO
        have hle : (k : Int) < 1 := by omega
        have hle' : decide (1 ≤ (k : Int)) = false := by simp; omega
        obtain rfl : c = (k : Int) := by omega
        have HF6 := Lib.hid HR.out.fr
        clear hdd hcv HR HI hd
        go_wp2_with fail
        refine CO.out.mono ?_; rintro e w3 ⟨rfl, rfl⟩
        go_wp2_with fail
        refine CW.out.mono ?_; rintro e w3 ⟨rfl, rfl⟩
        clear CW
        go_wp2_with fail
        refine CO.out.mono ?_; rintro e w3 ⟨rfl, rfl⟩
        go_wp2
        go_ret
        exact ⟨rfl, HF6.out⟩

set_option maxRecDepth 100000 in
set_option maxHeartbeats 4000000 in
theorem armed_high (n m sync : Int) (w : World) (hn : n ≤ 9223372036854775807) (h0 : 0 ≤ m) (h1 : m ≤ 100) (hcase : 1 ≤ n) :
    Calls Try.prog 6 #[.int .i64 n, .int .i64 m, .int .i64 sync] w fun e w' => e = .returned (.bool true) ∧ Fr (fun _ => False) w w' := by
  obtain ⟨cur, HC, _, _, hmk⟩ := Try.make64c
  obtain ⟨M, rfl⟩ : ∃ M : Nat, m = M := ⟨m.toNat, by omega⟩
  have IN0 := a0_inv n
  obtain ⟨L, hL⟩ : ∃ L, (max n 1).toNat = L := ⟨_, rfl⟩
  rw [hL] at IN0
  have hL1 : 1 ≤ L := by omega
  have hv1 : n ≤ (L : Int) := by omega
  have hv2 : (L : Int) ≤ n := by omega
  have HIN := Lib.hid IN0
  clear hL IN0
  go_enter Try.func6, Try.ntmps6
  go_wp2_with fail
  refine (known_any w).mono ?_; rintro e w0 ⟨rfl, hf0⟩
  go_wp2_with fail
  refine (a0_new w0).mono ?_; rintro e w1 ⟨g, F, rfl, h1'⟩
  have H1 := Lib.hid (show RunF w w1 g a0 F from ⟨h1'.dsk, fun k hk => Nat.le_trans hf0.size (h1'.low k hk), hf0.trans h1'.fr (fun _ _ h => h)⟩)
  clear h1' hf0
  have C1 := Lib.hid (H1.out.arm n hn none 0 0 [] (RdB.nil _ _) rfl (by omega))
  go_wp2_with fail
  refine C1.out.mono ?_; rintro e w2 ⟨rfl, F2, R2, f2, n2⟩
  have HR2 := Lib.hid R2
  clear C1 R2 f2 n2 H1
  go_wp2_with fail
  go_loopw [9, 10] (fun c i wr => ∃ (k : Nat) (s : DS) (F : Nat → Prop), k ≤ M ∧ IntAt i k ∧ IntAt c (min k (L - 1)) ∧ AInv s L k ∧ RunF w wr g s F) (fun _ i _ => M - (intOf i).toNat)
  case atStart => exact ⟨0, _, F2, by omega, rfl, by simp [IntAt], HIN.out, HR2.out⟩
  case round =>
    obtain ⟨k, s, F3, hk, hi, hc, hinv, hr⟩ := hrel
    obtain rfl := hi
    obtain rfl := hc
    have HI := Lib.hid hinv
    have HR := Lib.hid hr
    clear hinv hr HR2 HIN
    by_cases hlt : k < M
    · have hmod : (k : Int) % 4 = ((k % 4 : Nat) : Int) := by omega
      have hm4 : k % 4 < 4 := by omega
      have hrw : ((k : Int)).tmod 4 = ((k % 4 : Nat) : Int) := by rw [Int.tmod_eq_emod_of_nonneg (by omega)]; omega
      generalize k % 4 = x at *
      have hc0 : min k (L - 1) ≤ k := Nat.min_le_left _ _
      have STEP : Hid (∀ w3 s3 F3, AInv s3 L k → RunF w w3 g s3 F3 → ∀ z : Int, z = (if k + 1 < L then 0 else 5) → Calls Try.prog 12 #[.pointer (some ⟨g, 0, none⟩), .int .i64 (x : Int), .slice (some ⟨w3.heap.size, 0, none⟩) 64 64] (w3.alloc (.cells cur 5)) fun e w' => e = .returned (.int .i64 z) ∧ ∃ s' F', AInv s' L (k + 1) ∧ RunF w w' g s' F') :=
        Lib.hid (fun w3 s3 F3 hi3 hr3 z hz => hr3.zero hi3 (by omega) hL1 x hm4 z hz HC.out)
      have FIN : Hid (∀ (w4 : World) s4 F4 (i c : Int), i = (k : Int) + 1 → c = ((min k (L - 1) : Nat) : Int) + (if k + 1 < L then 1 else 0) → AInv s4 L (k + 1) → RunF w w4 g s4 F4 →
          ∃ (k' : Nat) (s : DS) (F : Nat → Prop), k' ≤ M ∧ IntAt (.int .i64 i) k' ∧ IntAt (.int .i64 c) (min k' (L - 1)) ∧ AInv s L k' ∧ RunF w w4 g s F) := Lib.hid (by
        intro w4 s4 F4 i c hi hc h3 h4
        refine ⟨k + 1, s4, F4, by omega, by unfold IntAt; rw [hi]; congr 1, ?_, h3, h4⟩
        unfold IntAt
        rw [hc]
        split
        · rw [show min (k + 1) (L - 1) = min k (L - 1) + 1 by omega]; congr 1
        · rw [show min (k + 1) (L - 1) = min k (L - 1) by omega]; simp)
      clear HC
      generalize min k (L - 1) = c at *
      by_cases hs : (k : Int) = sync
      · subst hs
        have C2 := Lib.hid (HR.out.sync (by have := HI.out.q; omega))
        go_wp2_with fail
        refine C2.out.mono ?_; rintro e w3 ⟨rfl, F4, R4, f4, n4⟩
        have HI4 := Lib.hid HI.out.sync
        have HR4 := Lib.hid R4
        generalize syncE s = z1 at *
        generalize syncS s = s4 at *
        clear C2 R4 f4 n4 HR HI
        by_cases hz : k + 1 < L
        · have C3 := Lib.hid (STEP.out w3 s4 F4 HI4.out HR4.out 0 (by rw [if_pos hz]))
          have FIN' := Lib.hid (fun w4 s4 F4 h3 h4 => FIN.out w4 s4 F4 ((k : Int) + 1) ((c : Int) + 1) rfl (by rw [if_pos hz]) h3 h4)
          clear STEP FIN HR4
          go_wp2_with fail
          refine C3.out.mono ?_; rintro e w4 ⟨rfl, s5, F5, I5, R5⟩
          have HI5 := Lib.hid I5
          have HR5 := Lib.hid R5
          clear I5 R5 C3
          go_wp2
          go_roundw
          case rel => exact FIN'.out _ _ _ HI5.out HR5.out
          case measure => simp [intOf]; omega
        · have C3 := Lib.hid (STEP.out w3 s4 F4 HI4.out HR4.out 5 (by rw [if_neg hz]))
          have FIN' := Lib.hid (fun w4 s4 F4 h3 h4 => FIN.out w4 s4 F4 ((k : Int) + 1) (c : Int) rfl (by rw [if_neg hz]; simp) h3 h4)
          clear STEP FIN HR4
          go_wp2_with fail
          refine C3.out.mono ?_; rintro e w4 ⟨rfl, s5, F5, I5, R5⟩
          have HI5 := Lib.hid I5
          have HR5 := Lib.hid R5
          clear I5 R5 C3
          go_wp2
          go_roundw
          case rel => exact FIN'.out _ _ _ HI5.out HR5.out
          case measure => simp [intOf]; omega
      · have hsb : ((k : Int) == sync) = false := by simpa using hs
        clear hs
        by_cases hz : k + 1 < L
        · have C3 := Lib.hid (STEP.out wr s F3 HI.out HR.out 0 (by rw [if_pos hz]))
          have FIN' := Lib.hid (fun w4 s4 F4 h3 h4 => FIN.out w4 s4 F4 ((k : Int) + 1) ((c : Int) + 1) rfl (by rw [if_pos hz]) h3 h4)
          clear STEP FIN HR
          go_wp2_with fail
          refine C3.out.mono ?_; rintro e w4 ⟨rfl, s5, F5, I5, R5⟩
          have HI5 := Lib.hid I5
          have HR5 := Lib.hid R5
          clear I5 R5 C3
          go_wp2
          go_roundw
          case rel => exact FIN'.out _ _ _ HI5.out HR5.out
          case measure => simp [intOf]; omega
        · have C3 := Lib.hid (STEP.out wr s F3 HI.out HR.out 5 (by rw [if_neg hz]))
          have FIN' := Lib.hid (fun w4 s4 F4 h3 h4 => FIN.out w4 s4 F4 ((k : Int) + 1) (c : Int) rfl (by rw [if_neg hz]; simp) h3 h4)
          clear STEP FIN HR
          go_wp2_with fail
          refine C3.out.mono ?_; rintro e w4 ⟨rfl, s5, F5, I5, R5⟩
          have HI5 := Lib.hid I5
          have HR5 := Lib.hid R5
          clear I5 R5 C3
          go_wp2
          go_roundw
          case rel => exact FIN'.out _ _ _ HI5.out HR5.out
          case measure => simp [intOf]; omega
    · obtain rfl : k = M := by omega
      have CO := Lib.hid HR.out.offC
      have CW := Lib.hid (writes_any HR.out.dsk)
      rw [HI.out.off] at CO
      have hwr := HI.out.wr
      have hsw : (s.writes : Int) = ((min k (L - 1) : Nat) : Int) := by rw [hwr]
      rw [hsw] at CW
      have hcv : ((min k (L - 1) : Nat) : Int) = min (k : Int) ((L : Int) - 1) := by omega
      clear hsw hwr
      generalize ((min k (L - 1) : Nat) : Int) = c at *
      by_cases hd : L ≤ k
      · have hdd : decide (L ≤ k) = true := by simpa using hd
        rw [hdd] at CO
        have hle : n ≤ (k : Int) := by omega
        obtain rfl : c = n - 1 := by omega
        have hoff : s.off = true := by rw [HI.out.off, hdd]
        have he5 : s.err 0 = 5 := by unfold DS.err; rw [hoff, if_pos rfl]
        have C1 := Lib.hid (read_err HR.out.dsk 0 (by rw [he5]; decide))
        rw [he5] at C1
        have hsy : syncE s = 5 ∧ syncS s = s := ⟨if_pos hoff, if_pos hoff⟩
        have C2 := Lib.hid (HR.out.sync (by have := HI.out.q; omega))
        rw [hsy.1, hsy.2] at C2
        have HDEAD := Lib.hid (HI.out.dead hd)
        have HN4 := Lib.hid HI.out.N
        have HS64 := Lib.hid HI.out.sz
        have HWR := Lib.hid (show (s.writes : Int) ≤ 100 by have := HI.out.wr; omega)
        have HKP := Lib.hid HI.out.keep
        clear hdd hoff he5 hsy hcv HR HI hd
        go_wp2_with fail
        refine CO.out.mono ?_; rintro e w3 ⟨rfl, rfl⟩
        go_wp2_with fail
        refine CW.out.mono ?_; rintro e w3 ⟨rfl, rfl⟩
        clear CW
        go_wp2_with fail
        refine CO.out.mono ?_; rintro e w3 ⟨rfl, rfl⟩
        clear CO
        go_wp2_with fail
        refine C1.out.mono ?_; rintro e w3 ⟨rfl, rfl⟩
        clear C1
        go_wp2_with fail
        refine C2.out.mono ?_; rintro e w3 ⟨rfl, F4, R4, f4, n4⟩
        have C3 := Lib.hid R4.onC
        clear C2 R4 f4 n4
        go_wp2_with fail
        refine C3.out.mono ?_; rintro e w4 ⟨rfl, F5, R5, f5, n5⟩
        have R6 : RunF w (w4.alloc (.cells cur 5)) g s.on F5 := R5.on0 ((Fr.refl _ _).alloc _)
        have hb : Z64.length = 64 := by simp [Z64]
        have he0 : s.on.err 0 = 0 := by
          unfold DS.err
          rw [show s.on.off = false from rfl, if_neg (by simp), if_neg (by show ¬ ((0 : Int) < 0 ∨ (s.N : Int) ≤ 0); rw [HN4.out]; omega)]
        obtain ⟨e1, e2⟩ := write_add (b := Z64) he0 (by rw [hb]; exact HS64.out.symm) (by show s.left ≠ 1; rw [HDEAD.out.2]; omega)
        have C4 := Lib.hid (R6.writeL (by show s.q.length ≤ _; rw [HDEAD.out.1]; simp) (by show (s.writes : Int) ≤ _; have := HWR.out; omega) (by show s.keep.length ≤ _; rw [HKP.out]; simp) 0 w4.heap.size 64 64 Z64 (Loc.of (Bk.new w4 _ _) HC.out) hb (fun hF => by have := R5.lt hF; omega))
        rw [e1, e2] at C4
        have hq1 : ((s.on.add (0 : Int).toNat Z64).q.length : Int) = 1 := by
          show (((s.q ++ [((0 : Int).toNat, Z64)]).length : Nat) : Int) = 1
          rw [HDEAD.out.1]; rfl
        have HQ1 := Lib.hid hq1
        clear C3 R5 f5 n5 R6 hb he0 e1 e2 hq1
        go_wp2_with fail
        refine C4.out.mono ?_; rintro e w5 ⟨rfl, F6, R6, f6, n6⟩
        have C5 := Lib.hid (pending_any R6.dsk)
        rw [HQ1.out] at C5
        have HF6 := Lib.hid R6.fr
        clear C4 R6 f6 n6
        go_wp2_with fail
        refine C5.out.mono ?_; rintro e w6 ⟨rfl, rfl⟩
        go_wp2
        go_ret
        exact ⟨rfl, HF6.out⟩
      · have hdd : decide (L ≤ k) = false := by simpa using hd
        rw [hdd] at CO
        have hle : (k : Int) < n := by omega
        have hle' : decide (n ≤ (k : Int)) = false := by simp; omega
        obtain rfl : c = (k : Int) := by omega
        have HF6 := Lib.hid HR.out.fr
        clear hdd hcv HR HI hd
        go_wp2_with fail
        refine CO.out.mono ?_; rintro e w3 ⟨rfl, rfl⟩
        go_wp2_with fail
        refine CW.out.mono ?_; rintro e w3 ⟨rfl, rfl⟩
        clear CW
        go_wp2_with fail
        refine CO.out.mono ?_; rintro e w3 ⟨rfl, rfl⟩
        go_wp2
        go_ret
        exact ⟨rfl, HF6.out⟩
end Go.Proofs.Ytnkkdpmmnenncaa
