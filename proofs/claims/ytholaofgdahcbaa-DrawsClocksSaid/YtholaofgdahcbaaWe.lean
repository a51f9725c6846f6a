/- slices.heapSortCmpFunc under a clock's comparison. -/
import Derived.Test.YtholaofgdahcbaaWd
import Derived.Sort.WalkB3
namespace Go.Proofs.Ytholaofgdahcbaa
open Go.RowKit Go.Maps Go.Sort

set_option maxRecDepth 100000 in
set_option maxHeartbeats 2000000 in
theorem heap_any (w0 : World) (d cap g b n : Nat) (now : Int) (D : DataW Unit) (tl : List Value) (lo hi : Nat) (dk : Array Int) (w : World) (h : SR w0 d g b n now D tl dk w) (h1 : lo ≤ hi) (h2 : hi ≤ dk.size) (h3 : (dk.size : Int) ≤ 4611686018427387903) :
    Calls Try.prog 33 #[.slice (some ⟨d, 0, none⟩) dk.size cap, .int .i64 lo, .int .i64 hi, cmpF g] w fun e w' => e = .returned (.tuple #[]) ∧ SR w0 d g b n now D tl (heapSort (ltC D) dk lo hi) w' := by
  have H := Lib.hid h
  obtain ⟨L, hL⟩ : ∃ L, hi - lo = L := ⟨_, rfl⟩
  have h2' : lo + L ≤ dk.size := by omega
  unfold heapSort
  rw [hL]
  obtain ⟨N, hN⟩ : ∃ N, dk.size = N := ⟨_, rfl⟩
  have HN := Lib.hid hN
  rw [hN] at h2 h2' h3 ⊢
  have HSI := Lib.hid (fun (r q : Nat) (dj : Array Int) (w : World) (hs : dj.size = N) (h : SR w0 d g b n now D tl dj w) (a1 : r ≤ q) (a2 : lo + q ≤ N) => show Calls Try.prog 44 #[.slice (some ⟨d, 0, none⟩) N cap, .int .i64 r, .int .i64 q, .int .i64 lo, cmpF g] w fun e w' => e = .returned (.tuple #[]) ∧ SR w0 d g b n now D tl (siftDown (ltC D) q lo r dj) w' from by
    have := sift_any w0 d cap g b n now D tl r q lo dj w h a1 (by omega) (by omega)
    rw [hs] at this; exact this)
  have HSZ := Lib.hid (fun (q r : Nat) (dj : Array Int) => size_siftDown (ltC D) q lo (q - r) r dj (Nat.le_refl _))
  obtain ⟨X, hX⟩ : ∃ X : Nat, (L - 1) / 2 = X := ⟨_, rfl⟩
  rw [hX]
  have hsub : (hi : Int) - (lo : Int) = (L : Int) := by omega
  have hw1 : IntKind.i64.wrap (L : Int) = (L : Int) := IntWalk.i64_in _ (by omega)
  have hxl : 2 * X ≤ L := by omega
  have hq : ((L : Int) - 1).tdiv 2 = (X : Int) := by
    rcases Nat.eq_zero_or_pos L with h | h
    · subst h; subst hX; rfl
    · rw [Int.tdiv_eq_ediv_of_nonneg (by omega)]; omega
  clear h hN hX
  unfold cmpF at *
  go_enter Try.func33, Try.ntmps33
  go_wp2
  go_loopw [11] (fun vi wr => ∃ (k : Nat) (dj : Array Int), vi = .int .i64 ((k : Int) - 1) ∧ k ≤ X + 1 ∧ Hid (dj.size = N) ∧ Hid (SR w0 d g b n now D tl dj wr) ∧ Hid (heapBuild (ltC D) L lo k dj = heapBuild (ltC D) L lo (X + 1) dk)) (fun vi _ => (intOf vi + 1).toNat)
  case atStart => exact ⟨X + 1, dk, by go_num, Nat.le_refl _, HN, H, Lib.hid rfl⟩
  case round =>
    obtain ⟨k, dj, rfl, hk, HDJ, HJ, HE⟩ := hrel
    clear H HN
    rcases k with _ | k
    · have HB := Lib.hid (show dj = heapBuild (ltC D) L lo (X + 1) dk from HE.out)
      clear HE
      rw [show (((0 : Nat) : Int) - 1) = -1 from rfl]
      go_wp2_with fail
      generalize wr = wo at *
      go_loopw [12] (fun vi wr => ∃ (k : Nat) (dj : Array Int), vi = .int .i64 ((k : Int) - 1) ∧ k ≤ L ∧ Hid (dj.size = N) ∧ Hid (SR w0 d g b n now D tl dj wr) ∧ Hid (heapPop (ltC D) lo k dj = heapPop (ltC D) lo L (heapBuild (ltC D) L lo (X + 1) dk))) (fun vi _ => (intOf vi + 1).toNat)
      case atStart => exact ⟨L, dj, by go_num, Nat.le_refl _, HDJ, HJ, Lib.hid (by rw [← HB.out])⟩
      case round =>
        obtain ⟨k, dj2, rfl, hk2, HDJ2, HJ2, HE2⟩ := hrel
        clear HJ HDJ HB
        rcases k with _ | k
        · have HF := Lib.hid (show SR w0 d g b n now D tl (heapPop (ltC D) lo L (heapBuild (ltC D) L lo (X + 1) dk)) wr from by rw [← HE2.out]; exact HJ2.out)
          clear HJ2 HE2
          go_wp2
          go_end0
          exact ⟨rfl, HF.out⟩
        · have hk0 : (0 : Int) ≤ (k : Int) := by omega
          have hks : (((k + 1 : Nat) : Int) - 1) = (k : Int) := by omega
          have hkw : IntKind.i64.wrap ((k : Int) - 1) = (k : Int) - 1 := IntWalk.i64_in _ (by omega)
          rw [hks]
          have ba0 : (lo : Int) < (N : Int) := by omega
          obtain ⟨i2, hi2⟩ : ∃ q : Nat, q = lo + k := ⟨_, rfl⟩
          have ea2 : ((lo : Int) + (k : Int)).toNat = i2 := by omega
          have pa2 : (0 : Int) ≤ (lo : Int) + (k : Int) := by omega
          have ba2 : (lo : Int) + (k : Int) < (N : Int) := by omega
          have ra2 : IntKind.i64.wrap ((lo : Int) + (k : Int)) = (lo : Int) + (k : Int) := IntWalk.i64_in _ (by omega)
          have hb2 : (i2 : Int) < (N : Int) := by omega
          have HI2 := Lib.hid hi2
          clear hi2
          have c3 := HJ2.out
          have m0 := c3.cell lo (by have := HDJ2.out; omega)
          have m1 := c3.cell i2 (by have := HDJ2.out; omega)
          have f0 := c3.frozen lo
          have f1 := c3.frozen i2
          obtain ⟨u, m2⟩ := c3.second lo i2 (by have := HDJ2.out; omega) (by have := HDJ2.out; omega) _ (c3.ok i2 (by have := HDJ2.out; omega))
          have s3 := c3.swap lo i2 (by have := HDJ2.out; omega) (by have := HDJ2.out; omega)
          obtain ⟨x, hx⟩ : ∃ x, dj2[lo]! = x := ⟨_, rfl⟩
          obtain ⟨y, hy⟩ : ∃ y, dj2[i2]! = y := ⟨_, rfl⟩
          simp only [hx, hy] at s3 m0 m1 m2
          have HS3 := Lib.hid s3
          have mixed := Try.mixed
          clear c3 hx hy s3 HJ2
          go_wp2_with fail
          go_big_region_o
          clear m0 m1 m2 f0 f1 mixed
          generalize ((wr.setCell ⟨d, lo, none⟩ (.int .i64 y)).setCell ⟨d, i2, none⟩ (.int .i64 x)).drew = v3 at *
          have HC := Lib.hid (HSI.out 0 k (swp dj2 lo i2) v3 (by rw [size_swp]; exact HDJ2.out) HS3.out (by omega) (by omega))
          have HD2 := Lib.hid (show (siftDown (ltC D) k lo 0 (swp dj2 lo i2)).size = N from by rw [HSZ.out, size_swp]; exact HDJ2.out)
          have HE3 := Lib.hid (show heapPop (ltC D) lo k (siftDown (ltC D) k lo 0 (swp dj2 lo i2)) = heapPop (ltC D) lo L (heapBuild (ltC D) L lo (X + 1) dk) from by rw [← HE2.out, HI2.out]; rfl)
          clear HS3 HE2
          go_wp2_with fail
          refine HC.out.mono ?_; rintro e w5 ⟨rfl, h5⟩
          have H5 := Lib.hid h5
          clear h5 HC
          go_wp2
          go_roundw
          case rel => exact ⟨k, _, by go_num, by omega, HD2, H5, HE3⟩
          case measure => simp [intOf]
    · have hks : (((k + 1 : Nat) : Int) - 1) = (k : Int) := by omega
      have hk0 : (0 : Int) ≤ (k : Int) := by omega
      have hkw : IntKind.i64.wrap ((k : Int) - 1) = (k : Int) - 1 := IntWalk.i64_in _ (by omega)
      rw [hks]
      have HC := Lib.hid (HSI.out k L dj wr HDJ.out HJ.out (by omega) (by omega))
      have HD2 := Lib.hid (show (siftDown (ltC D) L lo k dj).size = N from by rw [HSZ.out]; exact HDJ.out)
      have HE2 := Lib.hid (show heapBuild (ltC D) L lo k (siftDown (ltC D) L lo k dj) = heapBuild (ltC D) L lo (X + 1) dk from by rw [← HE.out]; rfl)
      clear HJ HE
      go_wp2_with fail
      refine HC.out.mono ?_; rintro e w5 ⟨rfl, h5⟩
      have H5 := Lib.hid h5
      clear h5 HC
      go_wp2
      go_roundw
      case rel => exact ⟨k, _, by go_num, by omega, HD2, H5, HE2⟩
      case measure => simp [intOf]
end Go.Proofs.Ytholaofgdahcbaa
