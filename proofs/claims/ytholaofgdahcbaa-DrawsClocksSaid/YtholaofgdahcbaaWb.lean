/- slices.insertionSortCmpFunc under a clock's comparison, at any range. -/
import Derived.Test.YtholaofgdahcbaaWa
namespace Go.Proofs.Ytholaofgdahcbaa
open Go.RowKit Go.Maps Go.Sort

set_option maxRecDepth 100000 in
set_option maxHeartbeats 4000000 in
theorem ins_any (w0 : World) (d cap g b n : Nat) (now : Int) (D : DataW Unit) (tl : List Value) (lo hi : Nat) (dk : Array Int) (w : World) (h : SR w0 d g b n now D tl dk w) (h1 : lo ≤ hi) (h2 : hi ≤ dk.size) (h3 : (dk.size : Int) ≤ 4611686018427387903) :
    Calls Try.prog 32 #[.slice (some ⟨d, 0, none⟩) dk.size cap, .int .i64 lo, .int .i64 hi, cmpF g] w fun e w' => e = .returned (.tuple #[]) ∧ SR w0 d g b n now D tl (insertionSort (ltC D) dk lo hi) w' := by
  have H := Lib.hid h
  obtain ⟨N, hN⟩ : ∃ N, dk.size = N := ⟨_, rfl⟩
  have HN := Lib.hid hN
  rw [hN] at h2 h3 ⊢
  have h1i : (lo : Int) ≤ (hi : Int) := by omega
  have h2i : (hi : Int) ≤ (N : Int) := by omega
  clear h hN
  unfold cmpF
  go_enter Try.func32, Try.ntmps32
  go_wp2
  go_loopw [8] (fun vi wr => ∃ (i : Nat) (di : Array Int), vi = .int .i64 i ∧ lo < i ∧ i ≤ hi + 1 ∧ Hid (di.size = N) ∧ Hid (SR w0 d g b n now D tl di wr) ∧ Hid (insOuter (ltC D) lo hi i di = insertionSort (ltC D) dk lo hi)) (fun vi _ => hi + 1 - (intOf vi).toNat)
  case atStart => exact ⟨lo + 1, dk, by go_num, by omega, by omega, HN, H, Lib.hid rfl⟩
  case round =>
    obtain ⟨i, di, rfl, hli, hih, HDI, HI, HO⟩ := hrel
    clear H HN
    by_cases hlt : i < hi
    · have hlti : (i : Int) < (hi : Int) := by omega
      go_wp2
      generalize wr = wo at *
      go_loopw [9] (fun vj wr => ∃ (j : Nat) (dj : Array Int), vj = .int .i64 j ∧ lo ≤ j ∧ j ≤ i ∧ Hid (dj.size = N) ∧ Hid (SR w0 d g b n now D tl dj wr) ∧ Hid (insInner (ltC D) lo j dj = insInner (ltC D) lo i di)) (fun vj _ => (intOf vj).toNat)
      case atStart => exact ⟨i, di, rfl, by omega, Nat.le_refl _, HDI, HI, Lib.hid rfl⟩
      case round =>
        obtain ⟨j, dj, rfl, hlj, hji, HDJ, HJ, HIN⟩ := hrel
        clear HI HDI
        have OUT : Hid ((j ≤ lo ∨ ltC D dj[j]! dj[j - 1]! = false) → insOuter (ltC D) lo hi (i + 1) dj = insertionSort (ltC D) dk lo hi) := Lib.hid (fun hs => by
          rw [← HO.out, insOuter_go _ _ _ _ _ hlt, ← HIN.out, insInner_stop _ _ _ _ hs])
        clear HO
        by_cases hjl : lo < j
        · obtain ⟨jp, rfl⟩ : ∃ jp, j = jp + 1 := ⟨j - 1, by omega⟩
          have ja : (lo : Int) < (jp : Int) + 1 := by omega
          have jb : (jp : Int) + 1 < (N : Int) := by omega
          have jc : (0 : Int) ≤ (jp : Int) := by omega
          have jz : (0 : Int) ≤ (jp : Int) + 1 := by omega
          have je : (jp : Int) < (N : Int) := by omega
          have jd : ((jp : Int) + 1).toNat = jp + 1 := by omega
          have jw : IntKind.i64.wrap ((jp : Int) + 1 - 1) = (jp : Int) := by rw [show (jp : Int) + 1 - 1 = jp by omega]; exact IntWalk.i64_in _ (by omega)
          have jw2 : IntKind.i64.wrap (jp : Int) = (jp : Int) := IntWalk.i64_in _ (by omega)
          have HC := Lib.hid (fun w (h : SR w0 d g b n now D tl dj w) => h.cmp (jp + 1) jp (by have := HDJ.out; omega) (by have := HDJ.out; omega))
          have HG : Hid (ltC D dj[jp + 1]! dj[jp]! = true → insInner (ltC D) lo jp (swp dj (jp + 1) jp) = insInner (ltC D) lo i di) := Lib.hid (fun hl => by rw [← HIN.out]; exact (insInner_go (ltC D) lo (jp + 1) dj hjl hl).symm)
          have m0 := HJ.out.cell (jp + 1) (by have := HDJ.out; omega)
          have m1 := HJ.out.cell jp (by have := HDJ.out; omega)
          have HSW := Lib.hid (fun w (h : SR w0 d g b n now D tl dj w) => h.swap (jp + 1) jp (by have := HDJ.out; omega) (by have := HDJ.out; omega))
          have HCE := Lib.hid (fun w (h : SR w0 d g b n now D tl dj w) => (⟨h.cell (jp + 1) (by have := HDJ.out; omega), h.cell jp (by have := HDJ.out; omega), h.frozen (jp + 1), h.frozen jp, h.second (jp + 1) jp (by have := HDJ.out; omega) (by have := HDJ.out; omega) _ (h.ok jp (by have := HDJ.out; omega))⟩ : _ ∧ _ ∧ _ ∧ _ ∧ _))
          have hlv : ltC D dj[jp + 1]! dj[jp]! = decide (cmpC D dj[jp + 1]! dj[jp]! < 0) := rfl
          rw [hlv] at HG
          simp only [Nat.add_sub_cancel, hlv] at OUT
          clear hlv HIN
          obtain ⟨x, hx⟩ : ∃ x, dj[jp + 1]! = x := ⟨_, rfl⟩
          obtain ⟨y, hy⟩ : ∃ y, dj[jp]! = y := ⟨_, rfl⟩
          rw [hx, hy] at HG HC OUT
          simp only [hx, hy] at HSW HCE
          rw [hx] at m0
          rw [hy] at m1
          clear hx hy
          go_wp2
          refine wp_region_still_tail 14 (by kernel_rfl) (by kernel_rfl) ?_
          simp only [List.take_succ_cons, List.take_zero, List.drop_succ_cons, List.drop_zero]
          still_step; still_step; still_step; still_step; still_step; still_step; still_step; still_step; still_step; still_step; still_step; still_step; still_step; still_step
          refine wpStill_nil ?_
          change wpList _ _ _ _ _ wr.drew
          have HJ2 := Lib.hid (HJ.out.drew)
          clear m0 m1 HJ
          generalize wr.drew = w1 at *
          generalize cmpC D x y = cv at *
          go_wp2_with fail
          refine (HC.out _ HJ2.out).mono ?_; rintro e w2 ⟨rfl, h9⟩
          have HJ3 := Lib.hid h9
          have mixed := Try.mixed
          clear h9 HJ2 HC
          by_cases hcv : cv < 0
          · have e9 := HG.out (decide_eq_true hcv)
            have HI2 := Lib.hid e9
            have c := HCE.out _ HJ3.out
            obtain ⟨m0, m1, f0, f1, u, m2⟩ := c
            have HS := Lib.hid (HSW.out _ HJ3.out)
            clear e9 HG HCE HSW HJ3 OUT
            go_wp2_with fail
            go_big_region_o
            clear m0 m1 f0 f1 m2
            generalize ((w2.setCell ⟨d, jp + 1, none⟩ (.int .i64 y)).setCell ⟨d, jp, none⟩ (.int .i64 x)).drew = w3 at *
            go_wp2
            go_roundw
            case rel => exact ⟨jp, swp dj (jp + 1) jp, by go_num, by omega, by omega, Lib.hid (by rw [size_swp]; exact HDJ.out), HS, HI2⟩
            case measure => simp [intOf]
          · have HO2 := Lib.hid (OUT.out (.inr (decide_eq_false hcv)))
            clear HG HCE HSW OUT
            go_wp2_with fail
            go_roundw
            case rel => exact ⟨i + 1, dj, by go_num, by omega, by omega, HDJ, HJ3, HO2⟩
            case measure => simp [intOf]; omega
        · have HO2 := Lib.hid (OUT.out (.inl (by omega)))
          have hjn : ¬ (lo : Int) < (j : Int) := by omega
          have hjd : decide ((j : Int) > (lo : Int)) = false := decide_eq_false (by omega)
          have HJ3 := Lib.hid HJ.out.drew
          have mixed := Try.mixed
          clear HIN OUT HJ
          go_wp2_with fail
          go_big_region_o
          generalize wr.drew = w3 at *
          go_wp2
          go_roundw
          case rel => exact ⟨i + 1, dj, by go_num, by omega, by omega, HDJ, HJ3, HO2⟩
          case measure => simp [intOf]; omega
    · have hlti : ¬ (i : Int) < (hi : Int) := by omega
      have e9 : SR w0 d g b n now D tl (insertionSort (ltC D) dk lo hi) wr := by rw [← HO.out, insOuter_stop _ _ _ _ _ hlt]; exact HI.out
      have HE := Lib.hid e9
      clear e9 HI HO HDI
      go_wp2
      go_end0
      exact ⟨rfl, HE.out⟩
end Go.Proofs.Ytholaofgdahcbaa
