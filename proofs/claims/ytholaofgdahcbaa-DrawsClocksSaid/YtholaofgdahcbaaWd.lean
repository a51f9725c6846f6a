/- slices.siftDownCmpFunc, heapSortCmpFunc under a clock's comparison. -/
import Derived.Test.YtholaofgdahcbaaWc
import Derived.Test.YtholaofgdahcbaaGt
import Derived.Sort.WalkB2
namespace Go.Proofs.Ytholaofgdahcbaa
open Go.RowKit Go.Maps Go.Sort

set_option maxRecDepth 100000 in
set_option maxHeartbeats 8000000 in
theorem sift_any (w0 : World) (d cap g b n : Nat) (now : Int) (D : DataW Unit) (tl : List Value) (lo hi first : Nat) (dk : Array Int) (w : World) (h : SR w0 d g b n now D tl dk w) (h1 : lo ≤ hi) (h2 : first + hi ≤ dk.size) (h3 : (dk.size : Int) ≤ 4611686018427387903) :
    Calls Try.prog 44 #[.slice (some ⟨d, 0, none⟩) dk.size cap, .int .i64 lo, .int .i64 hi, .int .i64 first, cmpF g] w fun e w' => e = .returned (.tuple #[]) ∧ SR w0 d g b n now D tl (siftDown (ltC D) hi first lo dk) w' := by
  have H := Lib.hid h
  obtain ⟨N, hN⟩ : ∃ N, dk.size = N := ⟨_, rfl⟩
  have HN := Lib.hid hN
  rw [hN] at h2 h3 ⊢
  clear h hN
  unfold cmpF
  go_enter Try.func44, Try.ntmps44
  go_wp2
  go_loopw [10] (fun vi wr => ∃ (root : Nat) (dj : Array Int), vi = .int .i64 root ∧ root ≤ hi ∧ Hid (dj.size = N) ∧ Hid (SR w0 d g b n now D tl dj wr) ∧ Hid (siftDown (ltC D) hi first root dj = siftDown (ltC D) hi first lo dk)) (fun vi _ => hi - (intOf vi).toNat)
  case atStart => exact ⟨lo, dk, rfl, h1, HN, H, Lib.hid rfl⟩
  case round =>
    obtain ⟨root, dj, rfl, hr, HDJ, HJ, HE⟩ := hrel
    clear H HN
    by_cases h0 : hi ≤ 2 * root + 1
    · have h0z : (hi : Int) ≤ 2 * (root : Int) + 1 := by omega
      go_wp2
      go_end0
      exact ⟨rfl, by rw [← HE.out, sd_end (ltC D) dj h0]; exact HJ.out⟩
    · have h0z : ¬ ((hi : Int) ≤ 2 * (root : Int) + 1) := by omega
      have rch : IntKind.i64.wrap (2 * (root : Int) + 1 + 1) = 2 * (root : Int) + 1 + 1 := IntWalk.i64_in _ (by omega)
      by_cases hc1 : 2 * root + 2 < hi
      · have h1z : 2 * (root : Int) + 1 + 1 < (hi : Int) := by omega
        obtain ⟨i1, hi1⟩ : ∃ q : Nat, q = first + (2 * root + 1) := ⟨_, rfl⟩
        have ea1 : ((first : Int) + (2 * (root : Int) + 1)).toNat = i1 := by omega
        have pa1 : (0 : Int) ≤ (first : Int) + (2 * (root : Int) + 1) := by omega
        have ba1 : (first : Int) + (2 * (root : Int) + 1) < (N : Int) := by omega
        have ra1 : IntKind.i64.wrap ((first : Int) + (2 * (root : Int) + 1)) = (first : Int) + (2 * (root : Int) + 1) := IntWalk.i64_in _ (by omega)
        have hb1 : (i1 : Int) < (N : Int) := by omega
        have HI1 := Lib.hid hi1
        clear hi1
        obtain ⟨i2, hi2⟩ : ∃ q : Nat, q = first + (2 * root + 2) := ⟨_, rfl⟩
        have ea2 : ((first : Int) + (2 * (root : Int) + 1) + 1).toNat = i2 := by omega
        have pa2 : (0 : Int) ≤ (first : Int) + (2 * (root : Int) + 1) + 1 := by omega
        have ba2 : (first : Int) + (2 * (root : Int) + 1) + 1 < (N : Int) := by omega
        have ra2 : IntKind.i64.wrap ((first : Int) + (2 * (root : Int) + 1) + 1) = (first : Int) + (2 * (root : Int) + 1) + 1 := IntWalk.i64_in _ (by omega)
        have hb2 : (i2 : Int) < (N : Int) := by omega
        have HI2 := Lib.hid hi2
        clear hi2
        have HC3 := Lib.hid (fun w (h : SR w0 d g b n now D tl dj w) => h.cmp i1 i2 (by have := HDJ.out; omega) (by have := HDJ.out; omega))
        have HE3 := Lib.hid (fun w (h : SR w0 d g b n now D tl dj w) => And.intro (h.cell i1 (by have := HDJ.out; omega)) (h.cell i2 (by have := HDJ.out; omega)))
        obtain ⟨x3, hx3⟩ : ∃ x, dj[i1]! = x := ⟨_, rfl⟩
        obtain ⟨y3, hy3⟩ : ∃ x, dj[i2]! = x := ⟨_, rfl⟩
        simp only [hx3, hy3] at HC3 HE3
        obtain ⟨cv3, hc3⟩ : ∃ z, cmpC D x3 y3 = z := ⟨_, rfl⟩
        have HV3 := Lib.hid (show ltC D dj[i1]! dj[i2]! = decide (cv3 < 0) from by rw [hx3, hy3, ← hc3]; rfl)
        rw [hc3] at HC3
        clear hx3 hy3 hc3
        go_wp2_with fail
        refine wp_region_held_drew (S := fun w' => SR w0 d g b n now D tl dj w') (by kernel_rfl) (HJ.out.drew) (fun hHeld => ?_)
        refine wpAnyH_takeD (i := 0) (v := ?_) (some 19) rfl rfl (by kernel_rfl) (by kernel_rfl) (by kernel_rfl) (fun _ _ _ h => h) (Or.inl ⟨by rfl, ?_⟩) (by assumption) ?_
        rotate_left
        · intro w' hSw
          go_simp
          first | done | with_reducible rfl
        try simp only [Go.Act.put, List.setIfInBounds_toArray, List.set_cons_zero, List.set_cons_succ]
        refine wpAnyH_takeD (i := 1) (v := ?_) (some 20) rfl rfl (by kernel_rfl) (by kernel_rfl) (by kernel_rfl) (fun _ _ _ h => h) (Or.inl ⟨by rfl, ?_⟩) (by assumption) ?_
        rotate_left
        · intro w' hSw
          go_simp
          first | done | with_reducible rfl
        try simp only [Go.Act.put, List.setIfInBounds_toArray, List.set_cons_zero, List.set_cons_succ]
        refine wpAnyH_takeD (i := 2) (v := ?_) (some 21) rfl rfl (by kernel_rfl) (by kernel_rfl) (by kernel_rfl) (fun _ _ _ h => h) (Or.inl ⟨by rfl, ?_⟩) (by assumption) ?_
        rotate_left
        · intro w' hSw
          go_simp
          first | done | with_reducible rfl
        try simp only [Go.Act.put, List.setIfInBounds_toArray, List.set_cons_zero, List.set_cons_succ]
        refine wpAnyH_takeD (i := 3) (v := ?_) (some 22) rfl rfl (by kernel_rfl) (by kernel_rfl) (by kernel_rfl) (fun _ _ _ h => h) (Or.inl ⟨by rfl, ?_⟩) (by assumption) ?_
        rotate_left
        · intro w' hSw
          go_simp
          first | done | with_reducible rfl
        try simp only [Go.Act.put, List.setIfInBounds_toArray, List.set_cons_zero, List.set_cons_succ]
        refine wpAnyH_takeD (i := 4) (v := ?_) (some 23) rfl rfl (by kernel_rfl) (by kernel_rfl) (by kernel_rfl) (fun _ _ _ h => h) (Or.inl ⟨by rfl, ?_⟩) (by assumption) ?_
        rotate_left
        · intro w' hSw
          go_simp
          first | done | with_reducible rfl
        try simp only [Go.Act.put, List.setIfInBounds_toArray, List.set_cons_zero, List.set_cons_succ]
        refine wpAnyH_takeD (i := 5) (v := ?_) (some 24) rfl rfl (by kernel_rfl) (by kernel_rfl) (by kernel_rfl) (fun _ _ _ h => h) (Or.inl ⟨by rfl, ?_⟩) (by assumption) ?_
        rotate_left
        · intro w' hSw
          go_simp
          first | done | with_reducible rfl
        try simp only [Go.Act.put, List.setIfInBounds_toArray, List.set_cons_zero, List.set_cons_succ]
        refine wpAnyH_takeD (i := 6) (v := ?_) (some 25) rfl rfl (by kernel_rfl) (by kernel_rfl) (by kernel_rfl) (fun _ _ _ h => h) (Or.inl ⟨by rfl, ?_⟩) (by assumption) ?_
        rotate_left
        · intro w' hSw
          go_simp
          first | done | with_reducible rfl
        try simp only [Go.Act.put, List.setIfInBounds_toArray, List.set_cons_zero, List.set_cons_succ]
        refine wpAnyH_takeD (i := 7) (v := ?_) (some 26) rfl rfl (by kernel_rfl) (by kernel_rfl) (by kernel_rfl) (fun _ _ _ h => h) (Or.inl ⟨by rfl, ?_⟩) (by assumption) ?_
        rotate_left
        · intro w' hSw
          go_simp
          first | done | with_reducible rfl
        try simp only [Go.Act.put, List.setIfInBounds_toArray, List.set_cons_zero, List.set_cons_succ]
        refine wpAnyH_takeD (i := 8) (v := ?_) (some 27) rfl rfl (by kernel_rfl) (by kernel_rfl) (by kernel_rfl) (fun _ _ _ h => h) (Or.inl ⟨by rfl, ?_⟩) (by assumption) ?_
        rotate_left
        · intro w' hSw
          go_simp
          first | done | with_reducible rfl
        try simp only [Go.Act.put, List.setIfInBounds_toArray, List.set_cons_zero, List.set_cons_succ]
        refine wpAnyH_takeD (i := 9) (v := ?_) (some 28) rfl rfl (by kernel_rfl) (by kernel_rfl) (by kernel_rfl) (fun _ _ _ h => h) (Or.inl ⟨by rfl, ?_⟩) (by assumption) ?_
        rotate_left
        · intro w' hSw
          go_simp
          first | done | with_reducible rfl
        try simp only [Go.Act.put, List.setIfInBounds_toArray, List.set_cons_zero, List.set_cons_succ]
        refine wpAnyH_takeD (i := 10) (v := ?_) (some 29) rfl rfl (by kernel_rfl) (by kernel_rfl) (by kernel_rfl) (fun _ _ _ h => h) (Or.inl ⟨by rfl, ?_⟩) (by assumption) ?_
        rotate_left
        · intro w' hSw
          go_simp
          first | done | with_reducible rfl
        try simp only [Go.Act.put, List.setIfInBounds_toArray, List.set_cons_zero, List.set_cons_succ]
        refine wpAnyH_takeD (i := 11) (v := ?_) (some 30) rfl rfl (by kernel_rfl) (by kernel_rfl) (by kernel_rfl) (fun _ _ _ h => h) (Or.inl ⟨by rfl, ?_⟩) (by assumption) ?_
        rotate_left
        · intro w' hSw
          obtain ⟨m0, m1⟩ := HE3.out w' hSw
          go_simp
          first | done | with_reducible rfl
        try simp only [Go.Act.put, List.setIfInBounds_toArray, List.set_cons_zero, List.set_cons_succ]
        refine wpAnyH_takeD (i := 12) (v := ?_) (some 31) rfl rfl (by kernel_rfl) (by kernel_rfl) (by kernel_rfl) (fun _ _ _ h => h) (Or.inl ⟨by rfl, ?_⟩) (by assumption) ?_
        rotate_left
        · intro w' hSw
          go_simp
          first | done | with_reducible rfl
        try simp only [Go.Act.put, List.setIfInBounds_toArray, List.set_cons_zero, List.set_cons_succ]
        refine wpAnyH_takeD (i := 13) (v := ?_) (some 32) rfl rfl (by kernel_rfl) (by kernel_rfl) (by kernel_rfl) (fun _ _ _ h => h) (Or.inl ⟨by rfl, ?_⟩) (by assumption) ?_
        rotate_left
        · intro w' hSw
          go_simp
          first | done | with_reducible rfl
        try simp only [Go.Act.put, List.setIfInBounds_toArray, List.set_cons_zero, List.set_cons_succ]
        refine wpAnyH_takeD (i := 14) (v := ?_) (some 33) rfl rfl (by kernel_rfl) (by kernel_rfl) (by kernel_rfl) (fun _ _ _ h => h) (Or.inl ⟨by rfl, ?_⟩) (by assumption) ?_
        rotate_left
        · intro w' hSw
          go_simp
          first | done | with_reducible rfl
        try simp only [Go.Act.put, List.setIfInBounds_toArray, List.set_cons_zero, List.set_cons_succ]
        refine wpAnyH_takeD (i := 15) (v := ?_) (some 34) rfl rfl (by kernel_rfl) (by kernel_rfl) (by kernel_rfl) (fun _ _ _ h => h) (Or.inl ⟨by rfl, ?_⟩) (by assumption) ?_
        rotate_left
        · intro w' hSw
          go_simp
          first | done | with_reducible rfl
        try simp only [Go.Act.put, List.setIfInBounds_toArray, List.set_cons_zero, List.set_cons_succ]
        refine wpAnyH_takeD (i := 16) (v := ?_) (some 35) rfl rfl (by kernel_rfl) (by kernel_rfl) (by kernel_rfl) (fun _ _ _ h => h) (Or.inl ⟨by rfl, ?_⟩) (by assumption) ?_
        rotate_left
        · intro w' hSw
          go_simp
          first | done | with_reducible rfl
        try simp only [Go.Act.put, List.setIfInBounds_toArray, List.set_cons_zero, List.set_cons_succ]
        refine wpAnyH_takeD (i := 17) (v := ?_) (some 36) rfl rfl (by kernel_rfl) (by kernel_rfl) (by kernel_rfl) (fun _ _ _ h => h) (Or.inl ⟨by rfl, ?_⟩) (by assumption) ?_
        rotate_left
        · intro w' hSw
          go_simp
          first | done | with_reducible rfl
        try simp only [Go.Act.put, List.setIfInBounds_toArray, List.set_cons_zero, List.set_cons_succ]
        refine wpAnyH_takeD (i := 18) (v := ?_) (some 37) rfl rfl (by kernel_rfl) (by kernel_rfl) (by kernel_rfl) (fun _ _ _ h => h) (Or.inl ⟨by rfl, ?_⟩) (by assumption) ?_
        rotate_left
        · intro w' hSw
          obtain ⟨m0, m1⟩ := HE3.out w' hSw
          go_simp
          first | done | with_reducible rfl
        try simp only [Go.Act.put, List.setIfInBounds_toArray, List.set_cons_zero, List.set_cons_succ]
        refine wpAnyH_ready (rs := [19]) (by kernel_rfl) (by simp) ?_
        refine AllReadyH.cons rfl (fun K hK => ?_) AllReadyH.nil
        go_simp
        refine (HC3.out _ hHeld).mono ?_; rintro e v3 ⟨rfl, h9⟩
        try go_simp
        refine hK.out _ _ (h9) (fun hHeld => ?_)
        clear hK K
        try change wpAnyH _ _ _ _ _ _ _ (Go.Act.put _ (some 38) _) _
        try simp only [Go.Act.put, List.setIfInBounds_toArray, List.set_cons_zero, List.set_cons_succ]
        clear h9 HJ HC3
        refine wpAnyH_takeD (i := 20) (v := ?_) (some 39) rfl rfl (by kernel_rfl) (by kernel_rfl) (by kernel_rfl) (fun _ _ _ h => h) (Or.inl ⟨by rfl, ?_⟩) (by assumption) ?_
        rotate_left
        · intro w' hSw
          go_simp
          first | done | with_reducible rfl
        try simp only [Go.Act.put, List.setIfInBounds_toArray, List.set_cons_zero, List.set_cons_succ]
        refine wpAnyH_takeD (i := 21) (v := ?_) (some 40) rfl rfl (by kernel_rfl) (by kernel_rfl) (by kernel_rfl) (fun _ _ _ h => h) (Or.inl ⟨by rfl, ?_⟩) (by assumption) ?_
        rotate_left
        · intro w' hSw
          go_simp
          first | done | with_reducible rfl
        try simp only [Go.Act.put, List.setIfInBounds_toArray, List.set_cons_zero, List.set_cons_succ]
        refine wpAnyH_done (by kernel_rfl) ?_ _
        have HS3 := Lib.hid hHeld
        clear hHeld HE3
        by_cases hcv : cv3 < 0
        · have d3 : decide (cv3 < 0) = true := decide_eq_true hcv
          have HR := Lib.hid (show ltC D dj[first + (2 * root + 1)]! dj[first + (2 * root + 2)]! = true from by rw [← HI1.out, ← HI2.out, HV3.out]; exact d3)
          clear ea1 pa1 ba1 hb1 HI1 ea2 pa2 ba2 hb2 HI2
          go_wp2_with fail
          obtain ⟨i4, hi4⟩ : ∃ q : Nat, q = first + root := ⟨_, rfl⟩
          have ea4 : ((first : Int) + (root : Int)).toNat = i4 := by omega
          have pa4 : (0 : Int) ≤ (first : Int) + (root : Int) := by omega
          have ba4 : (first : Int) + (root : Int) < (N : Int) := by omega
          have ra4 : IntKind.i64.wrap ((first : Int) + (root : Int)) = (first : Int) + (root : Int) := IntWalk.i64_in _ (by omega)
          have hb4 : (i4 : Int) < (N : Int) := by omega
          have HI4 := Lib.hid hi4
          clear hi4
          obtain ⟨i5, hi5⟩ : ∃ q : Nat, q = first + (2 * root + 2) := ⟨_, rfl⟩
          have ea5 : ((first : Int) + (2 * (root : Int) + 1 + 1)).toNat = i5 := by omega
          have pa5 : (0 : Int) ≤ (first : Int) + (2 * (root : Int) + 1 + 1) := by omega
          have ba5 : (first : Int) + (2 * (root : Int) + 1 + 1) < (N : Int) := by omega
          have ra5 : IntKind.i64.wrap ((first : Int) + (2 * (root : Int) + 1 + 1)) = (first : Int) + (2 * (root : Int) + 1 + 1) := IntWalk.i64_in _ (by omega)
          have hb5 : (i5 : Int) < (N : Int) := by omega
          have HI5 := Lib.hid hi5
          clear hi5
          have HC6 := Lib.hid (fun w (h : SR w0 d g b n now D tl dj w) => h.cmp i4 i5 (by have := HDJ.out; omega) (by have := HDJ.out; omega))
          have HE6 := Lib.hid (fun w (h : SR w0 d g b n now D tl dj w) => And.intro (h.cell i4 (by have := HDJ.out; omega)) (h.cell i5 (by have := HDJ.out; omega)))
          obtain ⟨x6, hx6⟩ : ∃ x, dj[i4]! = x := ⟨_, rfl⟩
          obtain ⟨y6, hy6⟩ : ∃ x, dj[i5]! = x := ⟨_, rfl⟩
          simp only [hx6, hy6] at HC6 HE6
          obtain ⟨cv6, hc6⟩ : ∃ z, cmpC D x6 y6 = z := ⟨_, rfl⟩
          have HV6 := Lib.hid (show ltC D dj[i4]! dj[i5]! = decide (cv6 < 0) from by rw [hx6, hy6, ← hc6]; rfl)
          rw [hc6] at HC6
          clear hx6 hy6 hc6
          go_wp2_with fail
          refine wp_region_held_drew (S := fun w' => SR w0 d g b n now D tl dj w') (by kernel_rfl) (HS3.out.drew) (fun hHeld => ?_)
          refine wpAnyH_takeD (i := 0) (v := ?_) (some 43) rfl rfl (by kernel_rfl) (by kernel_rfl) (by kernel_rfl) (fun _ _ _ h => h) (Or.inl ⟨by rfl, ?_⟩) (by assumption) ?_
          rotate_left
          · intro w' hSw
            go_simp
            first | done | with_reducible rfl
          try simp only [Go.Act.put, List.setIfInBounds_toArray, List.set_cons_zero, List.set_cons_succ]
          refine wpAnyH_takeD (i := 1) (v := ?_) (some 44) rfl rfl (by kernel_rfl) (by kernel_rfl) (by kernel_rfl) (fun _ _ _ h => h) (Or.inl ⟨by rfl, ?_⟩) (by assumption) ?_
          rotate_left
          · intro w' hSw
            go_simp
            first | done | with_reducible rfl
          try simp only [Go.Act.put, List.setIfInBounds_toArray, List.set_cons_zero, List.set_cons_succ]
          refine wpAnyH_takeD (i := 2) (v := ?_) (some 45) rfl rfl (by kernel_rfl) (by kernel_rfl) (by kernel_rfl) (fun _ _ _ h => h) (Or.inl ⟨by rfl, ?_⟩) (by assumption) ?_
          rotate_left
          · intro w' hSw
            go_simp
            first | done | with_reducible rfl
          try simp only [Go.Act.put, List.setIfInBounds_toArray, List.set_cons_zero, List.set_cons_succ]
          refine wpAnyH_takeD (i := 3) (v := ?_) (some 46) rfl rfl (by kernel_rfl) (by kernel_rfl) (by kernel_rfl) (fun _ _ _ h => h) (Or.inl ⟨by rfl, ?_⟩) (by assumption) ?_
          rotate_left
          · intro w' hSw
            go_simp
            first | done | with_reducible rfl
          try simp only [Go.Act.put, List.setIfInBounds_toArray, List.set_cons_zero, List.set_cons_succ]
          refine wpAnyH_takeD (i := 4) (v := ?_) (some 47) rfl rfl (by kernel_rfl) (by kernel_rfl) (by kernel_rfl) (fun _ _ _ h => h) (Or.inl ⟨by rfl, ?_⟩) (by assumption) ?_
          rotate_left
          · intro w' hSw
            go_simp
            first | done | with_reducible rfl
          try simp only [Go.Act.put, List.setIfInBounds_toArray, List.set_cons_zero, List.set_cons_succ]
          refine wpAnyH_takeD (i := 5) (v := ?_) (some 48) rfl rfl (by kernel_rfl) (by kernel_rfl) (by kernel_rfl) (fun _ _ _ h => h) (Or.inl ⟨by rfl, ?_⟩) (by assumption) ?_
          rotate_left
          · intro w' hSw
            go_simp
            first | done | with_reducible rfl
          try simp only [Go.Act.put, List.setIfInBounds_toArray, List.set_cons_zero, List.set_cons_succ]
          refine wpAnyH_takeD (i := 6) (v := ?_) (some 49) rfl rfl (by kernel_rfl) (by kernel_rfl) (by kernel_rfl) (fun _ _ _ h => h) (Or.inl ⟨by rfl, ?_⟩) (by assumption) ?_
          rotate_left
          · intro w' hSw
            obtain ⟨m0, m1⟩ := HE6.out w' hSw
            go_simp
            first | done | with_reducible rfl
          try simp only [Go.Act.put, List.setIfInBounds_toArray, List.set_cons_zero, List.set_cons_succ]
          refine wpAnyH_takeD (i := 7) (v := ?_) (some 50) rfl rfl (by kernel_rfl) (by kernel_rfl) (by kernel_rfl) (fun _ _ _ h => h) (Or.inl ⟨by rfl, ?_⟩) (by assumption) ?_
          rotate_left
          · intro w' hSw
            go_simp
            first | done | with_reducible rfl
          try simp only [Go.Act.put, List.setIfInBounds_toArray, List.set_cons_zero, List.set_cons_succ]
          refine wpAnyH_takeD (i := 8) (v := ?_) (some 51) rfl rfl (by kernel_rfl) (by kernel_rfl) (by kernel_rfl) (fun _ _ _ h => h) (Or.inl ⟨by rfl, ?_⟩) (by assumption) ?_
          rotate_left
          · intro w' hSw
            go_simp
            first | done | with_reducible rfl
          try simp only [Go.Act.put, List.setIfInBounds_toArray, List.set_cons_zero, List.set_cons_succ]
          refine wpAnyH_takeD (i := 9) (v := ?_) (some 52) rfl rfl (by kernel_rfl) (by kernel_rfl) (by kernel_rfl) (fun _ _ _ h => h) (Or.inl ⟨by rfl, ?_⟩) (by assumption) ?_
          rotate_left
          · intro w' hSw
            go_simp
            first | done | with_reducible rfl
          try simp only [Go.Act.put, List.setIfInBounds_toArray, List.set_cons_zero, List.set_cons_succ]
          refine wpAnyH_takeD (i := 10) (v := ?_) (some 53) rfl rfl (by kernel_rfl) (by kernel_rfl) (by kernel_rfl) (fun _ _ _ h => h) (Or.inl ⟨by rfl, ?_⟩) (by assumption) ?_
          rotate_left
          · intro w' hSw
            go_simp
            first | done | with_reducible rfl
          try simp only [Go.Act.put, List.setIfInBounds_toArray, List.set_cons_zero, List.set_cons_succ]
          refine wpAnyH_takeD (i := 11) (v := ?_) (some 54) rfl rfl (by kernel_rfl) (by kernel_rfl) (by kernel_rfl) (fun _ _ _ h => h) (Or.inl ⟨by rfl, ?_⟩) (by assumption) ?_
          rotate_left
          · intro w' hSw
            go_simp
            first | done | with_reducible rfl
          try simp only [Go.Act.put, List.setIfInBounds_toArray, List.set_cons_zero, List.set_cons_succ]
          refine wpAnyH_takeD (i := 12) (v := ?_) (some 55) rfl rfl (by kernel_rfl) (by kernel_rfl) (by kernel_rfl) (fun _ _ _ h => h) (Or.inl ⟨by rfl, ?_⟩) (by assumption) ?_
          rotate_left
          · intro w' hSw
            obtain ⟨m0, m1⟩ := HE6.out w' hSw
            go_simp
            first | done | with_reducible rfl
          try simp only [Go.Act.put, List.setIfInBounds_toArray, List.set_cons_zero, List.set_cons_succ]
          refine wpAnyH_ready (rs := [13]) (by kernel_rfl) (by simp) ?_
          refine AllReadyH.cons rfl (fun K hK => ?_) AllReadyH.nil
          go_simp
          refine (HC6.out _ hHeld).mono ?_; rintro e v6 ⟨rfl, h9⟩
          try go_simp
          refine hK.out _ _ (h9) (fun hHeld => ?_)
          clear hK K
          try change wpAnyH _ _ _ _ _ _ _ (Go.Act.put _ (some 56) _) _
          try simp only [Go.Act.put, List.setIfInBounds_toArray, List.set_cons_zero, List.set_cons_succ]
          clear h9 HS3 HC6
          refine wpAnyH_takeD (i := 14) (v := ?_) (some 57) rfl rfl (by kernel_rfl) (by kernel_rfl) (by kernel_rfl) (fun _ _ _ h => h) (Or.inl ⟨by rfl, ?_⟩) (by assumption) ?_
          rotate_left
          · intro w' hSw
            go_simp
            first | done | with_reducible rfl
          try simp only [Go.Act.put, List.setIfInBounds_toArray, List.set_cons_zero, List.set_cons_succ]
          refine wpAnyH_takeD (i := 15) (v := ?_) (some 58) rfl rfl (by kernel_rfl) (by kernel_rfl) (by kernel_rfl) (fun _ _ _ h => h) (Or.inl ⟨by rfl, ?_⟩) (by assumption) ?_
          rotate_left
          · intro w' hSw
            go_simp
            first | done | with_reducible rfl
          try simp only [Go.Act.put, List.setIfInBounds_toArray, List.set_cons_zero, List.set_cons_succ]
          refine wpAnyH_done (by kernel_rfl) ?_ _
          have HS6 := Lib.hid hHeld
          clear hHeld HE6
          by_cases hcv6 : cv6 < 0
          · have d6 : decide (cv6 < 0) = true := decide_eq_true hcv6
            try simp only [d6, Bool.not_true, Bool.not_false]
            have HL6 := Lib.hid (show ltC D dj[first + root]! dj[first + (2 * root + 2)]! = true from by rw [← HI4.out, ← HI5.out, HV6.out]; exact d6)
            have HQ := Lib.hid (show swp dj i4 i5 = swp dj (first + root) (first + (2 * root + 2)) from by rw [HI4.out, HI5.out])
            have c7 := HS6.out
            have m0 := c7.cell i4 (by have := HDJ.out; omega)
            have m1 := c7.cell i5 (by have := HDJ.out; omega)
            have f0 := c7.frozen i4
            have f1 := c7.frozen i5
            obtain ⟨u, m2⟩ := c7.second i4 i5 (by have := HDJ.out; omega) (by have := HDJ.out; omega) _ (c7.ok i5 (by have := HDJ.out; omega))
            have s7 := c7.swap i4 i5 (by have := HDJ.out; omega) (by have := HDJ.out; omega)
            obtain ⟨x, hx⟩ : ∃ x, dj[i4]! = x := ⟨_, rfl⟩
            obtain ⟨y, hy⟩ : ∃ y, dj[i5]! = y := ⟨_, rfl⟩
            simp only [hx, hy] at s7 m0 m1 m2
            have HS7 := Lib.hid s7
            have mixed := Try.mixed
            clear c7 hx hy s7 HS6
            go_wp2_with fail
            go_big_region_o
            clear m0 m1 m2 f0 f1 mixed
            generalize ((v6.setCell ⟨d, i4, none⟩ (.int .i64 y)).setCell ⟨d, i5, none⟩ (.int .i64 x)).drew = v7 at *
            go_wp2
            go_roundw
            case rel => exact ⟨2 * root + 2, swp dj i4 i5, by go_num, by omega, Lib.hid (by rw [size_swp]; exact HDJ.out), HS7, Lib.hid (by rw [HQ.out, ← HE.out]; exact (sd_right_go (ltC D) dj hc1 HR.out HL6.out).symm)⟩
            case measure => simp [intOf]; omega
          · have d6 : decide (cv6 < 0) = false := decide_eq_false hcv6
            try simp only [d6, Bool.not_true, Bool.not_false]
            have HL6 := Lib.hid (show ltC D dj[first + root]! dj[first + (2 * root + 2)]! = false from by rw [← HI4.out, ← HI5.out, HV6.out]; exact d6)
            go_wp2
            refine bodyPost_ret (results_none rfl _ _ _) rfl ?_
            exact ⟨rfl, by rw [← HE.out, sd_right_stop (ltC D) dj hc1 HR.out HL6.out]; exact HS6.out⟩
        · have d3 : decide (cv3 < 0) = false := decide_eq_false hcv
          have HR := Lib.hid (show ltC D dj[first + (2 * root + 1)]! dj[first + (2 * root + 2)]! = false from by rw [← HI1.out, ← HI2.out, HV3.out]; exact d3)
          clear ea1 pa1 ba1 hb1 HI1 ea2 pa2 ba2 hb2 HI2
          go_wp2_with fail
          obtain ⟨i8, hi8⟩ : ∃ q : Nat, q = first + root := ⟨_, rfl⟩
          have ea8 : ((first : Int) + (root : Int)).toNat = i8 := by omega
          have pa8 : (0 : Int) ≤ (first : Int) + (root : Int) := by omega
          have ba8 : (first : Int) + (root : Int) < (N : Int) := by omega
          have ra8 : IntKind.i64.wrap ((first : Int) + (root : Int)) = (first : Int) + (root : Int) := IntWalk.i64_in _ (by omega)
          have hb8 : (i8 : Int) < (N : Int) := by omega
          have HI8 := Lib.hid hi8
          clear hi8
          obtain ⟨i9, hi9⟩ : ∃ q : Nat, q = first + (2 * root + 1) := ⟨_, rfl⟩
          have ea9 : ((first : Int) + (2 * (root : Int) + 1)).toNat = i9 := by omega
          have pa9 : (0 : Int) ≤ (first : Int) + (2 * (root : Int) + 1) := by omega
          have ba9 : (first : Int) + (2 * (root : Int) + 1) < (N : Int) := by omega
          have ra9 : IntKind.i64.wrap ((first : Int) + (2 * (root : Int) + 1)) = (first : Int) + (2 * (root : Int) + 1) := IntWalk.i64_in _ (by omega)
          have hb9 : (i9 : Int) < (N : Int) := by omega
          have HI9 := Lib.hid hi9
          clear hi9
          have HC10 := Lib.hid (fun w (h : SR w0 d g b n now D tl dj w) => h.cmp i8 i9 (by have := HDJ.out; omega) (by have := HDJ.out; omega))
          have HE10 := Lib.hid (fun w (h : SR w0 d g b n now D tl dj w) => And.intro (h.cell i8 (by have := HDJ.out; omega)) (h.cell i9 (by have := HDJ.out; omega)))
          obtain ⟨x10, hx10⟩ : ∃ x, dj[i8]! = x := ⟨_, rfl⟩
          obtain ⟨y10, hy10⟩ : ∃ x, dj[i9]! = x := ⟨_, rfl⟩
          simp only [hx10, hy10] at HC10 HE10
          obtain ⟨cv10, hc10⟩ : ∃ z, cmpC D x10 y10 = z := ⟨_, rfl⟩
          have HV10 := Lib.hid (show ltC D dj[i8]! dj[i9]! = decide (cv10 < 0) from by rw [hx10, hy10, ← hc10]; rfl)
          rw [hc10] at HC10
          clear hx10 hy10 hc10
          go_wp2_with fail
          refine wp_region_held_drew (S := fun w' => SR w0 d g b n now D tl dj w') (by kernel_rfl) (HS3.out.drew) (fun hHeld => ?_)
          refine wpAnyH_takeD (i := 0) (v := ?_) (some 43) rfl rfl (by kernel_rfl) (by kernel_rfl) (by kernel_rfl) (fun _ _ _ h => h) (Or.inl ⟨by rfl, ?_⟩) (by assumption) ?_
          rotate_left
          · intro w' hSw
            go_simp
            first | done | with_reducible rfl
          try simp only [Go.Act.put, List.setIfInBounds_toArray, List.set_cons_zero, List.set_cons_succ]
          refine wpAnyH_takeD (i := 1) (v := ?_) (some 44) rfl rfl (by kernel_rfl) (by kernel_rfl) (by kernel_rfl) (fun _ _ _ h => h) (Or.inl ⟨by rfl, ?_⟩) (by assumption) ?_
          rotate_left
          · intro w' hSw
            go_simp
            first | done | with_reducible rfl
          try simp only [Go.Act.put, List.setIfInBounds_toArray, List.set_cons_zero, List.set_cons_succ]
          refine wpAnyH_takeD (i := 2) (v := ?_) (some 45) rfl rfl (by kernel_rfl) (by kernel_rfl) (by kernel_rfl) (fun _ _ _ h => h) (Or.inl ⟨by rfl, ?_⟩) (by assumption) ?_
          rotate_left
          · intro w' hSw
            go_simp
            first | done | with_reducible rfl
          try simp only [Go.Act.put, List.setIfInBounds_toArray, List.set_cons_zero, List.set_cons_succ]
          refine wpAnyH_takeD (i := 3) (v := ?_) (some 46) rfl rfl (by kernel_rfl) (by kernel_rfl) (by kernel_rfl) (fun _ _ _ h => h) (Or.inl ⟨by rfl, ?_⟩) (by assumption) ?_
          rotate_left
          · intro w' hSw
            go_simp
            first | done | with_reducible rfl
          try simp only [Go.Act.put, List.setIfInBounds_toArray, List.set_cons_zero, List.set_cons_succ]
          refine wpAnyH_takeD (i := 4) (v := ?_) (some 47) rfl rfl (by kernel_rfl) (by kernel_rfl) (by kernel_rfl) (fun _ _ _ h => h) (Or.inl ⟨by rfl, ?_⟩) (by assumption) ?_
          rotate_left
          · intro w' hSw
            go_simp
            first | done | with_reducible rfl
          try simp only [Go.Act.put, List.setIfInBounds_toArray, List.set_cons_zero, List.set_cons_succ]
          refine wpAnyH_takeD (i := 5) (v := ?_) (some 48) rfl rfl (by kernel_rfl) (by kernel_rfl) (by kernel_rfl) (fun _ _ _ h => h) (Or.inl ⟨by rfl, ?_⟩) (by assumption) ?_
          rotate_left
          · intro w' hSw
            go_simp
            first | done | with_reducible rfl
          try simp only [Go.Act.put, List.setIfInBounds_toArray, List.set_cons_zero, List.set_cons_succ]
          refine wpAnyH_takeD (i := 6) (v := ?_) (some 49) rfl rfl (by kernel_rfl) (by kernel_rfl) (by kernel_rfl) (fun _ _ _ h => h) (Or.inl ⟨by rfl, ?_⟩) (by assumption) ?_
          rotate_left
          · intro w' hSw
            obtain ⟨m0, m1⟩ := HE10.out w' hSw
            go_simp
            first | done | with_reducible rfl
          try simp only [Go.Act.put, List.setIfInBounds_toArray, List.set_cons_zero, List.set_cons_succ]
          refine wpAnyH_takeD (i := 7) (v := ?_) (some 50) rfl rfl (by kernel_rfl) (by kernel_rfl) (by kernel_rfl) (fun _ _ _ h => h) (Or.inl ⟨by rfl, ?_⟩) (by assumption) ?_
          rotate_left
          · intro w' hSw
            go_simp
            first | done | with_reducible rfl
          try simp only [Go.Act.put, List.setIfInBounds_toArray, List.set_cons_zero, List.set_cons_succ]
          refine wpAnyH_takeD (i := 8) (v := ?_) (some 51) rfl rfl (by kernel_rfl) (by kernel_rfl) (by kernel_rfl) (fun _ _ _ h => h) (Or.inl ⟨by rfl, ?_⟩) (by assumption) ?_
          rotate_left
          · intro w' hSw
            go_simp
            first | done | with_reducible rfl
          try simp only [Go.Act.put, List.setIfInBounds_toArray, List.set_cons_zero, List.set_cons_succ]
          refine wpAnyH_takeD (i := 9) (v := ?_) (some 52) rfl rfl (by kernel_rfl) (by kernel_rfl) (by kernel_rfl) (fun _ _ _ h => h) (Or.inl ⟨by rfl, ?_⟩) (by assumption) ?_
          rotate_left
          · intro w' hSw
            go_simp
            first | done | with_reducible rfl
          try simp only [Go.Act.put, List.setIfInBounds_toArray, List.set_cons_zero, List.set_cons_succ]
          refine wpAnyH_takeD (i := 10) (v := ?_) (some 53) rfl rfl (by kernel_rfl) (by kernel_rfl) (by kernel_rfl) (fun _ _ _ h => h) (Or.inl ⟨by rfl, ?_⟩) (by assumption) ?_
          rotate_left
          · intro w' hSw
            go_simp
            first | done | with_reducible rfl
          try simp only [Go.Act.put, List.setIfInBounds_toArray, List.set_cons_zero, List.set_cons_succ]
          refine wpAnyH_takeD (i := 11) (v := ?_) (some 54) rfl rfl (by kernel_rfl) (by kernel_rfl) (by kernel_rfl) (fun _ _ _ h => h) (Or.inl ⟨by rfl, ?_⟩) (by assumption) ?_
          rotate_left
          · intro w' hSw
            go_simp
            first | done | with_reducible rfl
          try simp only [Go.Act.put, List.setIfInBounds_toArray, List.set_cons_zero, List.set_cons_succ]
          refine wpAnyH_takeD (i := 12) (v := ?_) (some 55) rfl rfl (by kernel_rfl) (by kernel_rfl) (by kernel_rfl) (fun _ _ _ h => h) (Or.inl ⟨by rfl, ?_⟩) (by assumption) ?_
          rotate_left
          · intro w' hSw
            obtain ⟨m0, m1⟩ := HE10.out w' hSw
            go_simp
            first | done | with_reducible rfl
          try simp only [Go.Act.put, List.setIfInBounds_toArray, List.set_cons_zero, List.set_cons_succ]
          refine wpAnyH_ready (rs := [13]) (by kernel_rfl) (by simp) ?_
          refine AllReadyH.cons rfl (fun K hK => ?_) AllReadyH.nil
          go_simp
          refine (HC10.out _ hHeld).mono ?_; rintro e v10 ⟨rfl, h9⟩
          try go_simp
          refine hK.out _ _ (h9) (fun hHeld => ?_)
          clear hK K
          try change wpAnyH _ _ _ _ _ _ _ (Go.Act.put _ (some 56) _) _
          try simp only [Go.Act.put, List.setIfInBounds_toArray, List.set_cons_zero, List.set_cons_succ]
          clear h9 HS3 HC10
          refine wpAnyH_takeD (i := 14) (v := ?_) (some 57) rfl rfl (by kernel_rfl) (by kernel_rfl) (by kernel_rfl) (fun _ _ _ h => h) (Or.inl ⟨by rfl, ?_⟩) (by assumption) ?_
          rotate_left
          · intro w' hSw
            go_simp
            first | done | with_reducible rfl
          try simp only [Go.Act.put, List.setIfInBounds_toArray, List.set_cons_zero, List.set_cons_succ]
          refine wpAnyH_takeD (i := 15) (v := ?_) (some 58) rfl rfl (by kernel_rfl) (by kernel_rfl) (by kernel_rfl) (fun _ _ _ h => h) (Or.inl ⟨by rfl, ?_⟩) (by assumption) ?_
          rotate_left
          · intro w' hSw
            go_simp
            first | done | with_reducible rfl
          try simp only [Go.Act.put, List.setIfInBounds_toArray, List.set_cons_zero, List.set_cons_succ]
          refine wpAnyH_done (by kernel_rfl) ?_ _
          have HS10 := Lib.hid hHeld
          clear hHeld HE10
          by_cases hcv10 : cv10 < 0
          · have d10 : decide (cv10 < 0) = true := decide_eq_true hcv10
            try simp only [d10, Bool.not_true, Bool.not_false]
            have HL10 := Lib.hid (show ltC D dj[first + root]! dj[first + (2 * root + 1)]! = true from by rw [← HI8.out, ← HI9.out, HV10.out]; exact d10)
            have HQ := Lib.hid (show swp dj i8 i9 = swp dj (first + root) (first + (2 * root + 1)) from by rw [HI8.out, HI9.out])
            have c11 := HS10.out
            have m0 := c11.cell i8 (by have := HDJ.out; omega)
            have m1 := c11.cell i9 (by have := HDJ.out; omega)
            have f0 := c11.frozen i8
            have f1 := c11.frozen i9
            obtain ⟨u, m2⟩ := c11.second i8 i9 (by have := HDJ.out; omega) (by have := HDJ.out; omega) _ (c11.ok i9 (by have := HDJ.out; omega))
            have s11 := c11.swap i8 i9 (by have := HDJ.out; omega) (by have := HDJ.out; omega)
            obtain ⟨x, hx⟩ : ∃ x, dj[i8]! = x := ⟨_, rfl⟩
            obtain ⟨y, hy⟩ : ∃ y, dj[i9]! = y := ⟨_, rfl⟩
            simp only [hx, hy] at s11 m0 m1 m2
            have HS11 := Lib.hid s11
            have mixed := Try.mixed
            clear c11 hx hy s11 HS10
            go_wp2_with fail
            go_big_region_o
            clear m0 m1 m2 f0 f1 mixed
            generalize ((v10.setCell ⟨d, i8, none⟩ (.int .i64 y)).setCell ⟨d, i9, none⟩ (.int .i64 x)).drew = v11 at *
            go_wp2
            go_roundw
            case rel => exact ⟨2 * root + 1, swp dj i8 i9, by go_num, by omega, Lib.hid (by rw [size_swp]; exact HDJ.out), HS11, Lib.hid (by rw [HQ.out, ← HE.out]; exact (sd_left_go (ltC D) dj (by omega) (fun _ => HR.out) HL10.out).symm)⟩
            case measure => simp [intOf]; omega
          · have d10 : decide (cv10 < 0) = false := decide_eq_false hcv10
            try simp only [d10, Bool.not_true, Bool.not_false]
            have HL10 := Lib.hid (show ltC D dj[first + root]! dj[first + (2 * root + 1)]! = false from by rw [← HI8.out, ← HI9.out, HV10.out]; exact d10)
            go_wp2
            refine bodyPost_ret (results_none rfl _ _ _) rfl ?_
            exact ⟨rfl, by rw [← HE.out, sd_left_stop (ltC D) dj (by omega) (fun _ => HR.out) HL10.out]; exact HS10.out⟩
      · have h1z : ¬ (2 * (root : Int) + 1 + 1 < (hi : Int)) := by omega
        have h1d : decide (2 * (root : Int) + 1 + 1 < (hi : Int)) = false := decide_eq_false h1z
        have mixed := Try.mixed
        have HJ2 := Lib.hid HJ.out.drew
        clear HJ
        go_wp2_with fail
        go_big_region_o
        clear mixed
        generalize wr.drew = w2 at *
        go_wp2_with fail
        obtain ⟨i12, hi12⟩ : ∃ q : Nat, q = first + root := ⟨_, rfl⟩
        have ea12 : ((first : Int) + (root : Int)).toNat = i12 := by omega
        have pa12 : (0 : Int) ≤ (first : Int) + (root : Int) := by omega
        have ba12 : (first : Int) + (root : Int) < (N : Int) := by omega
        have ra12 : IntKind.i64.wrap ((first : Int) + (root : Int)) = (first : Int) + (root : Int) := IntWalk.i64_in _ (by omega)
        have hb12 : (i12 : Int) < (N : Int) := by omega
        have HI12 := Lib.hid hi12
        clear hi12
        obtain ⟨i13, hi13⟩ : ∃ q : Nat, q = first + (2 * root + 1) := ⟨_, rfl⟩
        have ea13 : ((first : Int) + (2 * (root : Int) + 1)).toNat = i13 := by omega
        have pa13 : (0 : Int) ≤ (first : Int) + (2 * (root : Int) + 1) := by omega
        have ba13 : (first : Int) + (2 * (root : Int) + 1) < (N : Int) := by omega
        have ra13 : IntKind.i64.wrap ((first : Int) + (2 * (root : Int) + 1)) = (first : Int) + (2 * (root : Int) + 1) := IntWalk.i64_in _ (by omega)
        have hb13 : (i13 : Int) < (N : Int) := by omega
        have HI13 := Lib.hid hi13
        clear hi13
        have HC14 := Lib.hid (fun w (h : SR w0 d g b n now D tl dj w) => h.cmp i12 i13 (by have := HDJ.out; omega) (by have := HDJ.out; omega))
        have HE14 := Lib.hid (fun w (h : SR w0 d g b n now D tl dj w) => And.intro (h.cell i12 (by have := HDJ.out; omega)) (h.cell i13 (by have := HDJ.out; omega)))
        obtain ⟨x14, hx14⟩ : ∃ x, dj[i12]! = x := ⟨_, rfl⟩
        obtain ⟨y14, hy14⟩ : ∃ x, dj[i13]! = x := ⟨_, rfl⟩
        simp only [hx14, hy14] at HC14 HE14
        obtain ⟨cv14, hc14⟩ : ∃ z, cmpC D x14 y14 = z := ⟨_, rfl⟩
        have HV14 := Lib.hid (show ltC D dj[i12]! dj[i13]! = decide (cv14 < 0) from by rw [hx14, hy14, ← hc14]; rfl)
        rw [hc14] at HC14
        clear hx14 hy14 hc14
        go_wp2_with fail
        refine wp_region_held_drew (S := fun w' => SR w0 d g b n now D tl dj w') (by kernel_rfl) (HJ2.out.drew) (fun hHeld => ?_)
        refine wpAnyH_takeD (i := 0) (v := ?_) (some 43) rfl rfl (by kernel_rfl) (by kernel_rfl) (by kernel_rfl) (fun _ _ _ h => h) (Or.inl ⟨by rfl, ?_⟩) (by assumption) ?_
        rotate_left
        · intro w' hSw
          go_simp
          first | done | with_reducible rfl
        try simp only [Go.Act.put, List.setIfInBounds_toArray, List.set_cons_zero, List.set_cons_succ]
        refine wpAnyH_takeD (i := 1) (v := ?_) (some 44) rfl rfl (by kernel_rfl) (by kernel_rfl) (by kernel_rfl) (fun _ _ _ h => h) (Or.inl ⟨by rfl, ?_⟩) (by assumption) ?_
        rotate_left
        · intro w' hSw
          go_simp
          first | done | with_reducible rfl
        try simp only [Go.Act.put, List.setIfInBounds_toArray, List.set_cons_zero, List.set_cons_succ]
        refine wpAnyH_takeD (i := 2) (v := ?_) (some 45) rfl rfl (by kernel_rfl) (by kernel_rfl) (by kernel_rfl) (fun _ _ _ h => h) (Or.inl ⟨by rfl, ?_⟩) (by assumption) ?_
        rotate_left
        · intro w' hSw
          go_simp
          first | done | with_reducible rfl
        try simp only [Go.Act.put, List.setIfInBounds_toArray, List.set_cons_zero, List.set_cons_succ]
        refine wpAnyH_takeD (i := 3) (v := ?_) (some 46) rfl rfl (by kernel_rfl) (by kernel_rfl) (by kernel_rfl) (fun _ _ _ h => h) (Or.inl ⟨by rfl, ?_⟩) (by assumption) ?_
        rotate_left
        · intro w' hSw
          go_simp
          first | done | with_reducible rfl
        try simp only [Go.Act.put, List.setIfInBounds_toArray, List.set_cons_zero, List.set_cons_succ]
        refine wpAnyH_takeD (i := 4) (v := ?_) (some 47) rfl rfl (by kernel_rfl) (by kernel_rfl) (by kernel_rfl) (fun _ _ _ h => h) (Or.inl ⟨by rfl, ?_⟩) (by assumption) ?_
        rotate_left
        · intro w' hSw
          go_simp
          first | done | with_reducible rfl
        try simp only [Go.Act.put, List.setIfInBounds_toArray, List.set_cons_zero, List.set_cons_succ]
        refine wpAnyH_takeD (i := 5) (v := ?_) (some 48) rfl rfl (by kernel_rfl) (by kernel_rfl) (by kernel_rfl) (fun _ _ _ h => h) (Or.inl ⟨by rfl, ?_⟩) (by assumption) ?_
        rotate_left
        · intro w' hSw
          go_simp
          first | done | with_reducible rfl
        try simp only [Go.Act.put, List.setIfInBounds_toArray, List.set_cons_zero, List.set_cons_succ]
        refine wpAnyH_takeD (i := 6) (v := ?_) (some 49) rfl rfl (by kernel_rfl) (by kernel_rfl) (by kernel_rfl) (fun _ _ _ h => h) (Or.inl ⟨by rfl, ?_⟩) (by assumption) ?_
        rotate_left
        · intro w' hSw
          obtain ⟨m0, m1⟩ := HE14.out w' hSw
          go_simp
          first | done | with_reducible rfl
        try simp only [Go.Act.put, List.setIfInBounds_toArray, List.set_cons_zero, List.set_cons_succ]
        refine wpAnyH_takeD (i := 7) (v := ?_) (some 50) rfl rfl (by kernel_rfl) (by kernel_rfl) (by kernel_rfl) (fun _ _ _ h => h) (Or.inl ⟨by rfl, ?_⟩) (by assumption) ?_
        rotate_left
        · intro w' hSw
          go_simp
          first | done | with_reducible rfl
        try simp only [Go.Act.put, List.setIfInBounds_toArray, List.set_cons_zero, List.set_cons_succ]
        refine wpAnyH_takeD (i := 8) (v := ?_) (some 51) rfl rfl (by kernel_rfl) (by kernel_rfl) (by kernel_rfl) (fun _ _ _ h => h) (Or.inl ⟨by rfl, ?_⟩) (by assumption) ?_
        rotate_left
        · intro w' hSw
          go_simp
          first | done | with_reducible rfl
        try simp only [Go.Act.put, List.setIfInBounds_toArray, List.set_cons_zero, List.set_cons_succ]
        refine wpAnyH_takeD (i := 9) (v := ?_) (some 52) rfl rfl (by kernel_rfl) (by kernel_rfl) (by kernel_rfl) (fun _ _ _ h => h) (Or.inl ⟨by rfl, ?_⟩) (by assumption) ?_
        rotate_left
        · intro w' hSw
          go_simp
          first | done | with_reducible rfl
        try simp only [Go.Act.put, List.setIfInBounds_toArray, List.set_cons_zero, List.set_cons_succ]
        refine wpAnyH_takeD (i := 10) (v := ?_) (some 53) rfl rfl (by kernel_rfl) (by kernel_rfl) (by kernel_rfl) (fun _ _ _ h => h) (Or.inl ⟨by rfl, ?_⟩) (by assumption) ?_
        rotate_left
        · intro w' hSw
          go_simp
          first | done | with_reducible rfl
        try simp only [Go.Act.put, List.setIfInBounds_toArray, List.set_cons_zero, List.set_cons_succ]
        refine wpAnyH_takeD (i := 11) (v := ?_) (some 54) rfl rfl (by kernel_rfl) (by kernel_rfl) (by kernel_rfl) (fun _ _ _ h => h) (Or.inl ⟨by rfl, ?_⟩) (by assumption) ?_
        rotate_left
        · intro w' hSw
          go_simp
          first | done | with_reducible rfl
        try simp only [Go.Act.put, List.setIfInBounds_toArray, List.set_cons_zero, List.set_cons_succ]
        refine wpAnyH_takeD (i := 12) (v := ?_) (some 55) rfl rfl (by kernel_rfl) (by kernel_rfl) (by kernel_rfl) (fun _ _ _ h => h) (Or.inl ⟨by rfl, ?_⟩) (by assumption) ?_
        rotate_left
        · intro w' hSw
          obtain ⟨m0, m1⟩ := HE14.out w' hSw
          go_simp
          first | done | with_reducible rfl
        try simp only [Go.Act.put, List.setIfInBounds_toArray, List.set_cons_zero, List.set_cons_succ]
        refine wpAnyH_ready (rs := [13]) (by kernel_rfl) (by simp) ?_
        refine AllReadyH.cons rfl (fun K hK => ?_) AllReadyH.nil
        go_simp
        refine (HC14.out _ hHeld).mono ?_; rintro e v14 ⟨rfl, h9⟩
        try go_simp
        refine hK.out _ _ (h9) (fun hHeld => ?_)
        clear hK K
        try change wpAnyH _ _ _ _ _ _ _ (Go.Act.put _ (some 56) _) _
        try simp only [Go.Act.put, List.setIfInBounds_toArray, List.set_cons_zero, List.set_cons_succ]
        clear h9 HJ2 HC14
        refine wpAnyH_takeD (i := 14) (v := ?_) (some 57) rfl rfl (by kernel_rfl) (by kernel_rfl) (by kernel_rfl) (fun _ _ _ h => h) (Or.inl ⟨by rfl, ?_⟩) (by assumption) ?_
        rotate_left
        · intro w' hSw
          go_simp
          first | done | with_reducible rfl
        try simp only [Go.Act.put, List.setIfInBounds_toArray, List.set_cons_zero, List.set_cons_succ]
        refine wpAnyH_takeD (i := 15) (v := ?_) (some 58) rfl rfl (by kernel_rfl) (by kernel_rfl) (by kernel_rfl) (fun _ _ _ h => h) (Or.inl ⟨by rfl, ?_⟩) (by assumption) ?_
        rotate_left
        · intro w' hSw
          go_simp
          first | done | with_reducible rfl
        try simp only [Go.Act.put, List.setIfInBounds_toArray, List.set_cons_zero, List.set_cons_succ]
        refine wpAnyH_done (by kernel_rfl) ?_ _
        have HS14 := Lib.hid hHeld
        clear hHeld HE14
        by_cases hcv14 : cv14 < 0
        · have d14 : decide (cv14 < 0) = true := decide_eq_true hcv14
          try simp only [d14, Bool.not_true, Bool.not_false]
          have HL14 := Lib.hid (show ltC D dj[first + root]! dj[first + (2 * root + 1)]! = true from by rw [← HI12.out, ← HI13.out, HV14.out]; exact d14)
          have HQ := Lib.hid (show swp dj i12 i13 = swp dj (first + root) (first + (2 * root + 1)) from by rw [HI12.out, HI13.out])
          have c15 := HS14.out
          have m0 := c15.cell i12 (by have := HDJ.out; omega)
          have m1 := c15.cell i13 (by have := HDJ.out; omega)
          have f0 := c15.frozen i12
          have f1 := c15.frozen i13
          obtain ⟨u, m2⟩ := c15.second i12 i13 (by have := HDJ.out; omega) (by have := HDJ.out; omega) _ (c15.ok i13 (by have := HDJ.out; omega))
          have s15 := c15.swap i12 i13 (by have := HDJ.out; omega) (by have := HDJ.out; omega)
          obtain ⟨x, hx⟩ : ∃ x, dj[i12]! = x := ⟨_, rfl⟩
          obtain ⟨y, hy⟩ : ∃ y, dj[i13]! = y := ⟨_, rfl⟩
          simp only [hx, hy] at s15 m0 m1 m2
          have HS15 := Lib.hid s15
          have mixed := Try.mixed
          clear c15 hx hy s15 HS14
          go_wp2_with fail
          go_big_region_o
          clear m0 m1 m2 f0 f1 mixed
          generalize ((v14.setCell ⟨d, i12, none⟩ (.int .i64 y)).setCell ⟨d, i13, none⟩ (.int .i64 x)).drew = v15 at *
          go_wp2
          go_roundw
          case rel => exact ⟨2 * root + 1, swp dj i12 i13, by go_num, by omega, Lib.hid (by rw [size_swp]; exact HDJ.out), HS15, Lib.hid (by rw [HQ.out, ← HE.out]; exact (sd_left_go (ltC D) dj (by omega) (fun h => absurd h hc1) HL14.out).symm)⟩
          case measure => simp [intOf]; omega
        · have d14 : decide (cv14 < 0) = false := decide_eq_false hcv14
          try simp only [d14, Bool.not_true, Bool.not_false]
          have HL14 := Lib.hid (show ltC D dj[first + root]! dj[first + (2 * root + 1)]! = false from by rw [← HI12.out, ← HI13.out, HV14.out]; exact d14)
          go_wp2
          refine bodyPost_ret (results_none rfl _ _ _) rfl ?_
          exact ⟨rfl, by rw [← HE.out, sd_left_stop (ltC D) dj (by omega) (fun h => absurd h hc1) HL14.out]; exact HS14.out⟩
end Go.Proofs.Ytholaofgdahcbaa
