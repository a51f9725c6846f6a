/- slices.partialInsertionSortCmpFunc under a clock's comparison. -/
import Derived.Test.YtholaofgdahcbaaWg
import Derived.Sort.WalkA6
namespace Go.Proofs.Ytholaofgdahcbaa
open Go.RowKit Go.Maps Go.Sort

set_option maxRecDepth 100000 in
set_option maxHeartbeats 8000000 in
theorem pi_any (w0 : World) (d cap g b n : Nat) (now : Int) (D : DataW Unit) (tl : List Value) (a hi N : Nat) (dk : Array Int) (w : World) (h : SR w0 d g b n now D tl dk w) (hN : dk.size = N) (h1 : a < hi) (h2 : hi ≤ N) (h3 : (N : Int) ≤ 4611686018427387903) :
    Calls Try.prog 37 #[.slice (some ⟨d, 0, none⟩) N cap, .int .i64 a, .int .i64 hi, cmpF g] w fun e w' => e = .returned (.bool (partialInsertionSort (ltC D) dk a hi).2) ∧ SR w0 d g b n now D tl (partialInsertionSort (ltC D) dk a hi).1 w' := by
  have H := Lib.hid h
  have HN := Lib.hid hN
  have h1i : (a : Int) < (hi : Int) := by omega
  have h2i : (hi : Int) ≤ (N : Int) := by omega
  have haw : IntKind.i64.wrap ((a : Int) + 1) = (a : Int) + 1 := IntWalk.i64_in _ (by omega)
  clear h hN
  unfold cmpF
  go_enter Try.func37, Try.ntmps37
  go_wp2
  go_loopw [9, 10] (fun vi vs wr => ∃ (i s : Nat) (di : Array Int), vi = .int .i64 i ∧ vs = .int .i64 s ∧ s ≤ 5 ∧ a < i ∧ i ≤ hi ∧ Hid (di.size = N) ∧ Hid (SR w0 d g b n now D tl di wr) ∧ Hid (partialIns (ltC D) a hi (5 - s) i di = partialInsertionSort (ltC D) dk a hi)) (fun _ vs _ => 5 - (intOf vs).toNat)
  case atStart => exact ⟨a + 1, 0, dk, by go_num, rfl, by omega, by omega, by omega, HN, H, Lib.hid rfl⟩
  case round =>
    obtain ⟨i, s, di, rfl, rfl, hs5, hai, hib, HDI, HI, HPI⟩ := hrel
    clear H HN
    by_cases hs : s < 5
    · have hsz : (s : Int) < 5 := by omega
      go_wp2
      generalize wr = wo at *
      go_loopw [9] (fun vk wr => ∃ (kp : Nat), vk = .int .i64 ((kp : Int) + 1) ∧ i ≤ kp + 1 ∧ kp + 1 ≤ hi ∧ Hid (SR w0 d g b n now D tl di wr) ∧ Hid (scanSorted (ltC D) di hi (kp + 1) = scanSorted (ltC D) di hi i)) (fun vk _ => hi - (intOf vk).toNat)
      case atStart =>
        obtain ⟨ip, rfl⟩ : ∃ ip, i = ip + 1 := ⟨i - 1, by omega⟩
        exact ⟨ip, by go_num, by omega, by omega, HI, Lib.hid rfl⟩
      case round =>
        obtain ⟨kp, rfl, hk1, hk2, HJ, HSC⟩ := hrel
        clear HI
        by_cases hkb : kp + 1 < hi
        · have hkbz : (kp : Int) + 1 < (hi : Int) := by omega
          have pz0 : (0 : Int) ≤ (kp : Int) + 1 := by omega
          have pz1 : (kp : Int) + 1 < (N : Int) := by omega
          have pz2 : (0 : Int) ≤ (kp : Int) := by omega
          have pz3 : (kp : Int) < (N : Int) := by omega
          have pz4 : ((kp : Int) + 1).toNat = kp + 1 := by omega
          have pz5 : IntKind.i64.wrap ((kp : Int) + 1 - 1) = (kp : Int) := by rw [show (kp : Int) + 1 - 1 = kp by omega]; exact IntWalk.i64_in _ (by omega)
          have pz6 : IntKind.i64.wrap (kp : Int) = (kp : Int) := IntWalk.i64_in _ (by omega)
          have pz7 : IntKind.i64.wrap ((kp : Int) + 1) = (kp : Int) + 1 := IntWalk.i64_in _ (by omega)
          have pz8 : (kp : Int) + 1 - 1 = (kp : Int) := by omega
          have HC1 := Lib.hid (fun w (h : SR w0 d g b n now D tl di w) => h.cmp (kp + 1) kp (by have := HDI.out; omega) (by have := HDI.out; omega))
          have HE1 := Lib.hid (fun w (h : SR w0 d g b n now D tl di w) => And.intro (h.cell (kp + 1) (by have := HDI.out; omega)) (h.cell kp (by have := HDI.out; omega)))
          obtain ⟨x1, hx1⟩ : ∃ x, di[(kp + 1)]! = x := ⟨_, rfl⟩
          obtain ⟨y1, hy1⟩ : ∃ x, di[kp]! = x := ⟨_, rfl⟩
          simp only [hx1, hy1] at HC1 HE1
          obtain ⟨cv1, hc1⟩ : ∃ z, cmpC D x1 y1 = z := ⟨_, rfl⟩
          have HV1 := Lib.hid (show ltC D di[(kp + 1)]! di[kp]! = decide (cv1 < 0) from by rw [hx1, hy1, ← hc1]; rfl)
          rw [hc1] at HC1
          clear hx1 hy1 hc1
          go_wp2_with fail
          refine wp_region_held_drew (S := fun w' => SR w0 d g b n now D tl di w') (by kernel_rfl) (HJ.out.drew) (fun hHeld => ?_)
          refine wpAnyH_takeD (i := 0) (v := ?_) (some 19) rfl rfl (by kernel_rfl) (by kernel_rfl) (by kernel_rfl) (fun _ _ _ h => h) (Or.inl ⟨by rfl, ?_⟩) (by assumption) ?_
          rotate_left
          · intro w' hSw
            go_simp
            first | done | with_reducible rfl
          try simp only [Go.Act.put, List.setIfInBounds_toArray, List.set_cons_zero, List.set_cons_succ]
          refine wpAnyH_takeD (i := 1) (v := ?_) (some 20) rfl rfl (by kernel_rfl) (by kernel_rfl) (by kernel_rfl) (fun _ _ _ h => h) (Or.inl ⟨by rfl, ?_⟩) (by assumption) ?_
          rotate_left
          · intro w' hSw
            go_simp
            first | done | with_reducible rfl
          try simp only [Go.Act.put, List.setIfInBounds_toArray, List.set_cons_zero, List.set_cons_succ]
          refine wpAnyH_takeD (i := 2) (v := ?_) (some 21) rfl rfl (by kernel_rfl) (by kernel_rfl) (by kernel_rfl) (fun _ _ _ h => h) (Or.inl ⟨by rfl, ?_⟩) (by assumption) ?_
          rotate_left
          · intro w' hSw
            go_simp
            first | done | with_reducible rfl
          try simp only [Go.Act.put, List.setIfInBounds_toArray, List.set_cons_zero, List.set_cons_succ]
          refine wpAnyH_takeD (i := 3) (v := ?_) (some 22) rfl rfl (by kernel_rfl) (by kernel_rfl) (by kernel_rfl) (fun _ _ _ h => h) (Or.inl ⟨by rfl, ?_⟩) (by assumption) ?_
          rotate_left
          · intro w' hSw
            go_simp
            first | done | with_reducible rfl
          try simp only [Go.Act.put, List.setIfInBounds_toArray, List.set_cons_zero, List.set_cons_succ]
          refine wpAnyH_takeD (i := 4) (v := ?_) (some 23) rfl rfl (by kernel_rfl) (by kernel_rfl) (by kernel_rfl) (fun _ _ _ h => h) (Or.inl ⟨by rfl, ?_⟩) (by assumption) ?_
          rotate_left
          · intro w' hSw
            go_simp
            first | done | with_reducible rfl
          try simp only [Go.Act.put, List.setIfInBounds_toArray, List.set_cons_zero, List.set_cons_succ]
          refine wpAnyH_takeD (i := 5) (v := ?_) (some 24) rfl rfl (by kernel_rfl) (by kernel_rfl) (by kernel_rfl) (fun _ _ _ h => h) (Or.inl ⟨by rfl, ?_⟩) (by assumption) ?_
          rotate_left
          · intro w' hSw
            go_simp
            first | done | with_reducible rfl
          try simp only [Go.Act.put, List.setIfInBounds_toArray, List.set_cons_zero, List.set_cons_succ]
          refine wpAnyH_takeD (i := 6) (v := ?_) (some 25) rfl rfl (by kernel_rfl) (by kernel_rfl) (by kernel_rfl) (fun _ _ _ h => h) (Or.inl ⟨by rfl, ?_⟩) (by assumption) ?_
          rotate_left
          · intro w' hSw
            go_simp
            first | done | with_reducible rfl
          try simp only [Go.Act.put, List.setIfInBounds_toArray, List.set_cons_zero, List.set_cons_succ]
          refine wpAnyH_takeD (i := 7) (v := ?_) (some 26) rfl rfl (by kernel_rfl) (by kernel_rfl) (by kernel_rfl) (fun _ _ _ h => h) (Or.inl ⟨by rfl, ?_⟩) (by assumption) ?_
          rotate_left
          · intro w' hSw
            go_simp
            first | done | with_reducible rfl
          try simp only [Go.Act.put, List.setIfInBounds_toArray, List.set_cons_zero, List.set_cons_succ]
          refine wpAnyH_takeD (i := 8) (v := ?_) (some 27) rfl rfl (by kernel_rfl) (by kernel_rfl) (by kernel_rfl) (fun _ _ _ h => h) (Or.inl ⟨by rfl, ?_⟩) (by assumption) ?_
          rotate_left
          · intro w' hSw
            obtain ⟨m0, m1⟩ := HE1.out w' hSw
            go_simp
            first | done | with_reducible rfl
          try simp only [Go.Act.put, List.setIfInBounds_toArray, List.set_cons_zero, List.set_cons_succ]
          refine wpAnyH_takeD (i := 9) (v := ?_) (some 28) rfl rfl (by kernel_rfl) (by kernel_rfl) (by kernel_rfl) (fun _ _ _ h => h) (Or.inl ⟨by rfl, ?_⟩) (by assumption) ?_
          rotate_left
          · intro w' hSw
            go_simp
            first | done | with_reducible rfl
          try simp only [Go.Act.put, List.setIfInBounds_toArray, List.set_cons_zero, List.set_cons_succ]
          refine wpAnyH_takeD (i := 10) (v := ?_) (some 29) rfl rfl (by kernel_rfl) (by kernel_rfl) (by kernel_rfl) (fun _ _ _ h => h) (Or.inl ⟨by rfl, ?_⟩) (by assumption) ?_
          rotate_left
          · intro w' hSw
            go_simp
            first | done | with_reducible rfl
          try simp only [Go.Act.put, List.setIfInBounds_toArray, List.set_cons_zero, List.set_cons_succ]
          refine wpAnyH_takeD (i := 11) (v := ?_) (some 30) rfl rfl (by kernel_rfl) (by kernel_rfl) (by kernel_rfl) (fun _ _ _ h => h) (Or.inl ⟨by rfl, ?_⟩) (by assumption) ?_
          rotate_left
          · intro w' hSw
            go_simp
            first | done | with_reducible rfl
          try simp only [Go.Act.put, List.setIfInBounds_toArray, List.set_cons_zero, List.set_cons_succ]
          refine wpAnyH_takeD (i := 12) (v := ?_) (some 31) rfl rfl (by kernel_rfl) (by kernel_rfl) (by kernel_rfl) (fun _ _ _ h => h) (Or.inl ⟨by rfl, ?_⟩) (by assumption) ?_
          rotate_left
          · intro w' hSw
            go_simp
            first | done | with_reducible rfl
          try simp only [Go.Act.put, List.setIfInBounds_toArray, List.set_cons_zero, List.set_cons_succ]
          refine wpAnyH_takeD (i := 13) (v := ?_) (some 32) rfl rfl (by kernel_rfl) (by kernel_rfl) (by kernel_rfl) (fun _ _ _ h => h) (Or.inl ⟨by rfl, ?_⟩) (by assumption) ?_
          rotate_left
          · intro w' hSw
            obtain ⟨m0, m1⟩ := HE1.out w' hSw
            go_simp
            first | done | with_reducible rfl
          try simp only [Go.Act.put, List.setIfInBounds_toArray, List.set_cons_zero, List.set_cons_succ]
          refine wpAnyH_ready (rs := [14]) (by kernel_rfl) (by simp) ?_
          refine AllReadyH.cons rfl (fun K hK => ?_) AllReadyH.nil
          go_simp
          refine (HC1.out _ hHeld).mono ?_; rintro e v1 ⟨rfl, h9⟩
          try go_simp
          refine hK.out _ _ (h9) (fun hHeld => ?_)
          clear hK K
          try change wpAnyH _ _ _ _ _ _ _ (Go.Act.put _ (some 33) _) _
          try simp only [Go.Act.put, List.setIfInBounds_toArray, List.set_cons_zero, List.set_cons_succ]
          clear h9 HJ HC1
          refine wpAnyH_takeD (i := 15) (v := ?_) (some 34) rfl rfl (by kernel_rfl) (by kernel_rfl) (by kernel_rfl) (fun _ _ _ h => h) (Or.inl ⟨by rfl, ?_⟩) (by assumption) ?_
          rotate_left
          · intro w' hSw
            go_simp
            first | done | with_reducible rfl
          try simp only [Go.Act.put, List.setIfInBounds_toArray, List.set_cons_zero, List.set_cons_succ]
          refine wpAnyH_takeD (i := 16) (v := ?_) (some 35) rfl rfl (by kernel_rfl) (by kernel_rfl) (by kernel_rfl) (fun _ _ _ h => h) (Or.inl ⟨by rfl, ?_⟩) (by assumption) ?_
          rotate_left
          · intro w' hSw
            go_simp
            first | done | with_reducible rfl
          try simp only [Go.Act.put, List.setIfInBounds_toArray, List.set_cons_zero, List.set_cons_succ]
          refine wpAnyH_takeD (i := 17) (v := ?_) (some 36) rfl rfl (by kernel_rfl) (by kernel_rfl) (by kernel_rfl) (fun _ _ _ h => h) (Or.inl ⟨by rfl, ?_⟩) (by assumption) ?_
          rotate_left
          · intro w' hSw
            go_simp
            first | done | with_reducible rfl
          try simp only [Go.Act.put, List.setIfInBounds_toArray, List.set_cons_zero, List.set_cons_succ]
          refine wpAnyH_done (by kernel_rfl) ?_ _
          have HS1 := Lib.hid hHeld
          clear hHeld HE1
          by_cases hcv1 : cv1 < 0
          · have d1 : decide (cv1 < 0) = true := decide_eq_true hcv1
            try simp only [d1, Bool.not_true, Bool.not_false]
            have HK := Lib.hid (show scanSorted (ltC D) di hi i = kp + 1 from by rw [← HSC.out]; exact scanSorted_stop (ltC D) di hi (kp + 1) (Or.inr (by rw [Nat.add_sub_cancel, HV1.out]; exact d1)))
            clear HSC HV1
            have hne : ((kp : Int) + 1 == (hi : Int)) = false := by simp; omega
            have hshw : IntKind.i64.wrap ((hi : Int) - (a : Int)) = (hi : Int) - (a : Int) := IntWalk.i64_in _ (by omega)
            by_cases h50 : hi - a < 50
            · have h50z : (hi : Int) - (a : Int) < 50 := by omega
              have hv : partialInsertionSort (ltC D) dk a hi = (di, false) := by rw [← HPI.out]; exact pi_short (ltC D) a hi s i di hs (by rw [HK.out]; omega) h50
              have HVV := Lib.hid hv
              clear hv HPI HK
              go_wp2
              try simp only [Exit.inBlock, Exit.then]
              go_ret
              rw [HVV.out]
              exact ⟨rfl, HS1.out⟩
            · have h50z : ¬ ((hi : Int) - (a : Int) < 50) := by omega
              have HDJ := HDI
              have c2 := HS1.out
              have m0 := c2.cell (kp + 1) (by have := HDJ.out; omega)
              have m1 := c2.cell kp (by have := HDJ.out; omega)
              have f0 := c2.frozen (kp + 1)
              have f1 := c2.frozen kp
              obtain ⟨u, m2⟩ := c2.second (kp + 1) kp (by have := HDJ.out; omega) (by have := HDJ.out; omega) _ (c2.ok kp (by have := HDJ.out; omega))
              have s2 := c2.swap (kp + 1) kp (by have := HDJ.out; omega) (by have := HDJ.out; omega)
              obtain ⟨x, hx⟩ : ∃ x, di[(kp + 1)]! = x := ⟨_, rfl⟩
              obtain ⟨y, hy⟩ : ∃ y, di[kp]! = y := ⟨_, rfl⟩
              simp only [hx, hy] at s2 m0 m1 m2
              have HS2 := Lib.hid s2
              have mixed := Try.mixed
              clear c2 hx hy s2 HS1
              go_wp2_with fail
              go_big_region_o
              clear m0 m1 m2 f0 f1 mixed
              generalize ((v1.setCell ⟨d, (kp + 1), none⟩ (.int .i64 y)).setCell ⟨d, kp, none⟩ (.int .i64 x)).drew = v2 at *
              have HDS := Lib.hid (show (swp di (kp + 1) kp).size = N from by rw [size_swp]; exact HDI.out)
              clear HDJ
              clear pz0 pz1 pz2 pz3 pz4 pz5 pz6 pz7 pz8
              by_cases hdn : a + 2 ≤ kp + 1
              · have hdnz : (2 : Int) ≤ (kp : Int) + 1 - (a : Int) := by omega
                have hdnw : IntKind.i64.wrap ((kp : Int) + 1 - (a : Int)) = (kp : Int) + 1 - (a : Int) := IntWalk.i64_in _ (by omega)
                have hfd : fixDown (ltC D) a (kp + 1) (swp di (kp + 1) kp) = shiftDown (ltC D) kp (swp di (kp + 1) kp) := by unfold fixDown; rw [if_pos (by omega)]; rfl
                have HFD0 := Lib.hid hfd
                clear hfd
                go_wp2_with fail
                generalize v2 = wq at *
                go_loopw [11] (fun vj wr => ∃ (j : Nat) (dd : Array Int), vj = .int .i64 j ∧ j ≤ kp ∧ Hid (dd.size = N) ∧ Hid (SR w0 d g b n now D tl dd wr) ∧ Hid (shiftDown (ltC D) j dd = shiftDown (ltC D) kp (swp di (kp + 1) kp))) (fun vj _ => (intOf vj).toNat)
                case atStart => exact ⟨kp, (swp di (kp + 1) kp), by go_num, Nat.le_refl _, HDS, HS2, Lib.hid rfl⟩
                case round =>
                  obtain ⟨j0, dd, rfl, hj1, HDD, HJD, HED⟩ := hrel
                  clear HS2 HDS
                  rcases j0 with _ | jj
                  · have HFD := Lib.hid (show fixDown (ltC D) a (kp + 1) (swp di (kp + 1) kp) = dd from by rw [HFD0.out, ← HED.out]; exact shiftDown_stop (ltC D) 0 dd (Or.inl rfl))
                    have HDA := HDD
                    clear HFD0 HED
                    rw [show ((0 : Nat) : Int) = 0 from rfl]
                    by_cases hup : kp + 1 + 2 ≤ hi
                    · have hupz : (2 : Int) ≤ (hi : Int) - ((kp : Int) + 1) := by omega
                      have hupw : IntKind.i64.wrap ((hi : Int) - ((kp : Int) + 1)) = (hi : Int) - ((kp : Int) + 1) := IntWalk.i64_in _ (by omega)
                      have hupv : IntKind.i64.wrap ((kp : Int) + 1 + 1) = (kp : Int) + 1 + 1 := IntWalk.i64_in _ (by omega)
                      have hfu : fixUp (ltC D) hi (kp + 1) dd = shiftUp (ltC D) hi (kp + 2) dd := by unfold fixUp; rw [if_pos (by omega)]
                      have HFU := Lib.hid hfu
                      clear hfu
                      go_wp2_with fail
                      generalize wr = wp at *
                      go_loopw [12] (fun vj wr => ∃ (j : Nat) (du : Array Int), vj = .int .i64 ((j : Int) + 1) ∧ kp + 1 ≤ j ∧ j + 1 ≤ hi ∧ Hid (du.size = N) ∧ Hid (SR w0 d g b n now D tl du wr) ∧ Hid (shiftUp (ltC D) hi (j + 1) du = shiftUp (ltC D) hi (kp + 2) dd)) (fun vj _ => hi - (intOf vj).toNat)
                      case atStart => exact ⟨kp + 1, dd, by go_num, by omega, by omega, HDA, HJD, Lib.hid rfl⟩
                      case round =>
                        obtain ⟨j, du, rfl, hj1, hj2, HDJ, HJ, HE⟩ := hrel
                        clear HJD HDA
                        by_cases hjb : j + 1 < hi
                        · have hjbz : (j : Int) + 1 < (hi : Int) := by omega
                          have pz0 : (0 : Int) ≤ (j : Int) + 1 := by omega
                          have pz1 : (j : Int) + 1 < (N : Int) := by omega
                          have pz2 : (0 : Int) ≤ (j : Int) := by omega
                          have pz3 : (j : Int) < (N : Int) := by omega
                          have pz4 : ((j : Int) + 1).toNat = j + 1 := by omega
                          have pz5 : IntKind.i64.wrap ((j : Int) + 1 - 1) = (j : Int) := by rw [show (j : Int) + 1 - 1 = j by omega]; exact IntWalk.i64_in _ (by omega)
                          have pz6 : IntKind.i64.wrap (j : Int) = (j : Int) := IntWalk.i64_in _ (by omega)
                          have pz7 : IntKind.i64.wrap ((j : Int) + 1) = (j : Int) + 1 := IntWalk.i64_in _ (by omega)
                          have pz8 : (j : Int) + 1 - 1 = (j : Int) := by omega
                          have HC3 := Lib.hid (fun w (h : SR w0 d g b n now D tl du w) => h.cmp (j + 1) j (by have := HDJ.out; omega) (by have := HDJ.out; omega))
                          have HE3 := Lib.hid (fun w (h : SR w0 d g b n now D tl du w) => And.intro (h.cell (j + 1) (by have := HDJ.out; omega)) (h.cell j (by have := HDJ.out; omega)))
                          obtain ⟨x3, hx3⟩ : ∃ x, du[(j + 1)]! = x := ⟨_, rfl⟩
                          obtain ⟨y3, hy3⟩ : ∃ x, du[j]! = x := ⟨_, rfl⟩
                          simp only [hx3, hy3] at HC3 HE3
                          obtain ⟨cv3, hc3⟩ : ∃ z, cmpC D x3 y3 = z := ⟨_, rfl⟩
                          have HV3 := Lib.hid (show ltC D du[(j + 1)]! du[j]! = decide (cv3 < 0) from by rw [hx3, hy3, ← hc3]; rfl)
                          rw [hc3] at HC3
                          clear hx3 hy3 hc3
                          go_wp2_with fail
                          refine wp_region_held_drew (S := fun w' => SR w0 d g b n now D tl du w') (by kernel_rfl) (HJ.out.drew) (fun hHeld => ?_)
                          refine wpAnyH_takeD (i := 0) (v := ?_) (some 112) rfl rfl (by kernel_rfl) (by kernel_rfl) (by kernel_rfl) (fun _ _ _ h => h) (Or.inl ⟨by rfl, ?_⟩) (by assumption) ?_
                          rotate_left
                          · intro w' hSw
                            go_simp
                            first | done | with_reducible rfl
                          try simp only [Go.Act.put, List.setIfInBounds_toArray, List.set_cons_zero, List.set_cons_succ]
                          refine wpAnyH_takeD (i := 1) (v := ?_) (some 113) rfl rfl (by kernel_rfl) (by kernel_rfl) (by kernel_rfl) (fun _ _ _ h => h) (Or.inl ⟨by rfl, ?_⟩) (by assumption) ?_
                          rotate_left
                          · intro w' hSw
                            go_simp
                            first | done | with_reducible rfl
                          try simp only [Go.Act.put, List.setIfInBounds_toArray, List.set_cons_zero, List.set_cons_succ]
                          refine wpAnyH_takeD (i := 2) (v := ?_) (some 114) rfl rfl (by kernel_rfl) (by kernel_rfl) (by kernel_rfl) (fun _ _ _ h => h) (Or.inl ⟨by rfl, ?_⟩) (by assumption) ?_
                          rotate_left
                          · intro w' hSw
                            go_simp
                            first | done | with_reducible rfl
                          try simp only [Go.Act.put, List.setIfInBounds_toArray, List.set_cons_zero, List.set_cons_succ]
                          refine wpAnyH_takeD (i := 3) (v := ?_) (some 115) rfl rfl (by kernel_rfl) (by kernel_rfl) (by kernel_rfl) (fun _ _ _ h => h) (Or.inl ⟨by rfl, ?_⟩) (by assumption) ?_
                          rotate_left
                          · intro w' hSw
                            go_simp
                            first | done | with_reducible rfl
                          try simp only [Go.Act.put, List.setIfInBounds_toArray, List.set_cons_zero, List.set_cons_succ]
                          refine wpAnyH_takeD (i := 4) (v := ?_) (some 116) rfl rfl (by kernel_rfl) (by kernel_rfl) (by kernel_rfl) (fun _ _ _ h => h) (Or.inl ⟨by rfl, ?_⟩) (by assumption) ?_
                          rotate_left
                          · intro w' hSw
                            obtain ⟨m0, m1⟩ := HE3.out w' hSw
                            go_simp
                            first | done | with_reducible rfl
                          try simp only [Go.Act.put, List.setIfInBounds_toArray, List.set_cons_zero, List.set_cons_succ]
                          refine wpAnyH_takeD (i := 5) (v := ?_) (some 117) rfl rfl (by kernel_rfl) (by kernel_rfl) (by kernel_rfl) (fun _ _ _ h => h) (Or.inl ⟨by rfl, ?_⟩) (by assumption) ?_
                          rotate_left
                          · intro w' hSw
                            go_simp
                            first | done | with_reducible rfl
                          try simp only [Go.Act.put, List.setIfInBounds_toArray, List.set_cons_zero, List.set_cons_succ]
                          refine wpAnyH_takeD (i := 6) (v := ?_) (some 118) rfl rfl (by kernel_rfl) (by kernel_rfl) (by kernel_rfl) (fun _ _ _ h => h) (Or.inl ⟨by rfl, ?_⟩) (by assumption) ?_
                          rotate_left
                          · intro w' hSw
                            go_simp
                            first | done | with_reducible rfl
                          try simp only [Go.Act.put, List.setIfInBounds_toArray, List.set_cons_zero, List.set_cons_succ]
                          refine wpAnyH_takeD (i := 7) (v := ?_) (some 119) rfl rfl (by kernel_rfl) (by kernel_rfl) (by kernel_rfl) (fun _ _ _ h => h) (Or.inl ⟨by rfl, ?_⟩) (by assumption) ?_
                          rotate_left
                          · intro w' hSw
                            go_simp
                            first | done | with_reducible rfl
                          try simp only [Go.Act.put, List.setIfInBounds_toArray, List.set_cons_zero, List.set_cons_succ]
                          refine wpAnyH_takeD (i := 8) (v := ?_) (some 120) rfl rfl (by kernel_rfl) (by kernel_rfl) (by kernel_rfl) (fun _ _ _ h => h) (Or.inl ⟨by rfl, ?_⟩) (by assumption) ?_
                          rotate_left
                          · intro w' hSw
                            go_simp
                            first | done | with_reducible rfl
                          try simp only [Go.Act.put, List.setIfInBounds_toArray, List.set_cons_zero, List.set_cons_succ]
                          refine wpAnyH_takeD (i := 9) (v := ?_) (some 121) rfl rfl (by kernel_rfl) (by kernel_rfl) (by kernel_rfl) (fun _ _ _ h => h) (Or.inl ⟨by rfl, ?_⟩) (by assumption) ?_
                          rotate_left
                          · intro w' hSw
                            obtain ⟨m0, m1⟩ := HE3.out w' hSw
                            go_simp
                            first | done | with_reducible rfl
                          try simp only [Go.Act.put, List.setIfInBounds_toArray, List.set_cons_zero, List.set_cons_succ]
                          refine wpAnyH_ready (rs := [10]) (by kernel_rfl) (by simp) ?_
                          refine AllReadyH.cons rfl (fun K hK => ?_) AllReadyH.nil
                          go_simp
                          refine (HC3.out _ hHeld).mono ?_; rintro e v3 ⟨rfl, h9⟩
                          try go_simp
                          refine hK.out _ _ (h9) (fun hHeld => ?_)
                          clear hK K
                          try change wpAnyH _ _ _ _ _ _ _ (Go.Act.put _ (some 122) _) _
                          try simp only [Go.Act.put, List.setIfInBounds_toArray, List.set_cons_zero, List.set_cons_succ]
                          clear h9 HJ HC3
                          refine wpAnyH_takeD (i := 11) (v := ?_) (some 123) rfl rfl (by kernel_rfl) (by kernel_rfl) (by kernel_rfl) (fun _ _ _ h => h) (Or.inl ⟨by rfl, ?_⟩) (by assumption) ?_
                          rotate_left
                          · intro w' hSw
                            go_simp
                            first | done | with_reducible rfl
                          try simp only [Go.Act.put, List.setIfInBounds_toArray, List.set_cons_zero, List.set_cons_succ]
                          refine wpAnyH_takeD (i := 12) (v := ?_) (some 124) rfl rfl (by kernel_rfl) (by kernel_rfl) (by kernel_rfl) (fun _ _ _ h => h) (Or.inl ⟨by rfl, ?_⟩) (by assumption) ?_
                          rotate_left
                          · intro w' hSw
                            go_simp
                            first | done | with_reducible rfl
                          try simp only [Go.Act.put, List.setIfInBounds_toArray, List.set_cons_zero, List.set_cons_succ]
                          refine wpAnyH_done (by kernel_rfl) ?_ _
                          have HS3 := Lib.hid hHeld
                          clear hHeld HE3
                          by_cases hcv3 : cv3 < 0
                          · have d3 : decide (cv3 < 0) = true := decide_eq_true hcv3
                            try simp only [d3, Bool.not_true, Bool.not_false]
                            have HE2 := Lib.hid (show shiftUp (ltC D) hi (j + 2) (swp du (j + 1) j) = shiftUp (ltC D) hi (kp + 2) dd from by rw [← HE.out]; exact (shiftUp_go (ltC D) hi (j + 1) du hjb (by rw [Nat.add_sub_cancel, HV3.out]; exact d3)).symm)
                            clear HE HV3
                            have c4 := HS3.out
                            have m0 := c4.cell (j + 1) (by have := HDJ.out; omega)
                            have m1 := c4.cell j (by have := HDJ.out; omega)
                            have f0 := c4.frozen (j + 1)
                            have f1 := c4.frozen j
                            obtain ⟨u, m2⟩ := c4.second (j + 1) j (by have := HDJ.out; omega) (by have := HDJ.out; omega) _ (c4.ok j (by have := HDJ.out; omega))
                            have s4 := c4.swap (j + 1) j (by have := HDJ.out; omega) (by have := HDJ.out; omega)
                            obtain ⟨x, hx⟩ : ∃ x, du[(j + 1)]! = x := ⟨_, rfl⟩
                            obtain ⟨y, hy⟩ : ∃ y, du[j]! = y := ⟨_, rfl⟩
                            simp only [hx, hy] at s4 m0 m1 m2
                            have HS4 := Lib.hid s4
                            have mixed := Try.mixed
                            clear c4 hx hy s4 HS3
                            go_wp2_with fail
                            go_big_region_o
                            clear m0 m1 m2 f0 f1 mixed
                            generalize ((v3.setCell ⟨d, (j + 1), none⟩ (.int .i64 y)).setCell ⟨d, j, none⟩ (.int .i64 x)).drew = v4 at *
                            go_wp2
                            go_roundw
                            case rel => exact ⟨j + 1, swp du (j + 1) j, by go_num, by omega, by omega, Lib.hid (by rw [size_swp]; exact HDJ.out), HS4, HE2⟩
                            case measure => simp [intOf]; omega
                          · have d3 : decide (cv3 < 0) = false := decide_eq_false hcv3
                            try simp only [d3, Bool.not_true, Bool.not_false]
                            have HUP := Lib.hid (show fixUp (ltC D) hi (kp + 1) (fixDown (ltC D) a (kp + 1) (swp di (kp + 1) kp)) = du from by rw [HFD.out, HFU.out, ← HE.out]; exact shiftUp_stop (ltC D) hi (j + 1) du (Or.inr (by rw [Nat.add_sub_cancel, HV3.out]; exact d3)))
                            have HDU := HDJ
                            clear pz0 pz1 pz2 pz3 pz4 pz5 pz6 pz7 pz8
                            clear HE HV3 HFU HFD
                            have HPI2 := Lib.hid (show partialIns (ltC D) a hi (5 - (s + 1)) (kp + 1) du = partialInsertionSort (ltC D) dk a hi from by
                              rw [← HPI.out, pi_go (ltC D) a hi s i (kp + 1) di hs HK.out (by omega) (by omega), Nat.add_sub_cancel, HUP.out])
                            go_wp2
                            go_roundw
                            case rel => exact ⟨kp + 1, s + 1, du, by go_num, by go_num, by omega, by omega, by omega, HDU, HS3, HPI2⟩
                            case measure => simp [intOf]; omega
                        · have hjbz : ¬ (j : Int) + 1 < (hi : Int) := by omega
                          have HUP := Lib.hid (show fixUp (ltC D) hi (kp + 1) (fixDown (ltC D) a (kp + 1) (swp di (kp + 1) kp)) = du from by rw [HFD.out, HFU.out, ← HE.out]; exact shiftUp_stop (ltC D) hi (j + 1) du (Or.inl hjb))
                          have HDU := HDJ
                          have HSU := HJ
                          clear HE HFU HFD HJ
                          have HPI2 := Lib.hid (show partialIns (ltC D) a hi (5 - (s + 1)) (kp + 1) du = partialInsertionSort (ltC D) dk a hi from by
                            rw [← HPI.out, pi_go (ltC D) a hi s i (kp + 1) di hs HK.out (by omega) (by omega), Nat.add_sub_cancel, HUP.out])
                          go_wp2
                          go_roundw
                          case rel => exact ⟨kp + 1, s + 1, du, by go_num, by go_num, by omega, by omega, by omega, HDU, HSU, HPI2⟩
                          case measure => simp [intOf]; omega
                    · have hupz : ¬ ((2 : Int) ≤ (hi : Int) - ((kp : Int) + 1)) := by omega
                      have hupw : IntKind.i64.wrap ((hi : Int) - ((kp : Int) + 1)) = (hi : Int) - ((kp : Int) + 1) := IntWalk.i64_in _ (by omega)
                      have HUP := Lib.hid (show fixUp (ltC D) hi (kp + 1) (fixDown (ltC D) a (kp + 1) (swp di (kp + 1) kp)) = dd from by rw [HFD.out]; unfold fixUp; rw [if_neg (by omega)])
                      have HDU := HDA
                      clear HFD
                      have HPI2 := Lib.hid (show partialIns (ltC D) a hi (5 - (s + 1)) (kp + 1) dd = partialInsertionSort (ltC D) dk a hi from by
                        rw [← HPI.out, pi_go (ltC D) a hi s i (kp + 1) di hs HK.out (by omega) (by omega), Nat.add_sub_cancel, HUP.out])
                      go_wp2
                      go_roundw
                      case rel => exact ⟨kp + 1, s + 1, dd, by go_num, by go_num, by omega, by omega, by omega, HDU, HJD, HPI2⟩
                      case measure => simp [intOf]; omega
                  · rw [show ((jj + 1 : Nat) : Int) = (jj : Int) + 1 from rfl]
                    have hjj : (1 : Int) ≤ (jj : Int) + 1 := by omega
                    have pz0 : (0 : Int) ≤ (jj : Int) + 1 := by omega
                    have pz1 : (jj : Int) + 1 < (N : Int) := by omega
                    have pz2 : (0 : Int) ≤ (jj : Int) := by omega
                    have pz3 : (jj : Int) < (N : Int) := by omega
                    have pz4 : ((jj : Int) + 1).toNat = jj + 1 := by omega
                    have pz5 : IntKind.i64.wrap ((jj : Int) + 1 - 1) = (jj : Int) := by rw [show (jj : Int) + 1 - 1 = jj by omega]; exact IntWalk.i64_in _ (by omega)
                    have pz6 : IntKind.i64.wrap (jj : Int) = (jj : Int) := IntWalk.i64_in _ (by omega)
                    have pz7 : IntKind.i64.wrap ((jj : Int) + 1) = (jj : Int) + 1 := IntWalk.i64_in _ (by omega)
                    have pz8 : (jj : Int) + 1 - 1 = (jj : Int) := by omega
                    have HC5 := Lib.hid (fun w (h : SR w0 d g b n now D tl dd w) => h.cmp (jj + 1) jj (by have := HDD.out; omega) (by have := HDD.out; omega))
                    have HE5 := Lib.hid (fun w (h : SR w0 d g b n now D tl dd w) => And.intro (h.cell (jj + 1) (by have := HDD.out; omega)) (h.cell jj (by have := HDD.out; omega)))
                    obtain ⟨x5, hx5⟩ : ∃ x, dd[(jj + 1)]! = x := ⟨_, rfl⟩
                    obtain ⟨y5, hy5⟩ : ∃ x, dd[jj]! = x := ⟨_, rfl⟩
                    simp only [hx5, hy5] at HC5 HE5
                    obtain ⟨cv5, hc5⟩ : ∃ z, cmpC D x5 y5 = z := ⟨_, rfl⟩
                    have HV5 := Lib.hid (show ltC D dd[(jj + 1)]! dd[jj]! = decide (cv5 < 0) from by rw [hx5, hy5, ← hc5]; rfl)
                    rw [hc5] at HC5
                    clear hx5 hy5 hc5
                    go_wp2_with fail
                    refine wp_region_held_drew (S := fun w' => SR w0 d g b n now D tl dd w') (by kernel_rfl) (HJD.out.drew) (fun hHeld => ?_)
                    refine wpAnyH_takeD (i := 0) (v := ?_) (some 72) rfl rfl (by kernel_rfl) (by kernel_rfl) (by kernel_rfl) (fun _ _ _ h => h) (Or.inl ⟨by rfl, ?_⟩) (by assumption) ?_
                    rotate_left
                    · intro w' hSw
                      go_simp
                      first | done | with_reducible rfl
                    try simp only [Go.Act.put, List.setIfInBounds_toArray, List.set_cons_zero, List.set_cons_succ]
                    refine wpAnyH_takeD (i := 1) (v := ?_) (some 73) rfl rfl (by kernel_rfl) (by kernel_rfl) (by kernel_rfl) (fun _ _ _ h => h) (Or.inl ⟨by rfl, ?_⟩) (by assumption) ?_
                    rotate_left
                    · intro w' hSw
                      go_simp
                      first | done | with_reducible rfl
                    try simp only [Go.Act.put, List.setIfInBounds_toArray, List.set_cons_zero, List.set_cons_succ]
                    refine wpAnyH_takeD (i := 2) (v := ?_) (some 74) rfl rfl (by kernel_rfl) (by kernel_rfl) (by kernel_rfl) (fun _ _ _ h => h) (Or.inl ⟨by rfl, ?_⟩) (by assumption) ?_
                    rotate_left
                    · intro w' hSw
                      go_simp
                      first | done | with_reducible rfl
                    try simp only [Go.Act.put, List.setIfInBounds_toArray, List.set_cons_zero, List.set_cons_succ]
                    refine wpAnyH_takeD (i := 3) (v := ?_) (some 75) rfl rfl (by kernel_rfl) (by kernel_rfl) (by kernel_rfl) (fun _ _ _ h => h) (Or.inl ⟨by rfl, ?_⟩) (by assumption) ?_
                    rotate_left
                    · intro w' hSw
                      go_simp
                      first | done | with_reducible rfl
                    try simp only [Go.Act.put, List.setIfInBounds_toArray, List.set_cons_zero, List.set_cons_succ]
                    refine wpAnyH_takeD (i := 4) (v := ?_) (some 76) rfl rfl (by kernel_rfl) (by kernel_rfl) (by kernel_rfl) (fun _ _ _ h => h) (Or.inl ⟨by rfl, ?_⟩) (by assumption) ?_
                    rotate_left
                    · intro w' hSw
                      obtain ⟨m0, m1⟩ := HE5.out w' hSw
                      go_simp
                      first | done | with_reducible rfl
                    try simp only [Go.Act.put, List.setIfInBounds_toArray, List.set_cons_zero, List.set_cons_succ]
                    refine wpAnyH_takeD (i := 5) (v := ?_) (some 77) rfl rfl (by kernel_rfl) (by kernel_rfl) (by kernel_rfl) (fun _ _ _ h => h) (Or.inl ⟨by rfl, ?_⟩) (by assumption) ?_
                    rotate_left
                    · intro w' hSw
                      go_simp
                      first | done | with_reducible rfl
                    try simp only [Go.Act.put, List.setIfInBounds_toArray, List.set_cons_zero, List.set_cons_succ]
                    refine wpAnyH_takeD (i := 6) (v := ?_) (some 78) rfl rfl (by kernel_rfl) (by kernel_rfl) (by kernel_rfl) (fun _ _ _ h => h) (Or.inl ⟨by rfl, ?_⟩) (by assumption) ?_
                    rotate_left
                    · intro w' hSw
                      go_simp
                      first | done | with_reducible rfl
                    try simp only [Go.Act.put, List.setIfInBounds_toArray, List.set_cons_zero, List.set_cons_succ]
                    refine wpAnyH_takeD (i := 7) (v := ?_) (some 79) rfl rfl (by kernel_rfl) (by kernel_rfl) (by kernel_rfl) (fun _ _ _ h => h) (Or.inl ⟨by rfl, ?_⟩) (by assumption) ?_
                    rotate_left
                    · intro w' hSw
                      go_simp
                      first | done | with_reducible rfl
                    try simp only [Go.Act.put, List.setIfInBounds_toArray, List.set_cons_zero, List.set_cons_succ]
                    refine wpAnyH_takeD (i := 8) (v := ?_) (some 80) rfl rfl (by kernel_rfl) (by kernel_rfl) (by kernel_rfl) (fun _ _ _ h => h) (Or.inl ⟨by rfl, ?_⟩) (by assumption) ?_
                    rotate_left
                    · intro w' hSw
                      go_simp
                      first | done | with_reducible rfl
                    try simp only [Go.Act.put, List.setIfInBounds_toArray, List.set_cons_zero, List.set_cons_succ]
                    refine wpAnyH_takeD (i := 9) (v := ?_) (some 81) rfl rfl (by kernel_rfl) (by kernel_rfl) (by kernel_rfl) (fun _ _ _ h => h) (Or.inl ⟨by rfl, ?_⟩) (by assumption) ?_
                    rotate_left
                    · intro w' hSw
                      obtain ⟨m0, m1⟩ := HE5.out w' hSw
                      go_simp
                      first | done | with_reducible rfl
                    try simp only [Go.Act.put, List.setIfInBounds_toArray, List.set_cons_zero, List.set_cons_succ]
                    refine wpAnyH_ready (rs := [10]) (by kernel_rfl) (by simp) ?_
                    refine AllReadyH.cons rfl (fun K hK => ?_) AllReadyH.nil
                    go_simp
                    refine (HC5.out _ hHeld).mono ?_; rintro e v5 ⟨rfl, h9⟩
                    try go_simp
                    refine hK.out _ _ (h9) (fun hHeld => ?_)
                    clear hK K
                    try change wpAnyH _ _ _ _ _ _ _ (Go.Act.put _ (some 82) _) _
                    try simp only [Go.Act.put, List.setIfInBounds_toArray, List.set_cons_zero, List.set_cons_succ]
                    clear h9 HJD HC5
                    refine wpAnyH_takeD (i := 11) (v := ?_) (some 83) rfl rfl (by kernel_rfl) (by kernel_rfl) (by kernel_rfl) (fun _ _ _ h => h) (Or.inl ⟨by rfl, ?_⟩) (by assumption) ?_
                    rotate_left
                    · intro w' hSw
                      go_simp
                      first | done | with_reducible rfl
                    try simp only [Go.Act.put, List.setIfInBounds_toArray, List.set_cons_zero, List.set_cons_succ]
                    refine wpAnyH_takeD (i := 12) (v := ?_) (some 84) rfl rfl (by kernel_rfl) (by kernel_rfl) (by kernel_rfl) (fun _ _ _ h => h) (Or.inl ⟨by rfl, ?_⟩) (by assumption) ?_
                    rotate_left
                    · intro w' hSw
                      go_simp
                      first | done | with_reducible rfl
                    try simp only [Go.Act.put, List.setIfInBounds_toArray, List.set_cons_zero, List.set_cons_succ]
                    refine wpAnyH_done (by kernel_rfl) ?_ _
                    have HS5 := Lib.hid hHeld
                    clear hHeld HE5
                    by_cases hcv5 : cv5 < 0
                    · have d5 : decide (cv5 < 0) = true := decide_eq_true hcv5
                      try simp only [d5, Bool.not_true, Bool.not_false]
                      have HE2 := Lib.hid (show shiftDown (ltC D) jj (swp dd (jj + 1) jj) = shiftDown (ltC D) kp (swp di (kp + 1) kp) from by rw [← HED.out]; exact (shiftDown_go (ltC D) (jj + 1) dd (by omega) (by rw [Nat.add_sub_cancel, HV5.out]; exact d5)).symm)
                      clear HED HV5
                      have c6 := HS5.out
                      have m0 := c6.cell (jj + 1) (by have := HDD.out; omega)
                      have m1 := c6.cell jj (by have := HDD.out; omega)
                      have f0 := c6.frozen (jj + 1)
                      have f1 := c6.frozen jj
                      obtain ⟨u, m2⟩ := c6.second (jj + 1) jj (by have := HDD.out; omega) (by have := HDD.out; omega) _ (c6.ok jj (by have := HDD.out; omega))
                      have s6 := c6.swap (jj + 1) jj (by have := HDD.out; omega) (by have := HDD.out; omega)
                      obtain ⟨x, hx⟩ : ∃ x, dd[(jj + 1)]! = x := ⟨_, rfl⟩
                      obtain ⟨y, hy⟩ : ∃ y, dd[jj]! = y := ⟨_, rfl⟩
                      simp only [hx, hy] at s6 m0 m1 m2
                      have HS6 := Lib.hid s6
                      have mixed := Try.mixed
                      clear c6 hx hy s6 HS5
                      go_wp2_with fail
                      go_big_region_o
                      clear m0 m1 m2 f0 f1 mixed
                      generalize ((v5.setCell ⟨d, (jj + 1), none⟩ (.int .i64 y)).setCell ⟨d, jj, none⟩ (.int .i64 x)).drew = v6 at *
                      go_wp2
                      go_roundw
                      case rel => exact ⟨jj, swp dd (jj + 1) jj, by go_num, by omega, Lib.hid (by rw [size_swp]; exact HDD.out), HS6, HE2⟩
                      case measure => simp [intOf]
                    · have d5 : decide (cv5 < 0) = false := decide_eq_false hcv5
                      try simp only [d5, Bool.not_true, Bool.not_false]
                      have HFD := Lib.hid (show fixDown (ltC D) a (kp + 1) (swp di (kp + 1) kp) = dd from by rw [HFD0.out, ← HED.out]; exact shiftDown_stop (ltC D) (jj + 1) dd (Or.inr (by rw [Nat.add_sub_cancel, HV5.out]; exact d5)))
                      have HDA := HDD
                      clear pz0 pz1 pz2 pz3 pz4 pz5 pz6 pz7 pz8
                      clear HFD0 HED HV5
                      by_cases hup : kp + 1 + 2 ≤ hi
                      · have hupz : (2 : Int) ≤ (hi : Int) - ((kp : Int) + 1) := by omega
                        have hupw : IntKind.i64.wrap ((hi : Int) - ((kp : Int) + 1)) = (hi : Int) - ((kp : Int) + 1) := IntWalk.i64_in _ (by omega)
                        have hupv : IntKind.i64.wrap ((kp : Int) + 1 + 1) = (kp : Int) + 1 + 1 := IntWalk.i64_in _ (by omega)
                        have hfu : fixUp (ltC D) hi (kp + 1) dd = shiftUp (ltC D) hi (kp + 2) dd := by unfold fixUp; rw [if_pos (by omega)]
                        have HFU := Lib.hid hfu
                        clear hfu
                        go_wp2_with fail
                        generalize v5 = wp at *
                        go_loopw [12] (fun vj wr => ∃ (j : Nat) (du : Array Int), vj = .int .i64 ((j : Int) + 1) ∧ kp + 1 ≤ j ∧ j + 1 ≤ hi ∧ Hid (du.size = N) ∧ Hid (SR w0 d g b n now D tl du wr) ∧ Hid (shiftUp (ltC D) hi (j + 1) du = shiftUp (ltC D) hi (kp + 2) dd)) (fun vj _ => hi - (intOf vj).toNat)
                        case atStart => exact ⟨kp + 1, dd, by go_num, by omega, by omega, HDA, HS5, Lib.hid rfl⟩
                        case round =>
                          obtain ⟨j, du, rfl, hj1, hj2, HDJ, HJ, HE⟩ := hrel
                          clear HS5 HDA
                          by_cases hjb : j + 1 < hi
                          · have hjbz : (j : Int) + 1 < (hi : Int) := by omega
                            have pz0 : (0 : Int) ≤ (j : Int) + 1 := by omega
                            have pz1 : (j : Int) + 1 < (N : Int) := by omega
                            have pz2 : (0 : Int) ≤ (j : Int) := by omega
                            have pz3 : (j : Int) < (N : Int) := by omega
                            have pz4 : ((j : Int) + 1).toNat = j + 1 := by omega
                            have pz5 : IntKind.i64.wrap ((j : Int) + 1 - 1) = (j : Int) := by rw [show (j : Int) + 1 - 1 = j by omega]; exact IntWalk.i64_in _ (by omega)
                            have pz6 : IntKind.i64.wrap (j : Int) = (j : Int) := IntWalk.i64_in _ (by omega)
                            have pz7 : IntKind.i64.wrap ((j : Int) + 1) = (j : Int) + 1 := IntWalk.i64_in _ (by omega)
                            have pz8 : (j : Int) + 1 - 1 = (j : Int) := by omega
                            have HC7 := Lib.hid (fun w (h : SR w0 d g b n now D tl du w) => h.cmp (j + 1) j (by have := HDJ.out; omega) (by have := HDJ.out; omega))
                            have HE7 := Lib.hid (fun w (h : SR w0 d g b n now D tl du w) => And.intro (h.cell (j + 1) (by have := HDJ.out; omega)) (h.cell j (by have := HDJ.out; omega)))
                            obtain ⟨x7, hx7⟩ : ∃ x, du[(j + 1)]! = x := ⟨_, rfl⟩
                            obtain ⟨y7, hy7⟩ : ∃ x, du[j]! = x := ⟨_, rfl⟩
                            simp only [hx7, hy7] at HC7 HE7
                            obtain ⟨cv7, hc7⟩ : ∃ z, cmpC D x7 y7 = z := ⟨_, rfl⟩
                            have HV7 := Lib.hid (show ltC D du[(j + 1)]! du[j]! = decide (cv7 < 0) from by rw [hx7, hy7, ← hc7]; rfl)
                            rw [hc7] at HC7
                            clear hx7 hy7 hc7
                            go_wp2_with fail
                            refine wp_region_held_drew (S := fun w' => SR w0 d g b n now D tl du w') (by kernel_rfl) (HJ.out.drew) (fun hHeld => ?_)
                            refine wpAnyH_takeD (i := 0) (v := ?_) (some 112) rfl rfl (by kernel_rfl) (by kernel_rfl) (by kernel_rfl) (fun _ _ _ h => h) (Or.inl ⟨by rfl, ?_⟩) (by assumption) ?_
                            rotate_left
                            · intro w' hSw
                              go_simp
                              first | done | with_reducible rfl
                            try simp only [Go.Act.put, List.setIfInBounds_toArray, List.set_cons_zero, List.set_cons_succ]
                            refine wpAnyH_takeD (i := 1) (v := ?_) (some 113) rfl rfl (by kernel_rfl) (by kernel_rfl) (by kernel_rfl) (fun _ _ _ h => h) (Or.inl ⟨by rfl, ?_⟩) (by assumption) ?_
                            rotate_left
                            · intro w' hSw
                              go_simp
                              first | done | with_reducible rfl
                            try simp only [Go.Act.put, List.setIfInBounds_toArray, List.set_cons_zero, List.set_cons_succ]
                            refine wpAnyH_takeD (i := 2) (v := ?_) (some 114) rfl rfl (by kernel_rfl) (by kernel_rfl) (by kernel_rfl) (fun _ _ _ h => h) (Or.inl ⟨by rfl, ?_⟩) (by assumption) ?_
                            rotate_left
                            · intro w' hSw
                              go_simp
                              first | done | with_reducible rfl
                            try simp only [Go.Act.put, List.setIfInBounds_toArray, List.set_cons_zero, List.set_cons_succ]
                            refine wpAnyH_takeD (i := 3) (v := ?_) (some 115) rfl rfl (by kernel_rfl) (by kernel_rfl) (by kernel_rfl) (fun _ _ _ h => h) (Or.inl ⟨by rfl, ?_⟩) (by assumption) ?_
                            rotate_left
                            · intro w' hSw
                              go_simp
                              first | done | with_reducible rfl
                            try simp only [Go.Act.put, List.setIfInBounds_toArray, List.set_cons_zero, List.set_cons_succ]
                            refine wpAnyH_takeD (i := 4) (v := ?_) (some 116) rfl rfl (by kernel_rfl) (by kernel_rfl) (by kernel_rfl) (fun _ _ _ h => h) (Or.inl ⟨by rfl, ?_⟩) (by assumption) ?_
                            rotate_left
                            · intro w' hSw
                              obtain ⟨m0, m1⟩ := HE7.out w' hSw
                              go_simp
                              first | done | with_reducible rfl
                            try simp only [Go.Act.put, List.setIfInBounds_toArray, List.set_cons_zero, List.set_cons_succ]
                            refine wpAnyH_takeD (i := 5) (v := ?_) (some 117) rfl rfl (by kernel_rfl) (by kernel_rfl) (by kernel_rfl) (fun _ _ _ h => h) (Or.inl ⟨by rfl, ?_⟩) (by assumption) ?_
                            rotate_left
                            · intro w' hSw
                              go_simp
                              first | done | with_reducible rfl
                            try simp only [Go.Act.put, List.setIfInBounds_toArray, List.set_cons_zero, List.set_cons_succ]
                            refine wpAnyH_takeD (i := 6) (v := ?_) (some 118) rfl rfl (by kernel_rfl) (by kernel_rfl) (by kernel_rfl) (fun _ _ _ h => h) (Or.inl ⟨by rfl, ?_⟩) (by assumption) ?_
                            rotate_left
                            · intro w' hSw
                              go_simp
                              first | done | with_reducible rfl
                            try simp only [Go.Act.put, List.setIfInBounds_toArray, List.set_cons_zero, List.set_cons_succ]
                            refine wpAnyH_takeD (i := 7) (v := ?_) (some 119) rfl rfl (by kernel_rfl) (by kernel_rfl) (by kernel_rfl) (fun _ _ _ h => h) (Or.inl ⟨by rfl, ?_⟩) (by assumption) ?_
                            rotate_left
                            · intro w' hSw
                              go_simp
                              first | done | with_reducible rfl
                            try simp only [Go.Act.put, List.setIfInBounds_toArray, List.set_cons_zero, List.set_cons_succ]
                            refine wpAnyH_takeD (i := 8) (v := ?_) (some 120) rfl rfl (by kernel_rfl) (by kernel_rfl) (by kernel_rfl) (fun _ _ _ h => h) (Or.inl ⟨by rfl, ?_⟩) (by assumption) ?_
                            rotate_left
                            · intro w' hSw
                              go_simp
                              first | done | with_reducible rfl
                            try simp only [Go.Act.put, List.setIfInBounds_toArray, List.set_cons_zero, List.set_cons_succ]
                            refine wpAnyH_takeD (i := 9) (v := ?_) (some 121) rfl rfl (by kernel_rfl) (by kernel_rfl) (by kernel_rfl) (fun _ _ _ h => h) (Or.inl ⟨by rfl, ?_⟩) (by assumption) ?_
                            rotate_left
                            · intro w' hSw
                              obtain ⟨m0, m1⟩ := HE7.out w' hSw
                              go_simp
                              first | done | with_reducible rfl
                            try simp only [Go.Act.put, List.setIfInBounds_toArray, List.set_cons_zero, List.set_cons_succ]
                            refine wpAnyH_ready (rs := [10]) (by kernel_rfl) (by simp) ?_
                            refine AllReadyH.cons rfl (fun K hK => ?_) AllReadyH.nil
                            go_simp
                            refine (HC7.out _ hHeld).mono ?_; rintro e v7 ⟨rfl, h9⟩
                            try go_simp
                            refine hK.out _ _ (h9) (fun hHeld => ?_)
                            clear hK K
                            try change wpAnyH _ _ _ _ _ _ _ (Go.Act.put _ (some 122) _) _
                            try simp only [Go.Act.put, List.setIfInBounds_toArray, List.set_cons_zero, List.set_cons_succ]
                            clear h9 HJ HC7
                            refine wpAnyH_takeD (i := 11) (v := ?_) (some 123) rfl rfl (by kernel_rfl) (by kernel_rfl) (by kernel_rfl) (fun _ _ _ h => h) (Or.inl ⟨by rfl, ?_⟩) (by assumption) ?_
                            rotate_left
                            · intro w' hSw
                              go_simp
                              first | done | with_reducible rfl
                            try simp only [Go.Act.put, List.setIfInBounds_toArray, List.set_cons_zero, List.set_cons_succ]
                            refine wpAnyH_takeD (i := 12) (v := ?_) (some 124) rfl rfl (by kernel_rfl) (by kernel_rfl) (by kernel_rfl) (fun _ _ _ h => h) (Or.inl ⟨by rfl, ?_⟩) (by assumption) ?_
                            rotate_left
                            · intro w' hSw
                              go_simp
                              first | done | with_reducible rfl
                            try simp only [Go.Act.put, List.setIfInBounds_toArray, List.set_cons_zero, List.set_cons_succ]
                            refine wpAnyH_done (by kernel_rfl) ?_ _
                            have HS7 := Lib.hid hHeld
                            clear hHeld HE7
                            by_cases hcv7 : cv7 < 0
                            · have d7 : decide (cv7 < 0) = true := decide_eq_true hcv7
                              try simp only [d7, Bool.not_true, Bool.not_false]
                              have HE2 := Lib.hid (show shiftUp (ltC D) hi (j + 2) (swp du (j + 1) j) = shiftUp (ltC D) hi (kp + 2) dd from by rw [← HE.out]; exact (shiftUp_go (ltC D) hi (j + 1) du hjb (by rw [Nat.add_sub_cancel, HV7.out]; exact d7)).symm)
                              clear HE HV7
                              have c8 := HS7.out
                              have m0 := c8.cell (j + 1) (by have := HDJ.out; omega)
                              have m1 := c8.cell j (by have := HDJ.out; omega)
                              have f0 := c8.frozen (j + 1)
                              have f1 := c8.frozen j
                              obtain ⟨u, m2⟩ := c8.second (j + 1) j (by have := HDJ.out; omega) (by have := HDJ.out; omega) _ (c8.ok j (by have := HDJ.out; omega))
                              have s8 := c8.swap (j + 1) j (by have := HDJ.out; omega) (by have := HDJ.out; omega)
                              obtain ⟨x, hx⟩ : ∃ x, du[(j + 1)]! = x := ⟨_, rfl⟩
                              obtain ⟨y, hy⟩ : ∃ y, du[j]! = y := ⟨_, rfl⟩
                              simp only [hx, hy] at s8 m0 m1 m2
                              have HS8 := Lib.hid s8
                              have mixed := Try.mixed
                              clear c8 hx hy s8 HS7
                              go_wp2_with fail
                              go_big_region_o
                              clear m0 m1 m2 f0 f1 mixed
                              generalize ((v7.setCell ⟨d, (j + 1), none⟩ (.int .i64 y)).setCell ⟨d, j, none⟩ (.int .i64 x)).drew = v8 at *
                              go_wp2
                              go_roundw
                              case rel => exact ⟨j + 1, swp du (j + 1) j, by go_num, by omega, by omega, Lib.hid (by rw [size_swp]; exact HDJ.out), HS8, HE2⟩
                              case measure => simp [intOf]; omega
                            · have d7 : decide (cv7 < 0) = false := decide_eq_false hcv7
                              try simp only [d7, Bool.not_true, Bool.not_false]
                              have HUP := Lib.hid (show fixUp (ltC D) hi (kp + 1) (fixDown (ltC D) a (kp + 1) (swp di (kp + 1) kp)) = du from by rw [HFD.out, HFU.out, ← HE.out]; exact shiftUp_stop (ltC D) hi (j + 1) du (Or.inr (by rw [Nat.add_sub_cancel, HV7.out]; exact d7)))
                              have HDU := HDJ
                              clear pz0 pz1 pz2 pz3 pz4 pz5 pz6 pz7 pz8
                              clear HE HV7 HFU HFD
                              have HPI2 := Lib.hid (show partialIns (ltC D) a hi (5 - (s + 1)) (kp + 1) du = partialInsertionSort (ltC D) dk a hi from by
                                rw [← HPI.out, pi_go (ltC D) a hi s i (kp + 1) di hs HK.out (by omega) (by omega), Nat.add_sub_cancel, HUP.out])
                              go_wp2
                              go_roundw
                              case rel => exact ⟨kp + 1, s + 1, du, by go_num, by go_num, by omega, by omega, by omega, HDU, HS7, HPI2⟩
                              case measure => simp [intOf]; omega
                          · have hjbz : ¬ (j : Int) + 1 < (hi : Int) := by omega
                            have HUP := Lib.hid (show fixUp (ltC D) hi (kp + 1) (fixDown (ltC D) a (kp + 1) (swp di (kp + 1) kp)) = du from by rw [HFD.out, HFU.out, ← HE.out]; exact shiftUp_stop (ltC D) hi (j + 1) du (Or.inl hjb))
                            have HDU := HDJ
                            have HSU := HJ
                            clear HE HFU HFD HJ
                            have HPI2 := Lib.hid (show partialIns (ltC D) a hi (5 - (s + 1)) (kp + 1) du = partialInsertionSort (ltC D) dk a hi from by
                              rw [← HPI.out, pi_go (ltC D) a hi s i (kp + 1) di hs HK.out (by omega) (by omega), Nat.add_sub_cancel, HUP.out])
                            go_wp2
                            go_roundw
                            case rel => exact ⟨kp + 1, s + 1, du, by go_num, by go_num, by omega, by omega, by omega, HDU, HSU, HPI2⟩
                            case measure => simp [intOf]; omega
                      · have hupz : ¬ ((2 : Int) ≤ (hi : Int) - ((kp : Int) + 1)) := by omega
                        have hupw : IntKind.i64.wrap ((hi : Int) - ((kp : Int) + 1)) = (hi : Int) - ((kp : Int) + 1) := IntWalk.i64_in _ (by omega)
                        have HUP := Lib.hid (show fixUp (ltC D) hi (kp + 1) (fixDown (ltC D) a (kp + 1) (swp di (kp + 1) kp)) = dd from by rw [HFD.out]; unfold fixUp; rw [if_neg (by omega)])
                        have HDU := HDA
                        clear HFD
                        have HPI2 := Lib.hid (show partialIns (ltC D) a hi (5 - (s + 1)) (kp + 1) dd = partialInsertionSort (ltC D) dk a hi from by
                          rw [← HPI.out, pi_go (ltC D) a hi s i (kp + 1) di hs HK.out (by omega) (by omega), Nat.add_sub_cancel, HUP.out])
                        go_wp2
                        go_roundw
                        case rel => exact ⟨kp + 1, s + 1, dd, by go_num, by go_num, by omega, by omega, by omega, HDU, HS5, HPI2⟩
                        case measure => simp [intOf]; omega
              · have hdnz : ¬ ((2 : Int) ≤ (kp : Int) + 1 - (a : Int)) := by omega
                have hdnw : IntKind.i64.wrap ((kp : Int) + 1 - (a : Int)) = (kp : Int) + 1 - (a : Int) := IntWalk.i64_in _ (by omega)
                obtain ⟨ds, hds⟩ : ∃ q, (swp di (kp + 1) kp) = q := ⟨_, rfl⟩
                have HFD := Lib.hid (show fixDown (ltC D) a (kp + 1) (swp di (kp + 1) kp) = ds from by unfold fixDown; rw [if_neg (by omega)]; exact hds)
                have HDA := Lib.hid (show ds.size = N from by rw [← hds]; exact HDS.out)
                have HSD := Lib.hid (show SR w0 d g b n now D tl ds v2 from by rw [← hds]; exact HS2.out)
                clear HS2 HDS hds
                by_cases hup : kp + 1 + 2 ≤ hi
                · have hupz : (2 : Int) ≤ (hi : Int) - ((kp : Int) + 1) := by omega
                  have hupw : IntKind.i64.wrap ((hi : Int) - ((kp : Int) + 1)) = (hi : Int) - ((kp : Int) + 1) := IntWalk.i64_in _ (by omega)
                  have hupv : IntKind.i64.wrap ((kp : Int) + 1 + 1) = (kp : Int) + 1 + 1 := IntWalk.i64_in _ (by omega)
                  have hfu : fixUp (ltC D) hi (kp + 1) ds = shiftUp (ltC D) hi (kp + 2) ds := by unfold fixUp; rw [if_pos (by omega)]
                  have HFU := Lib.hid hfu
                  clear hfu
                  go_wp2_with fail
                  generalize v2 = wp at *
                  go_loopw [12] (fun vj wr => ∃ (j : Nat) (du : Array Int), vj = .int .i64 ((j : Int) + 1) ∧ kp + 1 ≤ j ∧ j + 1 ≤ hi ∧ Hid (du.size = N) ∧ Hid (SR w0 d g b n now D tl du wr) ∧ Hid (shiftUp (ltC D) hi (j + 1) du = shiftUp (ltC D) hi (kp + 2) ds)) (fun vj _ => hi - (intOf vj).toNat)
                  case atStart => exact ⟨kp + 1, ds, by go_num, by omega, by omega, HDA, HSD, Lib.hid rfl⟩
                  case round =>
                    obtain ⟨j, du, rfl, hj1, hj2, HDJ, HJ, HE⟩ := hrel
                    clear HSD HDA
                    by_cases hjb : j + 1 < hi
                    · have hjbz : (j : Int) + 1 < (hi : Int) := by omega
                      have pz0 : (0 : Int) ≤ (j : Int) + 1 := by omega
                      have pz1 : (j : Int) + 1 < (N : Int) := by omega
                      have pz2 : (0 : Int) ≤ (j : Int) := by omega
                      have pz3 : (j : Int) < (N : Int) := by omega
                      have pz4 : ((j : Int) + 1).toNat = j + 1 := by omega
                      have pz5 : IntKind.i64.wrap ((j : Int) + 1 - 1) = (j : Int) := by rw [show (j : Int) + 1 - 1 = j by omega]; exact IntWalk.i64_in _ (by omega)
                      have pz6 : IntKind.i64.wrap (j : Int) = (j : Int) := IntWalk.i64_in _ (by omega)
                      have pz7 : IntKind.i64.wrap ((j : Int) + 1) = (j : Int) + 1 := IntWalk.i64_in _ (by omega)
                      have pz8 : (j : Int) + 1 - 1 = (j : Int) := by omega
                      have HC9 := Lib.hid (fun w (h : SR w0 d g b n now D tl du w) => h.cmp (j + 1) j (by have := HDJ.out; omega) (by have := HDJ.out; omega))
                      have HE9 := Lib.hid (fun w (h : SR w0 d g b n now D tl du w) => And.intro (h.cell (j + 1) (by have := HDJ.out; omega)) (h.cell j (by have := HDJ.out; omega)))
                      obtain ⟨x9, hx9⟩ : ∃ x, du[(j + 1)]! = x := ⟨_, rfl⟩
                      obtain ⟨y9, hy9⟩ : ∃ x, du[j]! = x := ⟨_, rfl⟩
                      simp only [hx9, hy9] at HC9 HE9
                      obtain ⟨cv9, hc9⟩ : ∃ z, cmpC D x9 y9 = z := ⟨_, rfl⟩
                      have HV9 := Lib.hid (show ltC D du[(j + 1)]! du[j]! = decide (cv9 < 0) from by rw [hx9, hy9, ← hc9]; rfl)
                      rw [hc9] at HC9
                      clear hx9 hy9 hc9
                      go_wp2_with fail
                      refine wp_region_held_drew (S := fun w' => SR w0 d g b n now D tl du w') (by kernel_rfl) (HJ.out.drew) (fun hHeld => ?_)
                      refine wpAnyH_takeD (i := 0) (v := ?_) (some 112) rfl rfl (by kernel_rfl) (by kernel_rfl) (by kernel_rfl) (fun _ _ _ h => h) (Or.inl ⟨by rfl, ?_⟩) (by assumption) ?_
                      rotate_left
                      · intro w' hSw
                        go_simp
                        first | done | with_reducible rfl
                      try simp only [Go.Act.put, List.setIfInBounds_toArray, List.set_cons_zero, List.set_cons_succ]
                      refine wpAnyH_takeD (i := 1) (v := ?_) (some 113) rfl rfl (by kernel_rfl) (by kernel_rfl) (by kernel_rfl) (fun _ _ _ h => h) (Or.inl ⟨by rfl, ?_⟩) (by assumption) ?_
                      rotate_left
                      · intro w' hSw
                        go_simp
                        first | done | with_reducible rfl
                      try simp only [Go.Act.put, List.setIfInBounds_toArray, List.set_cons_zero, List.set_cons_succ]
                      refine wpAnyH_takeD (i := 2) (v := ?_) (some 114) rfl rfl (by kernel_rfl) (by kernel_rfl) (by kernel_rfl) (fun _ _ _ h => h) (Or.inl ⟨by rfl, ?_⟩) (by assumption) ?_
                      rotate_left
                      · intro w' hSw
                        go_simp
                        first | done | with_reducible rfl
                      try simp only [Go.Act.put, List.setIfInBounds_toArray, List.set_cons_zero, List.set_cons_succ]
                      refine wpAnyH_takeD (i := 3) (v := ?_) (some 115) rfl rfl (by kernel_rfl) (by kernel_rfl) (by kernel_rfl) (fun _ _ _ h => h) (Or.inl ⟨by rfl, ?_⟩) (by assumption) ?_
                      rotate_left
                      · intro w' hSw
                        go_simp
                        first | done | with_reducible rfl
                      try simp only [Go.Act.put, List.setIfInBounds_toArray, List.set_cons_zero, List.set_cons_succ]
                      refine wpAnyH_takeD (i := 4) (v := ?_) (some 116) rfl rfl (by kernel_rfl) (by kernel_rfl) (by kernel_rfl) (fun _ _ _ h => h) (Or.inl ⟨by rfl, ?_⟩) (by assumption) ?_
                      rotate_left
                      · intro w' hSw
                        obtain ⟨m0, m1⟩ := HE9.out w' hSw
                        go_simp
                        first | done | with_reducible rfl
                      try simp only [Go.Act.put, List.setIfInBounds_toArray, List.set_cons_zero, List.set_cons_succ]
                      refine wpAnyH_takeD (i := 5) (v := ?_) (some 117) rfl rfl (by kernel_rfl) (by kernel_rfl) (by kernel_rfl) (fun _ _ _ h => h) (Or.inl ⟨by rfl, ?_⟩) (by assumption) ?_
                      rotate_left
                      · intro w' hSw
                        go_simp
                        first | done | with_reducible rfl
                      try simp only [Go.Act.put, List.setIfInBounds_toArray, List.set_cons_zero, List.set_cons_succ]
                      refine wpAnyH_takeD (i := 6) (v := ?_) (some 118) rfl rfl (by kernel_rfl) (by kernel_rfl) (by kernel_rfl) (fun _ _ _ h => h) (Or.inl ⟨by rfl, ?_⟩) (by assumption) ?_
                      rotate_left
                      · intro w' hSw
                        go_simp
                        first | done | with_reducible rfl
                      try simp only [Go.Act.put, List.setIfInBounds_toArray, List.set_cons_zero, List.set_cons_succ]
                      refine wpAnyH_takeD (i := 7) (v := ?_) (some 119) rfl rfl (by kernel_rfl) (by kernel_rfl) (by kernel_rfl) (fun _ _ _ h => h) (Or.inl ⟨by rfl, ?_⟩) (by assumption) ?_
                      rotate_left
                      · intro w' hSw
                        go_simp
                        first | done | with_reducible rfl
                      try simp only [Go.Act.put, List.setIfInBounds_toArray, List.set_cons_zero, List.set_cons_succ]
                      refine wpAnyH_takeD (i := 8) (v := ?_) (some 120) rfl rfl (by kernel_rfl) (by kernel_rfl) (by kernel_rfl) (fun _ _ _ h => h) (Or.inl ⟨by rfl, ?_⟩) (by assumption) ?_
                      rotate_left
                      · intro w' hSw
                        go_simp
                        first | done | with_reducible rfl
                      try simp only [Go.Act.put, List.setIfInBounds_toArray, List.set_cons_zero, List.set_cons_succ]
                      refine wpAnyH_takeD (i := 9) (v := ?_) (some 121) rfl rfl (by kernel_rfl) (by kernel_rfl) (by kernel_rfl) (fun _ _ _ h => h) (Or.inl ⟨by rfl, ?_⟩) (by assumption) ?_
                      rotate_left
                      · intro w' hSw
                        obtain ⟨m0, m1⟩ := HE9.out w' hSw
                        go_simp
                        first | done | with_reducible rfl
                      try simp only [Go.Act.put, List.setIfInBounds_toArray, List.set_cons_zero, List.set_cons_succ]
                      refine wpAnyH_ready (rs := [10]) (by kernel_rfl) (by simp) ?_
                      refine AllReadyH.cons rfl (fun K hK => ?_) AllReadyH.nil
                      go_simp
                      refine (HC9.out _ hHeld).mono ?_; rintro e v9 ⟨rfl, h9⟩
                      try go_simp
                      refine hK.out _ _ (h9) (fun hHeld => ?_)
                      clear hK K
                      try change wpAnyH _ _ _ _ _ _ _ (Go.Act.put _ (some 122) _) _
                      try simp only [Go.Act.put, List.setIfInBounds_toArray, List.set_cons_zero, List.set_cons_succ]
                      clear h9 HJ HC9
                      refine wpAnyH_takeD (i := 11) (v := ?_) (some 123) rfl rfl (by kernel_rfl) (by kernel_rfl) (by kernel_rfl) (fun _ _ _ h => h) (Or.inl ⟨by rfl, ?_⟩) (by assumption) ?_
                      rotate_left
                      · intro w' hSw
                        go_simp
                        first | done | with_reducible rfl
                      try simp only [Go.Act.put, List.setIfInBounds_toArray, List.set_cons_zero, List.set_cons_succ]
                      refine wpAnyH_takeD (i := 12) (v := ?_) (some 124) rfl rfl (by kernel_rfl) (by kernel_rfl) (by kernel_rfl) (fun _ _ _ h => h) (Or.inl ⟨by rfl, ?_⟩) (by assumption) ?_
                      rotate_left
                      · intro w' hSw
                        go_simp
                        first | done | with_reducible rfl
                      try simp only [Go.Act.put, List.setIfInBounds_toArray, List.set_cons_zero, List.set_cons_succ]
                      refine wpAnyH_done (by kernel_rfl) ?_ _
                      have HS9 := Lib.hid hHeld
                      clear hHeld HE9
                      by_cases hcv9 : cv9 < 0
                      · have d9 : decide (cv9 < 0) = true := decide_eq_true hcv9
                        try simp only [d9, Bool.not_true, Bool.not_false]
                        have HE2 := Lib.hid (show shiftUp (ltC D) hi (j + 2) (swp du (j + 1) j) = shiftUp (ltC D) hi (kp + 2) ds from by rw [← HE.out]; exact (shiftUp_go (ltC D) hi (j + 1) du hjb (by rw [Nat.add_sub_cancel, HV9.out]; exact d9)).symm)
                        clear HE HV9
                        have c10 := HS9.out
                        have m0 := c10.cell (j + 1) (by have := HDJ.out; omega)
                        have m1 := c10.cell j (by have := HDJ.out; omega)
                        have f0 := c10.frozen (j + 1)
                        have f1 := c10.frozen j
                        obtain ⟨u, m2⟩ := c10.second (j + 1) j (by have := HDJ.out; omega) (by have := HDJ.out; omega) _ (c10.ok j (by have := HDJ.out; omega))
                        have s10 := c10.swap (j + 1) j (by have := HDJ.out; omega) (by have := HDJ.out; omega)
                        obtain ⟨x, hx⟩ : ∃ x, du[(j + 1)]! = x := ⟨_, rfl⟩
                        obtain ⟨y, hy⟩ : ∃ y, du[j]! = y := ⟨_, rfl⟩
                        simp only [hx, hy] at s10 m0 m1 m2
                        have HS10 := Lib.hid s10
                        have mixed := Try.mixed
                        clear c10 hx hy s10 HS9
                        go_wp2_with fail
                        go_big_region_o
                        clear m0 m1 m2 f0 f1 mixed
                        generalize ((v9.setCell ⟨d, (j + 1), none⟩ (.int .i64 y)).setCell ⟨d, j, none⟩ (.int .i64 x)).drew = v10 at *
                        go_wp2
                        go_roundw
                        case rel => exact ⟨j + 1, swp du (j + 1) j, by go_num, by omega, by omega, Lib.hid (by rw [size_swp]; exact HDJ.out), HS10, HE2⟩
                        case measure => simp [intOf]; omega
                      · have d9 : decide (cv9 < 0) = false := decide_eq_false hcv9
                        try simp only [d9, Bool.not_true, Bool.not_false]
                        have HUP := Lib.hid (show fixUp (ltC D) hi (kp + 1) (fixDown (ltC D) a (kp + 1) (swp di (kp + 1) kp)) = du from by rw [HFD.out, HFU.out, ← HE.out]; exact shiftUp_stop (ltC D) hi (j + 1) du (Or.inr (by rw [Nat.add_sub_cancel, HV9.out]; exact d9)))
                        have HDU := HDJ
                        clear pz0 pz1 pz2 pz3 pz4 pz5 pz6 pz7 pz8
                        clear HE HV9 HFU HFD
                        have HPI2 := Lib.hid (show partialIns (ltC D) a hi (5 - (s + 1)) (kp + 1) du = partialInsertionSort (ltC D) dk a hi from by
                          rw [← HPI.out, pi_go (ltC D) a hi s i (kp + 1) di hs HK.out (by omega) (by omega), Nat.add_sub_cancel, HUP.out])
                        go_wp2
                        go_roundw
                        case rel => exact ⟨kp + 1, s + 1, du, by go_num, by go_num, by omega, by omega, by omega, HDU, HS9, HPI2⟩
                        case measure => simp [intOf]; omega
                    · have hjbz : ¬ (j : Int) + 1 < (hi : Int) := by omega
                      have HUP := Lib.hid (show fixUp (ltC D) hi (kp + 1) (fixDown (ltC D) a (kp + 1) (swp di (kp + 1) kp)) = du from by rw [HFD.out, HFU.out, ← HE.out]; exact shiftUp_stop (ltC D) hi (j + 1) du (Or.inl hjb))
                      have HDU := HDJ
                      have HSU := HJ
                      clear HE HFU HFD HJ
                      have HPI2 := Lib.hid (show partialIns (ltC D) a hi (5 - (s + 1)) (kp + 1) du = partialInsertionSort (ltC D) dk a hi from by
                        rw [← HPI.out, pi_go (ltC D) a hi s i (kp + 1) di hs HK.out (by omega) (by omega), Nat.add_sub_cancel, HUP.out])
                      go_wp2
                      go_roundw
                      case rel => exact ⟨kp + 1, s + 1, du, by go_num, by go_num, by omega, by omega, by omega, HDU, HSU, HPI2⟩
                      case measure => simp [intOf]; omega
                · have hupz : ¬ ((2 : Int) ≤ (hi : Int) - ((kp : Int) + 1)) := by omega
                  have hupw : IntKind.i64.wrap ((hi : Int) - ((kp : Int) + 1)) = (hi : Int) - ((kp : Int) + 1) := IntWalk.i64_in _ (by omega)
                  have HUP := Lib.hid (show fixUp (ltC D) hi (kp + 1) (fixDown (ltC D) a (kp + 1) (swp di (kp + 1) kp)) = ds from by rw [HFD.out]; unfold fixUp; rw [if_neg (by omega)])
                  have HDU := HDA
                  clear HFD
                  have HPI2 := Lib.hid (show partialIns (ltC D) a hi (5 - (s + 1)) (kp + 1) ds = partialInsertionSort (ltC D) dk a hi from by
                    rw [← HPI.out, pi_go (ltC D) a hi s i (kp + 1) di hs HK.out (by omega) (by omega), Nat.add_sub_cancel, HUP.out])
                  go_wp2
                  go_roundw
                  case rel => exact ⟨kp + 1, s + 1, ds, by go_num, by go_num, by omega, by omega, by omega, HDU, HSD, HPI2⟩
                  case measure => simp [intOf]; omega
          · have d1 : decide (cv1 < 0) = false := decide_eq_false hcv1
            try simp only [d1, Bool.not_true, Bool.not_false]
            have HE2 := Lib.hid (show scanSorted (ltC D) di hi (kp + 2) = scanSorted (ltC D) di hi i from by rw [← HSC.out]; exact (scanSorted_go (ltC D) di hi (kp + 1) hkb (by rw [Nat.add_sub_cancel, HV1.out]; exact d1)).symm)
            clear HSC HV1
            go_wp2
            go_roundw
            case rel => exact ⟨kp + 1, by go_num, by omega, by omega, HS1, HE2⟩
            case measure => simp [intOf]; omega
        · have hkbz : ¬ ((kp : Int) + 1 < (hi : Int)) := by omega
          have hkbd : decide ((kp : Int) + 1 < (hi : Int)) = false := decide_eq_false hkbz
          have heq : ((kp : Int) + 1 == (hi : Int)) = true := by simp; omega
          have hv : partialInsertionSort (ltC D) dk a hi = (di, true) := by rw [← HPI.out]; exact pi_true (ltC D) a hi s i di hs (by rw [← HSC.out, scanSorted_stop (ltC D) di hi (kp + 1) (Or.inl hkb)]; omega)
          have HVV := Lib.hid hv
          have mixed := Try.mixed
          have HJ2 := Lib.hid HJ.out.drew
          clear hv HPI HSC HJ
          go_wp2_with fail
          go_big_region_o
          clear mixed
          generalize wr.drew = w2 at *
          go_wp2
          try simp only [Exit.inBlock, Exit.then]
          go_ret
          rw [HVV.out]
          exact ⟨rfl, HJ2.out⟩
    · have hs9 : s = 5 := by omega
      subst hs9
      have hv : partialInsertionSort (ltC D) dk a hi = (di, false) := by rw [← HPI.out]; exact pi_end (ltC D) a hi i di
      have HVV := Lib.hid hv
      clear hv HPI
      go_wp2
      go_ret
      rw [HVV.out]
      exact ⟨rfl, HI.out⟩
end Go.Proofs.Ytholaofgdahcbaa
