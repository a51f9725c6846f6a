/- slices.partitionEqualCmpFunc, partitionCmpFunc under a clock's comparison. -/
import Derived.Test.YtholaofgdahcbaaWi
import Derived.Sort.WalkC4
namespace Go.Proofs.Ytholaofgdahcbaa
open Go.RowKit Go.Maps Go.Sort

set_option maxRecDepth 100000 in
set_option maxHeartbeats 8000000 in
theorem peq_any (w0 : World) (d cap g b n : Nat) (now : Int) (D : DataW Unit) (tl : List Value) (a hi pv N : Nat) (dk : Array Int) (w : World) (h : SR w0 d g b n now D tl dk w) (hN : dk.size = N) (h1 : a ≤ pv) (h4 : pv < hi) (h2 : hi ≤ N) (h3 : (N : Int) ≤ 4611686018427387903) :
    Calls Try.prog 38 #[.slice (some ⟨d, 0, none⟩) N cap, .int .i64 a, .int .i64 hi, .int .i64 pv, cmpF g] w fun e w' => e = .returned (.int .i64 ((partitionEqual (ltC D) dk a hi pv).1 : Nat)) ∧ SR w0 d g b n now D tl (partitionEqual (ltC D) dk a hi pv).2 w' := by
  have H := Lib.hid h
  have HDK := Lib.hid hN
  have bp : (pv : Int) < (N : Int) := by omega
  have ba : (a : Int) < (N : Int) := by omega
  have hbw : IntKind.i64.wrap ((hi : Int) - 1) = (hi : Int) - 1 := IntWalk.i64_in _ (by omega)
  have haw : IntKind.i64.wrap ((a : Int) + 1) = (a : Int) + 1 := IntWalk.i64_in _ (by omega)
  clear h hN
  unfold cmpF
  go_enter Try.func38, Try.ntmps38
  have c1 := H.out
  have m0 := c1.cell a (by have := HDK.out; omega)
  have m1 := c1.cell pv (by have := HDK.out; omega)
  have f0 := c1.frozen a
  have f1 := c1.frozen pv
  obtain ⟨u, m2⟩ := c1.second a pv (by have := HDK.out; omega) (by have := HDK.out; omega) _ (c1.ok pv (by have := HDK.out; omega))
  have s1 := c1.swap a pv (by have := HDK.out; omega) (by have := HDK.out; omega)
  obtain ⟨x, hx⟩ : ∃ x, dk[a]! = x := ⟨_, rfl⟩
  obtain ⟨y, hy⟩ : ∃ y, dk[pv]! = y := ⟨_, rfl⟩
  simp only [hx, hy] at s1 m0 m1 m2
  have HS1 := Lib.hid s1
  have mixed := Try.mixed
  clear c1 hx hy s1 H
  go_wp2_with fail
  go_big_region_o
  clear m0 m1 m2 f0 f1 mixed
  generalize ((w.setCell ⟨d, a, none⟩ (.int .i64 y)).setCell ⟨d, pv, none⟩ (.int .i64 x)).drew = v1 at *
  obtain ⟨dk0, hdk0⟩ : ∃ z, swp dk a pv = z := ⟨_, rfl⟩
  have HPE := Lib.hid (show partitionEqual (ltC D) dk a hi pv = partEqLoop (ltC D) a (a + 1) (hi - 1) dk0 from by unfold partitionEqual; rw [hdk0])
  have HS0 := Lib.hid (show SR w0 d g b n now D tl dk0 v1 from by rw [← hdk0]; exact HS1.out)
  have HD0 := Lib.hid (show dk0.size = N from by rw [← hdk0, size_swp]; exact HDK.out)
  clear HS1 HDK hdk0
  go_wp2
  go_loopw [11, 12] (fun vi vj wr => ∃ (i j : Nat) (di : Array Int), vi = .int .i64 i ∧ vj = .int .i64 j ∧ a < i ∧ i ≤ j + 1 ∧ j < hi ∧ Hid (di.size = N) ∧ Hid (SR w0 d g b n now D tl di wr) ∧ Hid (partEqLoop (ltC D) a i j di = partEqLoop (ltC D) a (a + 1) (hi - 1) dk0)) (fun vi vj _ => (intOf vj).toNat + 1 - (intOf vi).toNat)
  case atStart => exact ⟨a + 1, hi - 1, dk0, by go_num, by go_num, by omega, by omega, by omega, HD0, HS0, Lib.hid rfl⟩
  case round =>
    obtain ⟨i, j, di, rfl, rfl, hi5, hi6, hi7, HDI, HI, HE⟩ := hrel
    clear HS0 HD0
    go_wp2
    generalize wr = wup at *
    go_loopw [11] (fun vi wr => ∃ (ii : Nat), vi = .int .i64 ii ∧ i ≤ ii ∧ ii ≤ j + 1 ∧ Hid (SR w0 d g b n now D tl di wr) ∧ Hid (scanUp (fun x => !ltC D di[a]! x) di j ii = scanUp (fun x => !ltC D di[a]! x) di j i)) (fun vi _ => j + 1 - (intOf vi).toNat)
    case atStart => exact ⟨i, rfl, Nat.le_refl _, by omega, HI, Lib.hid rfl⟩
    case round =>
      obtain ⟨ii, rfl, hi1, hi2, HUW, HUE⟩ := hrel
      clear HI
      by_cases hij : ii ≤ j
      · have hijz : (ii : Int) ≤ (j : Int) := by omega
        have hiN : (ii : Int) < (N : Int) := by omega
        have haN : (a : Int) < (N : Int) := by omega
        have hi0 : (0 : Int) ≤ (ii : Int) := by omega
        have hiw : IntKind.i64.wrap ((ii : Int) + 1) = (ii : Int) + 1 := IntWalk.i64_in _ (by omega)
        have HC2 := Lib.hid (fun w (h : SR w0 d g b n now D tl di w) => h.cmp a ii (by have := HDI.out; omega) (by have := HDI.out; omega))
        have HE2 := Lib.hid (fun w (h : SR w0 d g b n now D tl di w) => And.intro (h.cell a (by have := HDI.out; omega)) (h.cell ii (by have := HDI.out; omega)))
        obtain ⟨x2, hx2⟩ : ∃ x, di[a]! = x := ⟨_, rfl⟩
        obtain ⟨y2, hy2⟩ : ∃ x, di[ii]! = x := ⟨_, rfl⟩
        simp only [hx2, hy2] at HC2 HE2
        obtain ⟨cv2, hc2⟩ : ∃ z, cmpC D x2 y2 = z := ⟨_, rfl⟩
        have HV2 := Lib.hid (show ltC D di[a]! di[ii]! = decide (cv2 < 0) from by rw [hx2, hy2, ← hc2]; rfl)
        rw [hc2] at HC2
        clear hx2 hy2 hc2
        go_wp2_with fail
        refine wp_region_held_drew (S := fun w' => SR w0 d g b n now D tl di w') (by kernel_rfl) (HUW.out.drew) (fun hHeld => ?_)
        refine wpAnyH_takeD (i := 0) (v := ?_) (some 31) rfl rfl (by kernel_rfl) (by kernel_rfl) (by kernel_rfl) (fun _ _ _ h => h) (Or.inl ⟨by rfl, ?_⟩) (by assumption) ?_
        rotate_left
        · intro w' hSw
          go_simp
          first | done | with_reducible rfl
        try simp only [Go.Act.put, List.setIfInBounds_toArray, List.set_cons_zero, List.set_cons_succ]
        refine wpAnyH_takeD (i := 1) (v := ?_) (some 32) rfl rfl (by kernel_rfl) (by kernel_rfl) (by kernel_rfl) (fun _ _ _ h => h) (Or.inl ⟨by rfl, ?_⟩) (by assumption) ?_
        rotate_left
        · intro w' hSw
          go_simp
          first | done | with_reducible rfl
        try simp only [Go.Act.put, List.setIfInBounds_toArray, List.set_cons_zero, List.set_cons_succ]
        refine wpAnyH_takeD (i := 2) (v := ?_) (some 33) rfl rfl (by kernel_rfl) (by kernel_rfl) (by kernel_rfl) (fun _ _ _ h => h) (Or.inl ⟨by rfl, ?_⟩) (by assumption) ?_
        rotate_left
        · intro w' hSw
          go_simp
          first | done | with_reducible rfl
        try simp only [Go.Act.put, List.setIfInBounds_toArray, List.set_cons_zero, List.set_cons_succ]
        refine wpAnyH_takeD (i := 3) (v := ?_) (some 34) rfl rfl (by kernel_rfl) (by kernel_rfl) (by kernel_rfl) (fun _ _ _ h => h) (Or.inl ⟨by rfl, ?_⟩) (by assumption) ?_
        rotate_left
        · intro w' hSw
          go_simp
          first | done | with_reducible rfl
        try simp only [Go.Act.put, List.setIfInBounds_toArray, List.set_cons_zero, List.set_cons_succ]
        refine wpAnyH_takeD (i := 4) (v := ?_) (some 35) rfl rfl (by kernel_rfl) (by kernel_rfl) (by kernel_rfl) (fun _ _ _ h => h) (Or.inl ⟨by rfl, ?_⟩) (by assumption) ?_
        rotate_left
        · intro w' hSw
          go_simp
          first | done | with_reducible rfl
        try simp only [Go.Act.put, List.setIfInBounds_toArray, List.set_cons_zero, List.set_cons_succ]
        refine wpAnyH_takeD (i := 5) (v := ?_) (some 36) rfl rfl (by kernel_rfl) (by kernel_rfl) (by kernel_rfl) (fun _ _ _ h => h) (Or.inl ⟨by rfl, ?_⟩) (by assumption) ?_
        rotate_left
        · intro w' hSw
          go_simp
          first | done | with_reducible rfl
        try simp only [Go.Act.put, List.setIfInBounds_toArray, List.set_cons_zero, List.set_cons_succ]
        refine wpAnyH_takeD (i := 6) (v := ?_) (some 37) rfl rfl (by kernel_rfl) (by kernel_rfl) (by kernel_rfl) (fun _ _ _ h => h) (Or.inl ⟨by rfl, ?_⟩) (by assumption) ?_
        rotate_left
        · intro w' hSw
          go_simp
          first | done | with_reducible rfl
        try simp only [Go.Act.put, List.setIfInBounds_toArray, List.set_cons_zero, List.set_cons_succ]
        refine wpAnyH_takeD (i := 7) (v := ?_) (some 38) rfl rfl (by kernel_rfl) (by kernel_rfl) (by kernel_rfl) (fun _ _ _ h => h) (Or.inl ⟨by rfl, ?_⟩) (by assumption) ?_
        rotate_left
        · intro w' hSw
          go_simp
          first | done | with_reducible rfl
        try simp only [Go.Act.put, List.setIfInBounds_toArray, List.set_cons_zero, List.set_cons_succ]
        refine wpAnyH_takeD (i := 8) (v := ?_) (some 39) rfl rfl (by kernel_rfl) (by kernel_rfl) (by kernel_rfl) (fun _ _ _ h => h) (Or.inl ⟨by rfl, ?_⟩) (by assumption) ?_
        rotate_left
        · intro w' hSw
          obtain ⟨m0, m1⟩ := HE2.out w' hSw
          go_simp
          first | done | with_reducible rfl
        try simp only [Go.Act.put, List.setIfInBounds_toArray, List.set_cons_zero, List.set_cons_succ]
        refine wpAnyH_takeD (i := 9) (v := ?_) (some 40) rfl rfl (by kernel_rfl) (by kernel_rfl) (by kernel_rfl) (fun _ _ _ h => h) (Or.inl ⟨by rfl, ?_⟩) (by assumption) ?_
        rotate_left
        · intro w' hSw
          go_simp
          first | done | with_reducible rfl
        try simp only [Go.Act.put, List.setIfInBounds_toArray, List.set_cons_zero, List.set_cons_succ]
        refine wpAnyH_takeD (i := 10) (v := ?_) (some 41) rfl rfl (by kernel_rfl) (by kernel_rfl) (by kernel_rfl) (fun _ _ _ h => h) (Or.inl ⟨by rfl, ?_⟩) (by assumption) ?_
        rotate_left
        · intro w' hSw
          go_simp
          first | done | with_reducible rfl
        try simp only [Go.Act.put, List.setIfInBounds_toArray, List.set_cons_zero, List.set_cons_succ]
        refine wpAnyH_takeD (i := 11) (v := ?_) (some 42) rfl rfl (by kernel_rfl) (by kernel_rfl) (by kernel_rfl) (fun _ _ _ h => h) (Or.inl ⟨by rfl, ?_⟩) (by assumption) ?_
        rotate_left
        · intro w' hSw
          go_simp
          first | done | with_reducible rfl
        try simp only [Go.Act.put, List.setIfInBounds_toArray, List.set_cons_zero, List.set_cons_succ]
        refine wpAnyH_takeD (i := 12) (v := ?_) (some 43) rfl rfl (by kernel_rfl) (by kernel_rfl) (by kernel_rfl) (fun _ _ _ h => h) (Or.inl ⟨by rfl, ?_⟩) (by assumption) ?_
        rotate_left
        · intro w' hSw
          obtain ⟨m0, m1⟩ := HE2.out w' hSw
          go_simp
          first | done | with_reducible rfl
        try simp only [Go.Act.put, List.setIfInBounds_toArray, List.set_cons_zero, List.set_cons_succ]
        refine wpAnyH_ready (rs := [13]) (by kernel_rfl) (by simp) ?_
        refine AllReadyH.cons rfl (fun K hK => ?_) AllReadyH.nil
        go_simp
        refine (HC2.out _ hHeld).mono ?_; rintro e v2 ⟨rfl, h9⟩
        try go_simp
        refine hK.out _ _ (h9) (fun hHeld => ?_)
        clear hK K
        try change wpAnyH _ _ _ _ _ _ _ (Go.Act.put _ (some 44) _) _
        try simp only [Go.Act.put, List.setIfInBounds_toArray, List.set_cons_zero, List.set_cons_succ]
        clear h9 HUW HC2
        refine wpAnyH_takeD (i := 14) (v := ?_) (some 45) rfl rfl (by kernel_rfl) (by kernel_rfl) (by kernel_rfl) (fun _ _ _ h => h) (Or.inl ⟨by rfl, ?_⟩) (by assumption) ?_
        rotate_left
        · intro w' hSw
          go_simp
          first | done | with_reducible rfl
        try simp only [Go.Act.put, List.setIfInBounds_toArray, List.set_cons_zero, List.set_cons_succ]
        refine wpAnyH_takeD (i := 15) (v := ?_) (some 46) rfl rfl (by kernel_rfl) (by kernel_rfl) (by kernel_rfl) (fun _ _ _ h => h) (Or.inl ⟨by rfl, ?_⟩) (by assumption) ?_
        rotate_left
        · intro w' hSw
          go_simp
          first | done | with_reducible rfl
        try simp only [Go.Act.put, List.setIfInBounds_toArray, List.set_cons_zero, List.set_cons_succ]
        refine wpAnyH_takeD (i := 16) (v := ?_) (some 47) rfl rfl (by kernel_rfl) (by kernel_rfl) (by kernel_rfl) (fun _ _ _ h => h) (Or.inl ⟨by rfl, ?_⟩) (by assumption) ?_
        rotate_left
        · intro w' hSw
          go_simp
          first | done | with_reducible rfl
        try simp only [Go.Act.put, List.setIfInBounds_toArray, List.set_cons_zero, List.set_cons_succ]
        refine wpAnyH_done (by kernel_rfl) ?_ _
        have HS2 := Lib.hid hHeld
        clear hHeld HE2
        by_cases hcv2 : cv2 < 0
        · have d2 : decide (cv2 < 0) = true := decide_eq_true hcv2
          try simp only [d2, Bool.not_true, Bool.not_false]
          have HU := Lib.hid (show ii = scanUp (fun x => !ltC D di[a]! x) di j i from by rw [← HUE.out]; exact (scanUp_end (fun x => !ltC D di[a]! x) di j ii (Or.inr (by show (!ltC D di[a]! di[ii]!) = false; rw [HV2.out, d2]; rfl))).symm)
          clear HUE HV2
          go_wp2
          generalize v2 = wdn at *
          go_loopw [12] (fun vj wr => ∃ (jj : Nat), vj = .int .i64 jj ∧ ii ≤ jj + 1 ∧ jj ≤ j ∧ Hid (SR w0 d g b n now D tl di wr) ∧ Hid (scanDown (fun x => ltC D di[a]! x) di ii jj = scanDown (fun x => ltC D di[a]! x) di ii j)) (fun vj _ => (intOf vj).toNat)
          case atStart => exact ⟨j, rfl, by omega, Nat.le_refl _, HS2, Lib.hid rfl⟩
          case round =>
            obtain ⟨jj, rfl, hj1, hj2, HDW, HDE⟩ := hrel
            clear HS2
            by_cases hij2 : ii ≤ jj
            · obtain ⟨jq, rfl⟩ : ∃ jq, jj = jq + 1 := ⟨jj - 1, by omega⟩
              rw [show ((jq + 1 : Nat) : Int) = (jq : Int) + 1 from rfl]
              have hij2z : (ii : Int) ≤ (jq : Int) + 1 := by omega
              have pz0 : (0 : Int) ≤ (jq : Int) + 1 := by omega
              have pz1 : (jq : Int) + 1 < (N : Int) := by omega
              have pz2 : (0 : Int) ≤ (jq : Int) := by omega
              have pz3 : (jq : Int) < (N : Int) := by omega
              have pz4 : ((jq : Int) + 1).toNat = jq + 1 := by omega
              have pz5 : IntKind.i64.wrap ((jq : Int) + 1 - 1) = (jq : Int) := by rw [show (jq : Int) + 1 - 1 = jq by omega]; exact IntWalk.i64_in _ (by omega)
              have pz6 : IntKind.i64.wrap (jq : Int) = (jq : Int) := IntWalk.i64_in _ (by omega)
              have pz7 : IntKind.i64.wrap ((jq : Int) + 1) = (jq : Int) + 1 := IntWalk.i64_in _ (by omega)
              have pz8 : (jq : Int) + 1 - 1 = (jq : Int) := by omega
              have HC3 := Lib.hid (fun w (h : SR w0 d g b n now D tl di w) => h.cmp a (jq + 1) (by have := HDI.out; omega) (by have := HDI.out; omega))
              have HE3 := Lib.hid (fun w (h : SR w0 d g b n now D tl di w) => And.intro (h.cell a (by have := HDI.out; omega)) (h.cell (jq + 1) (by have := HDI.out; omega)))
              obtain ⟨x3, hx3⟩ : ∃ x, di[a]! = x := ⟨_, rfl⟩
              obtain ⟨y3, hy3⟩ : ∃ x, di[(jq + 1)]! = x := ⟨_, rfl⟩
              simp only [hx3, hy3] at HC3 HE3
              obtain ⟨cv3, hc3⟩ : ∃ z, cmpC D x3 y3 = z := ⟨_, rfl⟩
              have HV3 := Lib.hid (show ltC D di[a]! di[(jq + 1)]! = decide (cv3 < 0) from by rw [hx3, hy3, ← hc3]; rfl)
              rw [hc3] at HC3
              clear hx3 hy3 hc3
              go_wp2_with fail
              refine wp_region_held_drew (S := fun w' => SR w0 d g b n now D tl di w') (by kernel_rfl) (HDW.out.drew) (fun hHeld => ?_)
              refine wpAnyH_takeD (i := 0) (v := ?_) (some 50) rfl rfl (by kernel_rfl) (by kernel_rfl) (by kernel_rfl) (fun _ _ _ h => h) (Or.inl ⟨by rfl, ?_⟩) (by assumption) ?_
              rotate_left
              · intro w' hSw
                go_simp
                first | done | with_reducible rfl
              try simp only [Go.Act.put, List.setIfInBounds_toArray, List.set_cons_zero, List.set_cons_succ]
              refine wpAnyH_takeD (i := 1) (v := ?_) (some 51) rfl rfl (by kernel_rfl) (by kernel_rfl) (by kernel_rfl) (fun _ _ _ h => h) (Or.inl ⟨by rfl, ?_⟩) (by assumption) ?_
              rotate_left
              · intro w' hSw
                go_simp
                first | done | with_reducible rfl
              try simp only [Go.Act.put, List.setIfInBounds_toArray, List.set_cons_zero, List.set_cons_succ]
              refine wpAnyH_takeD (i := 2) (v := ?_) (some 52) rfl rfl (by kernel_rfl) (by kernel_rfl) (by kernel_rfl) (fun _ _ _ h => h) (Or.inl ⟨by rfl, ?_⟩) (by assumption) ?_
              rotate_left
              · intro w' hSw
                go_simp
                first | done | with_reducible rfl
              try simp only [Go.Act.put, List.setIfInBounds_toArray, List.set_cons_zero, List.set_cons_succ]
              refine wpAnyH_takeD (i := 3) (v := ?_) (some 53) rfl rfl (by kernel_rfl) (by kernel_rfl) (by kernel_rfl) (fun _ _ _ h => h) (Or.inl ⟨by rfl, ?_⟩) (by assumption) ?_
              rotate_left
              · intro w' hSw
                go_simp
                first | done | with_reducible rfl
              try simp only [Go.Act.put, List.setIfInBounds_toArray, List.set_cons_zero, List.set_cons_succ]
              refine wpAnyH_takeD (i := 4) (v := ?_) (some 54) rfl rfl (by kernel_rfl) (by kernel_rfl) (by kernel_rfl) (fun _ _ _ h => h) (Or.inl ⟨by rfl, ?_⟩) (by assumption) ?_
              rotate_left
              · intro w' hSw
                go_simp
                first | done | with_reducible rfl
              try simp only [Go.Act.put, List.setIfInBounds_toArray, List.set_cons_zero, List.set_cons_succ]
              refine wpAnyH_takeD (i := 5) (v := ?_) (some 55) rfl rfl (by kernel_rfl) (by kernel_rfl) (by kernel_rfl) (fun _ _ _ h => h) (Or.inl ⟨by rfl, ?_⟩) (by assumption) ?_
              rotate_left
              · intro w' hSw
                go_simp
                first | done | with_reducible rfl
              try simp only [Go.Act.put, List.setIfInBounds_toArray, List.set_cons_zero, List.set_cons_succ]
              refine wpAnyH_takeD (i := 6) (v := ?_) (some 56) rfl rfl (by kernel_rfl) (by kernel_rfl) (by kernel_rfl) (fun _ _ _ h => h) (Or.inl ⟨by rfl, ?_⟩) (by assumption) ?_
              rotate_left
              · intro w' hSw
                go_simp
                first | done | with_reducible rfl
              try simp only [Go.Act.put, List.setIfInBounds_toArray, List.set_cons_zero, List.set_cons_succ]
              refine wpAnyH_takeD (i := 7) (v := ?_) (some 57) rfl rfl (by kernel_rfl) (by kernel_rfl) (by kernel_rfl) (fun _ _ _ h => h) (Or.inl ⟨by rfl, ?_⟩) (by assumption) ?_
              rotate_left
              · intro w' hSw
                go_simp
                first | done | with_reducible rfl
              try simp only [Go.Act.put, List.setIfInBounds_toArray, List.set_cons_zero, List.set_cons_succ]
              refine wpAnyH_takeD (i := 8) (v := ?_) (some 58) rfl rfl (by kernel_rfl) (by kernel_rfl) (by kernel_rfl) (fun _ _ _ h => h) (Or.inl ⟨by rfl, ?_⟩) (by assumption) ?_
              rotate_left
              · intro w' hSw
                obtain ⟨m0, m1⟩ := HE3.out w' hSw
                go_simp
                first | done | with_reducible rfl
              try simp only [Go.Act.put, List.setIfInBounds_toArray, List.set_cons_zero, List.set_cons_succ]
              refine wpAnyH_takeD (i := 9) (v := ?_) (some 59) rfl rfl (by kernel_rfl) (by kernel_rfl) (by kernel_rfl) (fun _ _ _ h => h) (Or.inl ⟨by rfl, ?_⟩) (by assumption) ?_
              rotate_left
              · intro w' hSw
                go_simp
                first | done | with_reducible rfl
              try simp only [Go.Act.put, List.setIfInBounds_toArray, List.set_cons_zero, List.set_cons_succ]
              refine wpAnyH_takeD (i := 10) (v := ?_) (some 60) rfl rfl (by kernel_rfl) (by kernel_rfl) (by kernel_rfl) (fun _ _ _ h => h) (Or.inl ⟨by rfl, ?_⟩) (by assumption) ?_
              rotate_left
              · intro w' hSw
                go_simp
                first | done | with_reducible rfl
              try simp only [Go.Act.put, List.setIfInBounds_toArray, List.set_cons_zero, List.set_cons_succ]
              refine wpAnyH_takeD (i := 11) (v := ?_) (some 61) rfl rfl (by kernel_rfl) (by kernel_rfl) (by kernel_rfl) (fun _ _ _ h => h) (Or.inl ⟨by rfl, ?_⟩) (by assumption) ?_
              rotate_left
              · intro w' hSw
                go_simp
                first | done | with_reducible rfl
              try simp only [Go.Act.put, List.setIfInBounds_toArray, List.set_cons_zero, List.set_cons_succ]
              refine wpAnyH_takeD (i := 12) (v := ?_) (some 62) rfl rfl (by kernel_rfl) (by kernel_rfl) (by kernel_rfl) (fun _ _ _ h => h) (Or.inl ⟨by rfl, ?_⟩) (by assumption) ?_
              rotate_left
              · intro w' hSw
                obtain ⟨m0, m1⟩ := HE3.out w' hSw
                go_simp
                first | done | with_reducible rfl
              try simp only [Go.Act.put, List.setIfInBounds_toArray, List.set_cons_zero, List.set_cons_succ]
              refine wpAnyH_ready (rs := [13]) (by kernel_rfl) (by simp) ?_
              refine AllReadyH.cons rfl (fun K hK => ?_) AllReadyH.nil
              go_simp
              refine (HC3.out _ hHeld).mono ?_; rintro e v3 ⟨rfl, h9⟩
              try go_simp
              refine hK.out _ _ (h9) (fun hHeld => ?_)
              clear hK K
              try change wpAnyH _ _ _ _ _ _ _ (Go.Act.put _ (some 63) _) _
              try simp only [Go.Act.put, List.setIfInBounds_toArray, List.set_cons_zero, List.set_cons_succ]
              clear h9 HDW HC3
              refine wpAnyH_takeD (i := 14) (v := ?_) (some 64) rfl rfl (by kernel_rfl) (by kernel_rfl) (by kernel_rfl) (fun _ _ _ h => h) (Or.inl ⟨by rfl, ?_⟩) (by assumption) ?_
              rotate_left
              · intro w' hSw
                go_simp
                first | done | with_reducible rfl
              try simp only [Go.Act.put, List.setIfInBounds_toArray, List.set_cons_zero, List.set_cons_succ]
              refine wpAnyH_takeD (i := 15) (v := ?_) (some 65) rfl rfl (by kernel_rfl) (by kernel_rfl) (by kernel_rfl) (fun _ _ _ h => h) (Or.inl ⟨by rfl, ?_⟩) (by assumption) ?_
              rotate_left
              · intro w' hSw
                go_simp
                first | done | with_reducible rfl
              try simp only [Go.Act.put, List.setIfInBounds_toArray, List.set_cons_zero, List.set_cons_succ]
              refine wpAnyH_done (by kernel_rfl) ?_ _
              have HS3 := Lib.hid hHeld
              clear hHeld HE3
              by_cases hcv3 : cv3 < 0
              · have d3 : decide (cv3 < 0) = true := decide_eq_true hcv3
                try simp only [d3, Bool.not_true, Bool.not_false]
                have HE2 := Lib.hid (show scanDown (fun x => ltC D di[a]! x) di ii jq = scanDown (fun x => ltC D di[a]! x) di ii j from by rw [← HDE.out]; exact (scanDown_go (fun x => ltC D di[a]! x) di ii (jq + 1) hij2 (by omega) (by show ltC D di[a]! di[jq + 1]! = true; rw [HV3.out, d3])).symm)
                clear HDE HV3
                go_wp2
                go_roundw
                case rel => exact ⟨jq, by go_num, by omega, by omega, HS3, HE2⟩
                case measure => simp [intOf]
              · have d3 : decide (cv3 < 0) = false := decide_eq_false hcv3
                try simp only [d3, Bool.not_true, Bool.not_false]
                have HDn := Lib.hid (show jq + 1 = scanDown (fun x => ltC D di[a]! x) di ii j from by rw [← HDE.out]; exact (scanDown_end (fun x => ltC D di[a]! x) di ii (jq + 1) (Or.inr (by show ltC D di[a]! di[jq + 1]! = false; rw [HV3.out, d3]))).symm)
                clear HDE HV3
                have hngt : ¬ ((jq : Int) + 1 < (ii : Int)) := by omega
                have hlt : ii < jq + 1 := scans_lt (ltC D) a i j di (by omega) HU.out HDn.out (by omega)
                have HE3 := Lib.hid (show partEqLoop (ltC D) a (ii + 1) jq (swp di ii (jq + 1)) = partEqLoop (ltC D) a (a + 1) (hi - 1) dk0 from by rw [← HE.out]; exact (partEq_go (ltC D) a i j di HU.out HDn.out (by omega)).symm)
                clear HU HDn HE
                have c4 := HS3.out
                have m0 := c4.cell ii (by have := HDI.out; omega)
                have m1 := c4.cell (jq + 1) (by have := HDI.out; omega)
                have f0 := c4.frozen ii
                have f1 := c4.frozen (jq + 1)
                obtain ⟨u, m2⟩ := c4.second ii (jq + 1) (by have := HDI.out; omega) (by have := HDI.out; omega) _ (c4.ok (jq + 1) (by have := HDI.out; omega))
                have s4 := c4.swap ii (jq + 1) (by have := HDI.out; omega) (by have := HDI.out; omega)
                obtain ⟨x, hx⟩ : ∃ x, di[ii]! = x := ⟨_, rfl⟩
                obtain ⟨y, hy⟩ : ∃ y, di[(jq + 1)]! = y := ⟨_, rfl⟩
                simp only [hx, hy] at s4 m0 m1 m2
                have HS4 := Lib.hid s4
                have mixed := Try.mixed
                clear c4 hx hy s4 HS3
                go_wp2_with fail
                go_big_region_o
                clear m0 m1 m2 f0 f1 mixed
                generalize ((v3.setCell ⟨d, ii, none⟩ (.int .i64 y)).setCell ⟨d, (jq + 1), none⟩ (.int .i64 x)).drew = v4 at *
                have HD3 := Lib.hid (show (swp di ii (jq + 1)).size = N from by rw [size_swp]; exact HDI.out)
                go_wp2
                go_roundw
                case rel => exact ⟨ii + 1, jq, swp di ii (jq + 1), by go_num, by go_num, by omega, by omega, by omega, HD3, HS4, HE3⟩
                case measure => simp [intOf]; omega
            · have hjj : ii ≤ jj + 1 := by omega
              have hijf : decide ((ii : Int) ≤ (jj : Int)) = false := decide_eq_false (by omega)
              have hgt : (jj : Int) < (ii : Int) := by omega
              have HDn := Lib.hid (show jj = scanDown (fun x => ltC D di[a]! x) di ii j from by rw [← HDE.out]; exact (scanDown_end (fun x => ltC D di[a]! x) di ii jj (Or.inl hij2)).symm)
              have mixed := Try.mixed
              have HJ2 := Lib.hid HDW.out.drew
              clear HDE HDW
              go_wp2_with fail
              go_big_region_o
              clear mixed
              generalize wr.drew = wbr at *
              have HRES := Lib.hid (show partitionEqual (ltC D) dk a hi pv = (ii, di) from by rw [HPE.out, ← HE.out]; exact partEq_break (ltC D) a i j di HU.out HDn.out (by omega))
              clear HU HDn HE
              go_wp2
              try simp only [Exit.inBlock, Exit.then]
              go_ret
              rw [HRES.out]
              exact ⟨rfl, HJ2.out⟩
        · have d2 : decide (cv2 < 0) = false := decide_eq_false hcv2
          try simp only [d2, Bool.not_true, Bool.not_false]
          have HE2 := Lib.hid (show scanUp (fun x => !ltC D di[a]! x) di j (ii + 1) = scanUp (fun x => !ltC D di[a]! x) di j i from by rw [← HUE.out]; exact (scanUp_go (fun x => !ltC D di[a]! x) di j ii hij (by show (!ltC D di[a]! di[ii]!) = true; rw [HV2.out, d2]; rfl)).symm)
          clear HUE HV2
          go_wp2
          go_roundw
          case rel => exact ⟨ii + 1, by go_num, by omega, by omega, HS2, HE2⟩
          case measure => simp [intOf]; omega
      · have hii : j + 1 ≤ ii := by omega
        have hijf : decide ((ii : Int) ≤ (j : Int)) = false := decide_eq_false (by omega)
        have HU := Lib.hid (show ii = scanUp (fun x => !ltC D di[a]! x) di j i from by rw [← HUE.out]; exact (scanUp_end (fun x => !ltC D di[a]! x) di j ii (Or.inl hij)).symm)
        have mixed := Try.mixed
        have HJ2 := Lib.hid HUW.out.drew
        clear HUE HUW
        go_wp2_with fail
        go_big_region_o
        clear mixed
        generalize wr.drew = wub at *
        go_wp2
        generalize wub = wdn at *
        go_loopw [12] (fun vj wr => vj = .int .i64 j ∧ Hid (SR w0 d g b n now D tl di wr)) (fun _ _ => 0)
        case atStart => exact ⟨rfl, HJ2⟩
        case round =>
          obtain ⟨rfl, HDW⟩ := hrel
          clear HJ2 hijf
          have HDE := Lib.hid (show scanDown (fun x => ltC D di[a]! x) di ii j = scanDown (fun x => ltC D di[a]! x) di ii j from rfl)
          have hij2 : ¬ ii ≤ j := by omega
          have hijf : decide ((ii : Int) ≤ (j : Int)) = false := decide_eq_false (by omega)
          have hgt : (j : Int) < (ii : Int) := by omega
          have HDn := Lib.hid (show j = scanDown (fun x => ltC D di[a]! x) di ii j from by rw [← HDE.out]; exact (scanDown_end (fun x => ltC D di[a]! x) di ii j (Or.inl hij2)).symm)
          have mixed := Try.mixed
          have HJ2 := Lib.hid HDW.out.drew
          clear HDE HDW
          go_wp2_with fail
          go_big_region_o
          clear mixed
          generalize wr.drew = wbr at *
          have HRES := Lib.hid (show partitionEqual (ltC D) dk a hi pv = (ii, di) from by rw [HPE.out, ← HE.out]; exact partEq_break (ltC D) a i j di HU.out HDn.out (by omega))
          clear HU HDn HE
          go_wp2
          try simp only [Exit.inBlock, Exit.then]
          go_ret
          rw [HRES.out]
          exact ⟨rfl, HJ2.out⟩

set_option maxRecDepth 100000 in
set_option maxHeartbeats 16000000 in
theorem prt_any (w0 : World) (d cap g b n : Nat) (now : Int) (D : DataW Unit) (tl : List Value) (a hi pv N : Nat) (dk : Array Int) (w : World) (h : SR w0 d g b n now D tl dk w) (hN : dk.size = N) (h1 : a ≤ pv) (h4 : pv < hi) (h2 : hi ≤ N) (h3 : (N : Int) ≤ 4611686018427387903) :
    Calls Try.prog 39 #[.slice (some ⟨d, 0, none⟩) N cap, .int .i64 a, .int .i64 hi, .int .i64 pv, cmpF g] w fun e w' => e = .returned (.tuple #[.int .i64 ((partition (ltC D) dk a hi pv).1 : Nat), .bool (partition (ltC D) dk a hi pv).2.1]) ∧ SR w0 d g b n now D tl (partition (ltC D) dk a hi pv).2.2 w' := by
  have H := Lib.hid h
  have HDK := Lib.hid hN
  have bp : (pv : Int) < (N : Int) := by omega
  have ba : (a : Int) < (N : Int) := by omega
  have hbw : IntKind.i64.wrap ((hi : Int) - 1) = (hi : Int) - 1 := IntWalk.i64_in _ (by omega)
  have haw : IntKind.i64.wrap ((a : Int) + 1) = (a : Int) + 1 := IntWalk.i64_in _ (by omega)
  clear h hN
  unfold cmpF
  go_enter Try.func39, Try.ntmps39
  have c5 := H.out
  have m0 := c5.cell a (by have := HDK.out; omega)
  have m1 := c5.cell pv (by have := HDK.out; omega)
  have f0 := c5.frozen a
  have f1 := c5.frozen pv
  obtain ⟨u, m2⟩ := c5.second a pv (by have := HDK.out; omega) (by have := HDK.out; omega) _ (c5.ok pv (by have := HDK.out; omega))
  have s5 := c5.swap a pv (by have := HDK.out; omega) (by have := HDK.out; omega)
  obtain ⟨x, hx⟩ : ∃ x, dk[a]! = x := ⟨_, rfl⟩
  obtain ⟨y, hy⟩ : ∃ y, dk[pv]! = y := ⟨_, rfl⟩
  simp only [hx, hy] at s5 m0 m1 m2
  have HS5 := Lib.hid s5
  have mixed := Try.mixed
  clear c5 hx hy s5 H
  go_wp2_with fail
  go_big_region_o
  clear m0 m1 m2 f0 f1 mixed
  generalize ((w.setCell ⟨d, a, none⟩ (.int .i64 y)).setCell ⟨d, pv, none⟩ (.int .i64 x)).drew = v5 at *
  obtain ⟨di, hdk0⟩ : ∃ z, swp dk a pv = z := ⟨_, rfl⟩
  obtain ⟨i, hie⟩ : ∃ z, a + 1 = z := ⟨_, rfl⟩
  obtain ⟨j, hje⟩ : ∃ z, hi - 1 = z := ⟨_, rfl⟩
  have HDK0 := Lib.hid hdk0
  have HI1 := Lib.hid hie
  have HJ1 := Lib.hid hje
  have HS0 := Lib.hid (show SR w0 d g b n now D tl di v5 from by rw [← hdk0]; exact HS5.out)
  have HDI := Lib.hid (show di.size = N from by rw [← hdk0, size_swp]; exact HDK.out)
  have hi5 : a < i := by omega
  have hi6 : i ≤ j + 1 := by omega
  have hi7 : j < hi := by omega
  have hw5 : IntKind.i64.wrap ((a : Int) + 1) = (i : Int) := by rw [haw]; omega
  have hw6 : IntKind.i64.wrap ((hi : Int) - 1) = (j : Int) := by rw [hbw]; omega
  have hw7 : (a : Int) + 1 = (i : Int) := by omega
  have hw8 : (hi : Int) - 1 = (j : Int) := by omega
  clear HS5 HDK hdk0 hie hje haw hbw
  go_wp2
  clear hw5 hw6 hw7 hw8
  generalize v5 = wup at *
  go_loopw [12] (fun vi wr => ∃ (ii : Nat), vi = .int .i64 ii ∧ i ≤ ii ∧ ii ≤ j + 1 ∧ Hid (SR w0 d g b n now D tl di wr) ∧ Hid (scanUp (fun x => ltC D x di[a]!) di j ii = scanUp (fun x => ltC D x di[a]!) di j i)) (fun vi _ => j + 1 - (intOf vi).toNat)
  case atStart => exact ⟨i, rfl, Nat.le_refl _, by omega, HS0, Lib.hid rfl⟩
  case round =>
    obtain ⟨ii, rfl, hi1, hi2, HUW, HUE⟩ := hrel
    clear HS0
    by_cases hij : ii ≤ j
    · have hijz : (ii : Int) ≤ (j : Int) := by omega
      have hiN : (ii : Int) < (N : Int) := by omega
      have haN : (a : Int) < (N : Int) := by omega
      have hi0 : (0 : Int) ≤ (ii : Int) := by omega
      have hiw : IntKind.i64.wrap ((ii : Int) + 1) = (ii : Int) + 1 := IntWalk.i64_in _ (by omega)
      have HC6 := Lib.hid (fun w (h : SR w0 d g b n now D tl di w) => h.cmp ii a (by have := HDI.out; omega) (by have := HDI.out; omega))
      have HE6 := Lib.hid (fun w (h : SR w0 d g b n now D tl di w) => And.intro (h.cell ii (by have := HDI.out; omega)) (h.cell a (by have := HDI.out; omega)))
      obtain ⟨x6, hx6⟩ : ∃ x, di[ii]! = x := ⟨_, rfl⟩
      obtain ⟨y6, hy6⟩ : ∃ x, di[a]! = x := ⟨_, rfl⟩
      simp only [hx6, hy6] at HC6 HE6
      obtain ⟨cv6, hc6⟩ : ∃ z, cmpC D x6 y6 = z := ⟨_, rfl⟩
      have HV6 := Lib.hid (show ltC D di[ii]! di[a]! = decide (cv6 < 0) from by rw [hx6, hy6, ← hc6]; rfl)
      rw [hc6] at HC6
      clear hx6 hy6 hc6
      go_wp2_with fail
      refine wp_region_held_drew (S := fun w' => SR w0 d g b n now D tl di w') (by kernel_rfl) (HUW.out.drew) (fun hHeld => ?_)
      refine wpAnyH_takeD (i := 0) (v := ?_) (some 32) rfl rfl (by kernel_rfl) (by kernel_rfl) (by kernel_rfl) (fun _ _ _ h => h) (Or.inl ⟨by rfl, ?_⟩) (by assumption) ?_
      rotate_left
      · intro w' hSw
        go_simp
        first | done | with_reducible rfl
      try simp only [Go.Act.put, List.setIfInBounds_toArray, List.set_cons_zero, List.set_cons_succ]
      refine wpAnyH_takeD (i := 1) (v := ?_) (some 33) rfl rfl (by kernel_rfl) (by kernel_rfl) (by kernel_rfl) (fun _ _ _ h => h) (Or.inl ⟨by rfl, ?_⟩) (by assumption) ?_
      rotate_left
      · intro w' hSw
        go_simp
        first | done | with_reducible rfl
      try simp only [Go.Act.put, List.setIfInBounds_toArray, List.set_cons_zero, List.set_cons_succ]
      refine wpAnyH_takeD (i := 2) (v := ?_) (some 34) rfl rfl (by kernel_rfl) (by kernel_rfl) (by kernel_rfl) (fun _ _ _ h => h) (Or.inl ⟨by rfl, ?_⟩) (by assumption) ?_
      rotate_left
      · intro w' hSw
        go_simp
        first | done | with_reducible rfl
      try simp only [Go.Act.put, List.setIfInBounds_toArray, List.set_cons_zero, List.set_cons_succ]
      refine wpAnyH_takeD (i := 3) (v := ?_) (some 35) rfl rfl (by kernel_rfl) (by kernel_rfl) (by kernel_rfl) (fun _ _ _ h => h) (Or.inl ⟨by rfl, ?_⟩) (by assumption) ?_
      rotate_left
      · intro w' hSw
        go_simp
        first | done | with_reducible rfl
      try simp only [Go.Act.put, List.setIfInBounds_toArray, List.set_cons_zero, List.set_cons_succ]
      refine wpAnyH_takeD (i := 4) (v := ?_) (some 36) rfl rfl (by kernel_rfl) (by kernel_rfl) (by kernel_rfl) (fun _ _ _ h => h) (Or.inl ⟨by rfl, ?_⟩) (by assumption) ?_
      rotate_left
      · intro w' hSw
        go_simp
        first | done | with_reducible rfl
      try simp only [Go.Act.put, List.setIfInBounds_toArray, List.set_cons_zero, List.set_cons_succ]
      refine wpAnyH_takeD (i := 5) (v := ?_) (some 37) rfl rfl (by kernel_rfl) (by kernel_rfl) (by kernel_rfl) (fun _ _ _ h => h) (Or.inl ⟨by rfl, ?_⟩) (by assumption) ?_
      rotate_left
      · intro w' hSw
        go_simp
        first | done | with_reducible rfl
      try simp only [Go.Act.put, List.setIfInBounds_toArray, List.set_cons_zero, List.set_cons_succ]
      refine wpAnyH_takeD (i := 6) (v := ?_) (some 38) rfl rfl (by kernel_rfl) (by kernel_rfl) (by kernel_rfl) (fun _ _ _ h => h) (Or.inl ⟨by rfl, ?_⟩) (by assumption) ?_
      rotate_left
      · intro w' hSw
        go_simp
        first | done | with_reducible rfl
      try simp only [Go.Act.put, List.setIfInBounds_toArray, List.set_cons_zero, List.set_cons_succ]
      refine wpAnyH_takeD (i := 7) (v := ?_) (some 39) rfl rfl (by kernel_rfl) (by kernel_rfl) (by kernel_rfl) (fun _ _ _ h => h) (Or.inl ⟨by rfl, ?_⟩) (by assumption) ?_
      rotate_left
      · intro w' hSw
        go_simp
        first | done | with_reducible rfl
      try simp only [Go.Act.put, List.setIfInBounds_toArray, List.set_cons_zero, List.set_cons_succ]
      refine wpAnyH_takeD (i := 8) (v := ?_) (some 40) rfl rfl (by kernel_rfl) (by kernel_rfl) (by kernel_rfl) (fun _ _ _ h => h) (Or.inl ⟨by rfl, ?_⟩) (by assumption) ?_
      rotate_left
      · intro w' hSw
        obtain ⟨m0, m1⟩ := HE6.out w' hSw
        go_simp
        first | done | with_reducible rfl
      try simp only [Go.Act.put, List.setIfInBounds_toArray, List.set_cons_zero, List.set_cons_succ]
      refine wpAnyH_takeD (i := 9) (v := ?_) (some 41) rfl rfl (by kernel_rfl) (by kernel_rfl) (by kernel_rfl) (fun _ _ _ h => h) (Or.inl ⟨by rfl, ?_⟩) (by assumption) ?_
      rotate_left
      · intro w' hSw
        go_simp
        first | done | with_reducible rfl
      try simp only [Go.Act.put, List.setIfInBounds_toArray, List.set_cons_zero, List.set_cons_succ]
      refine wpAnyH_takeD (i := 10) (v := ?_) (some 42) rfl rfl (by kernel_rfl) (by kernel_rfl) (by kernel_rfl) (fun _ _ _ h => h) (Or.inl ⟨by rfl, ?_⟩) (by assumption) ?_
      rotate_left
      · intro w' hSw
        go_simp
        first | done | with_reducible rfl
      try simp only [Go.Act.put, List.setIfInBounds_toArray, List.set_cons_zero, List.set_cons_succ]
      refine wpAnyH_takeD (i := 11) (v := ?_) (some 43) rfl rfl (by kernel_rfl) (by kernel_rfl) (by kernel_rfl) (fun _ _ _ h => h) (Or.inl ⟨by rfl, ?_⟩) (by assumption) ?_
      rotate_left
      · intro w' hSw
        go_simp
        first | done | with_reducible rfl
      try simp only [Go.Act.put, List.setIfInBounds_toArray, List.set_cons_zero, List.set_cons_succ]
      refine wpAnyH_takeD (i := 12) (v := ?_) (some 44) rfl rfl (by kernel_rfl) (by kernel_rfl) (by kernel_rfl) (fun _ _ _ h => h) (Or.inl ⟨by rfl, ?_⟩) (by assumption) ?_
      rotate_left
      · intro w' hSw
        obtain ⟨m0, m1⟩ := HE6.out w' hSw
        go_simp
        first | done | with_reducible rfl
      try simp only [Go.Act.put, List.setIfInBounds_toArray, List.set_cons_zero, List.set_cons_succ]
      refine wpAnyH_ready (rs := [13]) (by kernel_rfl) (by simp) ?_
      refine AllReadyH.cons rfl (fun K hK => ?_) AllReadyH.nil
      go_simp
      refine (HC6.out _ hHeld).mono ?_; rintro e v6 ⟨rfl, h9⟩
      try go_simp
      refine hK.out _ _ (h9) (fun hHeld => ?_)
      clear hK K
      try change wpAnyH _ _ _ _ _ _ _ (Go.Act.put _ (some 45) _) _
      try simp only [Go.Act.put, List.setIfInBounds_toArray, List.set_cons_zero, List.set_cons_succ]
      clear h9 HUW HC6
      refine wpAnyH_takeD (i := 14) (v := ?_) (some 46) rfl rfl (by kernel_rfl) (by kernel_rfl) (by kernel_rfl) (fun _ _ _ h => h) (Or.inl ⟨by rfl, ?_⟩) (by assumption) ?_
      rotate_left
      · intro w' hSw
        go_simp
        first | done | with_reducible rfl
      try simp only [Go.Act.put, List.setIfInBounds_toArray, List.set_cons_zero, List.set_cons_succ]
      refine wpAnyH_takeD (i := 15) (v := ?_) (some 47) rfl rfl (by kernel_rfl) (by kernel_rfl) (by kernel_rfl) (fun _ _ _ h => h) (Or.inl ⟨by rfl, ?_⟩) (by assumption) ?_
      rotate_left
      · intro w' hSw
        go_simp
        first | done | with_reducible rfl
      try simp only [Go.Act.put, List.setIfInBounds_toArray, List.set_cons_zero, List.set_cons_succ]
      refine wpAnyH_done (by kernel_rfl) ?_ _
      have HS6 := Lib.hid hHeld
      clear hHeld HE6
      by_cases hcv6 : cv6 < 0
      · have d6 : decide (cv6 < 0) = true := decide_eq_true hcv6
        try simp only [d6, Bool.not_true, Bool.not_false]
        have HE2 := Lib.hid (show scanUp (fun x => ltC D x di[a]!) di j (ii + 1) = scanUp (fun x => ltC D x di[a]!) di j i from by rw [← HUE.out]; exact (scanUp_go (fun x => ltC D x di[a]!) di j ii hij (by show ltC D di[ii]! di[a]! = true; rw [HV6.out, d6])).symm)
        clear HUE HV6
        go_wp2
        go_roundw
        case rel => exact ⟨ii + 1, by go_num, by omega, by omega, HS6, HE2⟩
        case measure => simp [intOf]; omega
      · have d6 : decide (cv6 < 0) = false := decide_eq_false hcv6
        try simp only [d6, Bool.not_true, Bool.not_false]
        have HU := Lib.hid (show ii = scanUp (fun x => ltC D x di[a]!) di j i from by rw [← HUE.out]; exact (scanUp_end (fun x => ltC D x di[a]!) di j ii (Or.inr (by show ltC D di[ii]! di[a]! = false; rw [HV6.out, d6]))).symm)
        clear HUE HV6
        go_wp2
        generalize v6 = wdn at *
        go_loopw [13] (fun vj wr => ∃ (jj : Nat), vj = .int .i64 jj ∧ ii ≤ jj + 1 ∧ jj ≤ j ∧ Hid (SR w0 d g b n now D tl di wr) ∧ Hid (scanDown (fun x => !ltC D x di[a]!) di ii jj = scanDown (fun x => !ltC D x di[a]!) di ii j)) (fun vj _ => (intOf vj).toNat)
        case atStart => exact ⟨j, rfl, by omega, Nat.le_refl _, HS6, Lib.hid rfl⟩
        case round =>
          obtain ⟨jj, rfl, hj1, hj2, HDW, HDE⟩ := hrel
          clear HS6
          by_cases hij2 : ii ≤ jj
          · obtain ⟨jq, rfl⟩ : ∃ jq, jj = jq + 1 := ⟨jj - 1, by omega⟩
            rw [show ((jq + 1 : Nat) : Int) = (jq : Int) + 1 from rfl]
            have hij2z : (ii : Int) ≤ (jq : Int) + 1 := by omega
            have pz0 : (0 : Int) ≤ (jq : Int) + 1 := by omega
            have pz1 : (jq : Int) + 1 < (N : Int) := by omega
            have pz2 : (0 : Int) ≤ (jq : Int) := by omega
            have pz3 : (jq : Int) < (N : Int) := by omega
            have pz4 : ((jq : Int) + 1).toNat = jq + 1 := by omega
            have pz5 : IntKind.i64.wrap ((jq : Int) + 1 - 1) = (jq : Int) := by rw [show (jq : Int) + 1 - 1 = jq by omega]; exact IntWalk.i64_in _ (by omega)
            have pz6 : IntKind.i64.wrap (jq : Int) = (jq : Int) := IntWalk.i64_in _ (by omega)
            have pz7 : IntKind.i64.wrap ((jq : Int) + 1) = (jq : Int) + 1 := IntWalk.i64_in _ (by omega)
            have pz8 : (jq : Int) + 1 - 1 = (jq : Int) := by omega
            have HC7 := Lib.hid (fun w (h : SR w0 d g b n now D tl di w) => h.cmp (jq + 1) a (by have := HDI.out; omega) (by have := HDI.out; omega))
            have HE7 := Lib.hid (fun w (h : SR w0 d g b n now D tl di w) => And.intro (h.cell (jq + 1) (by have := HDI.out; omega)) (h.cell a (by have := HDI.out; omega)))
            obtain ⟨x7, hx7⟩ : ∃ x, di[(jq + 1)]! = x := ⟨_, rfl⟩
            obtain ⟨y7, hy7⟩ : ∃ x, di[a]! = x := ⟨_, rfl⟩
            simp only [hx7, hy7] at HC7 HE7
            obtain ⟨cv7, hc7⟩ : ∃ z, cmpC D x7 y7 = z := ⟨_, rfl⟩
            have HV7 := Lib.hid (show ltC D di[(jq + 1)]! di[a]! = decide (cv7 < 0) from by rw [hx7, hy7, ← hc7]; rfl)
            rw [hc7] at HC7
            clear hx7 hy7 hc7
            go_wp2_with fail
            refine wp_region_held_drew (S := fun w' => SR w0 d g b n now D tl di w') (by kernel_rfl) (HDW.out.drew) (fun hHeld => ?_)
            refine wpAnyH_takeD (i := 0) (v := ?_) (some 50) rfl rfl (by kernel_rfl) (by kernel_rfl) (by kernel_rfl) (fun _ _ _ h => h) (Or.inl ⟨by rfl, ?_⟩) (by assumption) ?_
            rotate_left
            · intro w' hSw
              go_simp
              first | done | with_reducible rfl
            try simp only [Go.Act.put, List.setIfInBounds_toArray, List.set_cons_zero, List.set_cons_succ]
            refine wpAnyH_takeD (i := 1) (v := ?_) (some 51) rfl rfl (by kernel_rfl) (by kernel_rfl) (by kernel_rfl) (fun _ _ _ h => h) (Or.inl ⟨by rfl, ?_⟩) (by assumption) ?_
            rotate_left
            · intro w' hSw
              go_simp
              first | done | with_reducible rfl
            try simp only [Go.Act.put, List.setIfInBounds_toArray, List.set_cons_zero, List.set_cons_succ]
            refine wpAnyH_takeD (i := 2) (v := ?_) (some 52) rfl rfl (by kernel_rfl) (by kernel_rfl) (by kernel_rfl) (fun _ _ _ h => h) (Or.inl ⟨by rfl, ?_⟩) (by assumption) ?_
            rotate_left
            · intro w' hSw
              go_simp
              first | done | with_reducible rfl
            try simp only [Go.Act.put, List.setIfInBounds_toArray, List.set_cons_zero, List.set_cons_succ]
            refine wpAnyH_takeD (i := 3) (v := ?_) (some 53) rfl rfl (by kernel_rfl) (by kernel_rfl) (by kernel_rfl) (fun _ _ _ h => h) (Or.inl ⟨by rfl, ?_⟩) (by assumption) ?_
            rotate_left
            · intro w' hSw
              go_simp
              first | done | with_reducible rfl
            try simp only [Go.Act.put, List.setIfInBounds_toArray, List.set_cons_zero, List.set_cons_succ]
            refine wpAnyH_takeD (i := 4) (v := ?_) (some 54) rfl rfl (by kernel_rfl) (by kernel_rfl) (by kernel_rfl) (fun _ _ _ h => h) (Or.inl ⟨by rfl, ?_⟩) (by assumption) ?_
            rotate_left
            · intro w' hSw
              go_simp
              first | done | with_reducible rfl
            try simp only [Go.Act.put, List.setIfInBounds_toArray, List.set_cons_zero, List.set_cons_succ]
            refine wpAnyH_takeD (i := 5) (v := ?_) (some 55) rfl rfl (by kernel_rfl) (by kernel_rfl) (by kernel_rfl) (fun _ _ _ h => h) (Or.inl ⟨by rfl, ?_⟩) (by assumption) ?_
            rotate_left
            · intro w' hSw
              go_simp
              first | done | with_reducible rfl
            try simp only [Go.Act.put, List.setIfInBounds_toArray, List.set_cons_zero, List.set_cons_succ]
            refine wpAnyH_takeD (i := 6) (v := ?_) (some 56) rfl rfl (by kernel_rfl) (by kernel_rfl) (by kernel_rfl) (fun _ _ _ h => h) (Or.inl ⟨by rfl, ?_⟩) (by assumption) ?_
            rotate_left
            · intro w' hSw
              go_simp
              first | done | with_reducible rfl
            try simp only [Go.Act.put, List.setIfInBounds_toArray, List.set_cons_zero, List.set_cons_succ]
            refine wpAnyH_takeD (i := 7) (v := ?_) (some 57) rfl rfl (by kernel_rfl) (by kernel_rfl) (by kernel_rfl) (fun _ _ _ h => h) (Or.inl ⟨by rfl, ?_⟩) (by assumption) ?_
            rotate_left
            · intro w' hSw
              go_simp
              first | done | with_reducible rfl
            try simp only [Go.Act.put, List.setIfInBounds_toArray, List.set_cons_zero, List.set_cons_succ]
            refine wpAnyH_takeD (i := 8) (v := ?_) (some 58) rfl rfl (by kernel_rfl) (by kernel_rfl) (by kernel_rfl) (fun _ _ _ h => h) (Or.inl ⟨by rfl, ?_⟩) (by assumption) ?_
            rotate_left
            · intro w' hSw
              obtain ⟨m0, m1⟩ := HE7.out w' hSw
              go_simp
              first | done | with_reducible rfl
            try simp only [Go.Act.put, List.setIfInBounds_toArray, List.set_cons_zero, List.set_cons_succ]
            refine wpAnyH_takeD (i := 9) (v := ?_) (some 59) rfl rfl (by kernel_rfl) (by kernel_rfl) (by kernel_rfl) (fun _ _ _ h => h) (Or.inl ⟨by rfl, ?_⟩) (by assumption) ?_
            rotate_left
            · intro w' hSw
              go_simp
              first | done | with_reducible rfl
            try simp only [Go.Act.put, List.setIfInBounds_toArray, List.set_cons_zero, List.set_cons_succ]
            refine wpAnyH_takeD (i := 10) (v := ?_) (some 60) rfl rfl (by kernel_rfl) (by kernel_rfl) (by kernel_rfl) (fun _ _ _ h => h) (Or.inl ⟨by rfl, ?_⟩) (by assumption) ?_
            rotate_left
            · intro w' hSw
              go_simp
              first | done | with_reducible rfl
            try simp only [Go.Act.put, List.setIfInBounds_toArray, List.set_cons_zero, List.set_cons_succ]
            refine wpAnyH_takeD (i := 11) (v := ?_) (some 61) rfl rfl (by kernel_rfl) (by kernel_rfl) (by kernel_rfl) (fun _ _ _ h => h) (Or.inl ⟨by rfl, ?_⟩) (by assumption) ?_
            rotate_left
            · intro w' hSw
              go_simp
              first | done | with_reducible rfl
            try simp only [Go.Act.put, List.setIfInBounds_toArray, List.set_cons_zero, List.set_cons_succ]
            refine wpAnyH_takeD (i := 12) (v := ?_) (some 62) rfl rfl (by kernel_rfl) (by kernel_rfl) (by kernel_rfl) (fun _ _ _ h => h) (Or.inl ⟨by rfl, ?_⟩) (by assumption) ?_
            rotate_left
            · intro w' hSw
              obtain ⟨m0, m1⟩ := HE7.out w' hSw
              go_simp
              first | done | with_reducible rfl
            try simp only [Go.Act.put, List.setIfInBounds_toArray, List.set_cons_zero, List.set_cons_succ]
            refine wpAnyH_ready (rs := [13]) (by kernel_rfl) (by simp) ?_
            refine AllReadyH.cons rfl (fun K hK => ?_) AllReadyH.nil
            go_simp
            refine (HC7.out _ hHeld).mono ?_; rintro e v7 ⟨rfl, h9⟩
            try go_simp
            refine hK.out _ _ (h9) (fun hHeld => ?_)
            clear hK K
            try change wpAnyH _ _ _ _ _ _ _ (Go.Act.put _ (some 63) _) _
            try simp only [Go.Act.put, List.setIfInBounds_toArray, List.set_cons_zero, List.set_cons_succ]
            clear h9 HDW HC7
            refine wpAnyH_takeD (i := 14) (v := ?_) (some 64) rfl rfl (by kernel_rfl) (by kernel_rfl) (by kernel_rfl) (fun _ _ _ h => h) (Or.inl ⟨by rfl, ?_⟩) (by assumption) ?_
            rotate_left
            · intro w' hSw
              go_simp
              first | done | with_reducible rfl
            try simp only [Go.Act.put, List.setIfInBounds_toArray, List.set_cons_zero, List.set_cons_succ]
            refine wpAnyH_takeD (i := 15) (v := ?_) (some 65) rfl rfl (by kernel_rfl) (by kernel_rfl) (by kernel_rfl) (fun _ _ _ h => h) (Or.inl ⟨by rfl, ?_⟩) (by assumption) ?_
            rotate_left
            · intro w' hSw
              go_simp
              first | done | with_reducible rfl
            try simp only [Go.Act.put, List.setIfInBounds_toArray, List.set_cons_zero, List.set_cons_succ]
            refine wpAnyH_takeD (i := 16) (v := ?_) (some 66) rfl rfl (by kernel_rfl) (by kernel_rfl) (by kernel_rfl) (fun _ _ _ h => h) (Or.inl ⟨by rfl, ?_⟩) (by assumption) ?_
            rotate_left
            · intro w' hSw
              go_simp
              first | done | with_reducible rfl
            try simp only [Go.Act.put, List.setIfInBounds_toArray, List.set_cons_zero, List.set_cons_succ]
            refine wpAnyH_done (by kernel_rfl) ?_ _
            have HS7 := Lib.hid hHeld
            clear hHeld HE7
            by_cases hcv7 : cv7 < 0
            · have d7 : decide (cv7 < 0) = true := decide_eq_true hcv7
              try simp only [d7, Bool.not_true, Bool.not_false]
              have HDn := Lib.hid (show jq + 1 = scanDown (fun x => !ltC D x di[a]!) di ii j from by rw [← HDE.out]; exact (scanDown_end (fun x => !ltC D x di[a]!) di ii (jq + 1) (Or.inr (by show (!ltC D di[jq + 1]! di[a]!) = false; rw [HV7.out, d7]; rfl))).symm)
              clear HDE HV7
              have hngt : ¬ ((jq : Int) + 1 < (ii : Int)) := by omega
              have hlt : ii < jq + 1 := part_scans_lt (ltC D) a i j di (by omega) HU.out HDn.out (by omega)
              have HPE := Lib.hid (show partition (ltC D) dk a hi pv = ((partLoop (ltC D) a (ii + 1) jq (swp di ii (jq + 1))).1, false, swp (partLoop (ltC D) a (ii + 1) jq (swp di ii (jq + 1))).2 (partLoop (ltC D) a (ii + 1) jq (swp di ii (jq + 1))).1 a) from by
                unfold partition
                simp only [HDK0.out, HI1.out, HJ1.out, ← HU.out, ← HDn.out, Nat.add_sub_cancel]
                rw [if_neg (by omega)])
              clear HU HDn
              have c8 := HS7.out
              have m0 := c8.cell ii (by have := HDI.out; omega)
              have m1 := c8.cell (jq + 1) (by have := HDI.out; omega)
              have f0 := c8.frozen ii
              have f1 := c8.frozen (jq + 1)
              obtain ⟨u, m2⟩ := c8.second ii (jq + 1) (by have := HDI.out; omega) (by have := HDI.out; omega) _ (c8.ok (jq + 1) (by have := HDI.out; omega))
              have s8 := c8.swap ii (jq + 1) (by have := HDI.out; omega) (by have := HDI.out; omega)
              obtain ⟨x, hx⟩ : ∃ x, di[ii]! = x := ⟨_, rfl⟩
              obtain ⟨y, hy⟩ : ∃ y, di[(jq + 1)]! = y := ⟨_, rfl⟩
              simp only [hx, hy] at s8 m0 m1 m2
              have HS8 := Lib.hid s8
              have mixed := Try.mixed
              clear c8 hx hy s8 HS7
              go_wp2_with fail
              go_big_region_o
              clear m0 m1 m2 f0 f1 mixed
              generalize ((v7.setCell ⟨d, ii, none⟩ (.int .i64 y)).setCell ⟨d, (jq + 1), none⟩ (.int .i64 x)).drew = v8 at *
              obtain ⟨d1, hd1⟩ : ∃ z, swp di ii (jq + 1) = z := ⟨_, rfl⟩
              obtain ⟨i1, hi1e⟩ : ∃ z, ii + 1 = z := ⟨_, rfl⟩
              obtain ⟨j1, hj1e⟩ : ∃ z, jq = z := ⟨_, rfl⟩
              have HD1 := Lib.hid (show d1.size = N from by rw [← hd1, size_swp]; exact HDI.out)
              have HS1d := Lib.hid (show SR w0 d g b n now D tl d1 v8 from by rw [← hd1]; exact HS8.out)
              rw [hd1, hi1e, hj1e] at HPE
              have b1 : a < i1 := by omega
              have b2 : i1 ≤ j1 + 1 := by omega
              have b3 : j1 < hi := by omega
              have HI1E := Lib.hid hi1e
              have HJ1E := Lib.hid hj1e
              clear HS8 hd1 HI1 HJ1 HDK0 hi1e hj1e
              clear HDI
              go_wp2
              go_loopw [12, 13] (fun vi vj wr => ∃ (i j : Nat) (di : Array Int), vi = .int .i64 i ∧ vj = .int .i64 j ∧ a < i ∧ i ≤ j + 1 ∧ j < hi ∧ Hid (di.size = N) ∧ Hid (SR w0 d g b n now D tl di wr) ∧ Hid (partLoop (ltC D) a i j di = partLoop (ltC D) a i1 j1 d1)) (fun vi vj _ => (intOf vj).toNat + 1 - (intOf vi).toNat)
              case atStart => exact ⟨i1, j1, d1, by rw [← HI1E.out]; go_num, by rw [← HJ1E.out], b1, b2, b3, HD1, HS1d, Lib.hid rfl⟩
              case round =>
                clear hi5 hi6 hi7 hi1 hi2 hj1 hj2 hij hij2 hlt
                clear pz0 pz1 pz2 pz3 pz4 pz5 pz6 pz7 pz8 hij2z hijz hiN hi0 hiw hngt
                clear HI1E HJ1E b1 b2 b3 HD1 HS1d
                obtain ⟨i, j, di, rfl, rfl, hi5, hi6, hi7, HDI, HI, HE⟩ := hrel
                go_wp2
                generalize wr = wup at *
                go_loopw [12] (fun vi wr => ∃ (ii : Nat), vi = .int .i64 ii ∧ i ≤ ii ∧ ii ≤ j + 1 ∧ Hid (SR w0 d g b n now D tl di wr) ∧ Hid (scanUp (fun x => ltC D x di[a]!) di j ii = scanUp (fun x => ltC D x di[a]!) di j i)) (fun vi _ => j + 1 - (intOf vi).toNat)
                case atStart => exact ⟨i, rfl, Nat.le_refl _, by omega, HI, Lib.hid rfl⟩
                case round =>
                  obtain ⟨ii, rfl, hi1, hi2, HUW, HUE⟩ := hrel
                  clear HI
                  by_cases hij : ii ≤ j
                  · have hijz : (ii : Int) ≤ (j : Int) := by omega
                    have hiN : (ii : Int) < (N : Int) := by omega
                    have haN : (a : Int) < (N : Int) := by omega
                    have hi0 : (0 : Int) ≤ (ii : Int) := by omega
                    have hiw : IntKind.i64.wrap ((ii : Int) + 1) = (ii : Int) + 1 := IntWalk.i64_in _ (by omega)
                    have HC9 := Lib.hid (fun w (h : SR w0 d g b n now D tl di w) => h.cmp ii a (by have := HDI.out; omega) (by have := HDI.out; omega))
                    have HE9 := Lib.hid (fun w (h : SR w0 d g b n now D tl di w) => And.intro (h.cell ii (by have := HDI.out; omega)) (h.cell a (by have := HDI.out; omega)))
                    obtain ⟨x9, hx9⟩ : ∃ x, di[ii]! = x := ⟨_, rfl⟩
                    obtain ⟨y9, hy9⟩ : ∃ x, di[a]! = x := ⟨_, rfl⟩
                    simp only [hx9, hy9] at HC9 HE9
                    obtain ⟨cv9, hc9⟩ : ∃ z, cmpC D x9 y9 = z := ⟨_, rfl⟩
                    have HV9 := Lib.hid (show ltC D di[ii]! di[a]! = decide (cv9 < 0) from by rw [hx9, hy9, ← hc9]; rfl)
                    rw [hc9] at HC9
                    clear hx9 hy9 hc9
                    go_wp2_with fail
                    refine wp_region_held_drew (S := fun w' => SR w0 d g b n now D tl di w') (by kernel_rfl) (HUW.out.drew) (fun hHeld => ?_)
                    refine wpAnyH_takeD (i := 0) (v := ?_) (some 105) rfl rfl (by kernel_rfl) (by kernel_rfl) (by kernel_rfl) (fun _ _ _ h => h) (Or.inl ⟨by rfl, ?_⟩) (by assumption) ?_
                    rotate_left
                    · intro w' hSw
                      go_simp
                      first | done | with_reducible rfl
                    try simp only [Go.Act.put, List.setIfInBounds_toArray, List.set_cons_zero, List.set_cons_succ]
                    refine wpAnyH_takeD (i := 1) (v := ?_) (some 106) rfl rfl (by kernel_rfl) (by kernel_rfl) (by kernel_rfl) (fun _ _ _ h => h) (Or.inl ⟨by rfl, ?_⟩) (by assumption) ?_
                    rotate_left
                    · intro w' hSw
                      go_simp
                      first | done | with_reducible rfl
                    try simp only [Go.Act.put, List.setIfInBounds_toArray, List.set_cons_zero, List.set_cons_succ]
                    refine wpAnyH_takeD (i := 2) (v := ?_) (some 107) rfl rfl (by kernel_rfl) (by kernel_rfl) (by kernel_rfl) (fun _ _ _ h => h) (Or.inl ⟨by rfl, ?_⟩) (by assumption) ?_
                    rotate_left
                    · intro w' hSw
                      go_simp
                      first | done | with_reducible rfl
                    try simp only [Go.Act.put, List.setIfInBounds_toArray, List.set_cons_zero, List.set_cons_succ]
                    refine wpAnyH_takeD (i := 3) (v := ?_) (some 108) rfl rfl (by kernel_rfl) (by kernel_rfl) (by kernel_rfl) (fun _ _ _ h => h) (Or.inl ⟨by rfl, ?_⟩) (by assumption) ?_
                    rotate_left
                    · intro w' hSw
                      go_simp
                      first | done | with_reducible rfl
                    try simp only [Go.Act.put, List.setIfInBounds_toArray, List.set_cons_zero, List.set_cons_succ]
                    refine wpAnyH_takeD (i := 4) (v := ?_) (some 109) rfl rfl (by kernel_rfl) (by kernel_rfl) (by kernel_rfl) (fun _ _ _ h => h) (Or.inl ⟨by rfl, ?_⟩) (by assumption) ?_
                    rotate_left
                    · intro w' hSw
                      go_simp
                      first | done | with_reducible rfl
                    try simp only [Go.Act.put, List.setIfInBounds_toArray, List.set_cons_zero, List.set_cons_succ]
                    refine wpAnyH_takeD (i := 5) (v := ?_) (some 110) rfl rfl (by kernel_rfl) (by kernel_rfl) (by kernel_rfl) (fun _ _ _ h => h) (Or.inl ⟨by rfl, ?_⟩) (by assumption) ?_
                    rotate_left
                    · intro w' hSw
                      go_simp
                      first | done | with_reducible rfl
                    try simp only [Go.Act.put, List.setIfInBounds_toArray, List.set_cons_zero, List.set_cons_succ]
                    refine wpAnyH_takeD (i := 6) (v := ?_) (some 111) rfl rfl (by kernel_rfl) (by kernel_rfl) (by kernel_rfl) (fun _ _ _ h => h) (Or.inl ⟨by rfl, ?_⟩) (by assumption) ?_
                    rotate_left
                    · intro w' hSw
                      go_simp
                      first | done | with_reducible rfl
                    try simp only [Go.Act.put, List.setIfInBounds_toArray, List.set_cons_zero, List.set_cons_succ]
                    refine wpAnyH_takeD (i := 7) (v := ?_) (some 112) rfl rfl (by kernel_rfl) (by kernel_rfl) (by kernel_rfl) (fun _ _ _ h => h) (Or.inl ⟨by rfl, ?_⟩) (by assumption) ?_
                    rotate_left
                    · intro w' hSw
                      go_simp
                      first | done | with_reducible rfl
                    try simp only [Go.Act.put, List.setIfInBounds_toArray, List.set_cons_zero, List.set_cons_succ]
                    refine wpAnyH_takeD (i := 8) (v := ?_) (some 113) rfl rfl (by kernel_rfl) (by kernel_rfl) (by kernel_rfl) (fun _ _ _ h => h) (Or.inl ⟨by rfl, ?_⟩) (by assumption) ?_
                    rotate_left
                    · intro w' hSw
                      obtain ⟨m0, m1⟩ := HE9.out w' hSw
                      go_simp
                      first | done | with_reducible rfl
                    try simp only [Go.Act.put, List.setIfInBounds_toArray, List.set_cons_zero, List.set_cons_succ]
                    refine wpAnyH_takeD (i := 9) (v := ?_) (some 114) rfl rfl (by kernel_rfl) (by kernel_rfl) (by kernel_rfl) (fun _ _ _ h => h) (Or.inl ⟨by rfl, ?_⟩) (by assumption) ?_
                    rotate_left
                    · intro w' hSw
                      go_simp
                      first | done | with_reducible rfl
                    try simp only [Go.Act.put, List.setIfInBounds_toArray, List.set_cons_zero, List.set_cons_succ]
                    refine wpAnyH_takeD (i := 10) (v := ?_) (some 115) rfl rfl (by kernel_rfl) (by kernel_rfl) (by kernel_rfl) (fun _ _ _ h => h) (Or.inl ⟨by rfl, ?_⟩) (by assumption) ?_
                    rotate_left
                    · intro w' hSw
                      go_simp
                      first | done | with_reducible rfl
                    try simp only [Go.Act.put, List.setIfInBounds_toArray, List.set_cons_zero, List.set_cons_succ]
                    refine wpAnyH_takeD (i := 11) (v := ?_) (some 116) rfl rfl (by kernel_rfl) (by kernel_rfl) (by kernel_rfl) (fun _ _ _ h => h) (Or.inl ⟨by rfl, ?_⟩) (by assumption) ?_
                    rotate_left
                    · intro w' hSw
                      go_simp
                      first | done | with_reducible rfl
                    try simp only [Go.Act.put, List.setIfInBounds_toArray, List.set_cons_zero, List.set_cons_succ]
                    refine wpAnyH_takeD (i := 12) (v := ?_) (some 117) rfl rfl (by kernel_rfl) (by kernel_rfl) (by kernel_rfl) (fun _ _ _ h => h) (Or.inl ⟨by rfl, ?_⟩) (by assumption) ?_
                    rotate_left
                    · intro w' hSw
                      obtain ⟨m0, m1⟩ := HE9.out w' hSw
                      go_simp
                      first | done | with_reducible rfl
                    try simp only [Go.Act.put, List.setIfInBounds_toArray, List.set_cons_zero, List.set_cons_succ]
                    refine wpAnyH_ready (rs := [13]) (by kernel_rfl) (by simp) ?_
                    refine AllReadyH.cons rfl (fun K hK => ?_) AllReadyH.nil
                    go_simp
                    refine (HC9.out _ hHeld).mono ?_; rintro e v9 ⟨rfl, h9⟩
                    try go_simp
                    refine hK.out _ _ (h9) (fun hHeld => ?_)
                    clear hK K
                    try change wpAnyH _ _ _ _ _ _ _ (Go.Act.put _ (some 118) _) _
                    try simp only [Go.Act.put, List.setIfInBounds_toArray, List.set_cons_zero, List.set_cons_succ]
                    clear h9 HUW HC9
                    refine wpAnyH_takeD (i := 14) (v := ?_) (some 119) rfl rfl (by kernel_rfl) (by kernel_rfl) (by kernel_rfl) (fun _ _ _ h => h) (Or.inl ⟨by rfl, ?_⟩) (by assumption) ?_
                    rotate_left
                    · intro w' hSw
                      go_simp
                      first | done | with_reducible rfl
                    try simp only [Go.Act.put, List.setIfInBounds_toArray, List.set_cons_zero, List.set_cons_succ]
                    refine wpAnyH_takeD (i := 15) (v := ?_) (some 120) rfl rfl (by kernel_rfl) (by kernel_rfl) (by kernel_rfl) (fun _ _ _ h => h) (Or.inl ⟨by rfl, ?_⟩) (by assumption) ?_
                    rotate_left
                    · intro w' hSw
                      go_simp
                      first | done | with_reducible rfl
                    try simp only [Go.Act.put, List.setIfInBounds_toArray, List.set_cons_zero, List.set_cons_succ]
                    refine wpAnyH_done (by kernel_rfl) ?_ _
                    have HS9 := Lib.hid hHeld
                    clear hHeld HE9
                    by_cases hcv9 : cv9 < 0
                    · have d9 : decide (cv9 < 0) = true := decide_eq_true hcv9
                      try simp only [d9, Bool.not_true, Bool.not_false]
                      have HE2 := Lib.hid (show scanUp (fun x => ltC D x di[a]!) di j (ii + 1) = scanUp (fun x => ltC D x di[a]!) di j i from by rw [← HUE.out]; exact (scanUp_go (fun x => ltC D x di[a]!) di j ii hij (by show ltC D di[ii]! di[a]! = true; rw [HV9.out, d9])).symm)
                      clear HUE HV9
                      go_wp2
                      go_roundw
                      case rel => exact ⟨ii + 1, by go_num, by omega, by omega, HS9, HE2⟩
                      case measure => simp [intOf]; omega
                    · have d9 : decide (cv9 < 0) = false := decide_eq_false hcv9
                      try simp only [d9, Bool.not_true, Bool.not_false]
                      have HU := Lib.hid (show ii = scanUp (fun x => ltC D x di[a]!) di j i from by rw [← HUE.out]; exact (scanUp_end (fun x => ltC D x di[a]!) di j ii (Or.inr (by show ltC D di[ii]! di[a]! = false; rw [HV9.out, d9]))).symm)
                      clear HUE HV9
                      go_wp2
                      generalize v9 = wdn at *
                      go_loopw [13] (fun vj wr => ∃ (jj : Nat), vj = .int .i64 jj ∧ ii ≤ jj + 1 ∧ jj ≤ j ∧ Hid (SR w0 d g b n now D tl di wr) ∧ Hid (scanDown (fun x => !ltC D x di[a]!) di ii jj = scanDown (fun x => !ltC D x di[a]!) di ii j)) (fun vj _ => (intOf vj).toNat)
                      case atStart => exact ⟨j, rfl, by omega, Nat.le_refl _, HS9, Lib.hid rfl⟩
                      case round =>
                        obtain ⟨jj, rfl, hj1, hj2, HDW, HDE⟩ := hrel
                        clear HS9
                        by_cases hij2 : ii ≤ jj
                        · obtain ⟨jq, rfl⟩ : ∃ jq, jj = jq + 1 := ⟨jj - 1, by omega⟩
                          rw [show ((jq + 1 : Nat) : Int) = (jq : Int) + 1 from rfl]
                          have hij2z : (ii : Int) ≤ (jq : Int) + 1 := by omega
                          have pz0 : (0 : Int) ≤ (jq : Int) + 1 := by omega
                          have pz1 : (jq : Int) + 1 < (N : Int) := by omega
                          have pz2 : (0 : Int) ≤ (jq : Int) := by omega
                          have pz3 : (jq : Int) < (N : Int) := by omega
                          have pz4 : ((jq : Int) + 1).toNat = jq + 1 := by omega
                          have pz5 : IntKind.i64.wrap ((jq : Int) + 1 - 1) = (jq : Int) := by rw [show (jq : Int) + 1 - 1 = jq by omega]; exact IntWalk.i64_in _ (by omega)
                          have pz6 : IntKind.i64.wrap (jq : Int) = (jq : Int) := IntWalk.i64_in _ (by omega)
                          have pz7 : IntKind.i64.wrap ((jq : Int) + 1) = (jq : Int) + 1 := IntWalk.i64_in _ (by omega)
                          have pz8 : (jq : Int) + 1 - 1 = (jq : Int) := by omega
                          have HC10 := Lib.hid (fun w (h : SR w0 d g b n now D tl di w) => h.cmp (jq + 1) a (by have := HDI.out; omega) (by have := HDI.out; omega))
                          have HE10 := Lib.hid (fun w (h : SR w0 d g b n now D tl di w) => And.intro (h.cell (jq + 1) (by have := HDI.out; omega)) (h.cell a (by have := HDI.out; omega)))
                          obtain ⟨x10, hx10⟩ : ∃ x, di[(jq + 1)]! = x := ⟨_, rfl⟩
                          obtain ⟨y10, hy10⟩ : ∃ x, di[a]! = x := ⟨_, rfl⟩
                          simp only [hx10, hy10] at HC10 HE10
                          obtain ⟨cv10, hc10⟩ : ∃ z, cmpC D x10 y10 = z := ⟨_, rfl⟩
                          have HV10 := Lib.hid (show ltC D di[(jq + 1)]! di[a]! = decide (cv10 < 0) from by rw [hx10, hy10, ← hc10]; rfl)
                          rw [hc10] at HC10
                          clear hx10 hy10 hc10
                          go_wp2_with fail
                          refine wp_region_held_drew (S := fun w' => SR w0 d g b n now D tl di w') (by kernel_rfl) (HDW.out.drew) (fun hHeld => ?_)
                          refine wpAnyH_takeD (i := 0) (v := ?_) (some 123) rfl rfl (by kernel_rfl) (by kernel_rfl) (by kernel_rfl) (fun _ _ _ h => h) (Or.inl ⟨by rfl, ?_⟩) (by assumption) ?_
                          rotate_left
                          · intro w' hSw
                            go_simp
                            first | done | with_reducible rfl
                          try simp only [Go.Act.put, List.setIfInBounds_toArray, List.set_cons_zero, List.set_cons_succ]
                          refine wpAnyH_takeD (i := 1) (v := ?_) (some 124) rfl rfl (by kernel_rfl) (by kernel_rfl) (by kernel_rfl) (fun _ _ _ h => h) (Or.inl ⟨by rfl, ?_⟩) (by assumption) ?_
                          rotate_left
                          · intro w' hSw
                            go_simp
                            first | done | with_reducible rfl
                          try simp only [Go.Act.put, List.setIfInBounds_toArray, List.set_cons_zero, List.set_cons_succ]
                          refine wpAnyH_takeD (i := 2) (v := ?_) (some 125) rfl rfl (by kernel_rfl) (by kernel_rfl) (by kernel_rfl) (fun _ _ _ h => h) (Or.inl ⟨by rfl, ?_⟩) (by assumption) ?_
                          rotate_left
                          · intro w' hSw
                            go_simp
                            first | done | with_reducible rfl
                          try simp only [Go.Act.put, List.setIfInBounds_toArray, List.set_cons_zero, List.set_cons_succ]
                          refine wpAnyH_takeD (i := 3) (v := ?_) (some 126) rfl rfl (by kernel_rfl) (by kernel_rfl) (by kernel_rfl) (fun _ _ _ h => h) (Or.inl ⟨by rfl, ?_⟩) (by assumption) ?_
                          rotate_left
                          · intro w' hSw
                            go_simp
                            first | done | with_reducible rfl
                          try simp only [Go.Act.put, List.setIfInBounds_toArray, List.set_cons_zero, List.set_cons_succ]
                          refine wpAnyH_takeD (i := 4) (v := ?_) (some 127) rfl rfl (by kernel_rfl) (by kernel_rfl) (by kernel_rfl) (fun _ _ _ h => h) (Or.inl ⟨by rfl, ?_⟩) (by assumption) ?_
                          rotate_left
                          · intro w' hSw
                            go_simp
                            first | done | with_reducible rfl
                          try simp only [Go.Act.put, List.setIfInBounds_toArray, List.set_cons_zero, List.set_cons_succ]
                          refine wpAnyH_takeD (i := 5) (v := ?_) (some 128) rfl rfl (by kernel_rfl) (by kernel_rfl) (by kernel_rfl) (fun _ _ _ h => h) (Or.inl ⟨by rfl, ?_⟩) (by assumption) ?_
                          rotate_left
                          · intro w' hSw
                            go_simp
                            first | done | with_reducible rfl
                          try simp only [Go.Act.put, List.setIfInBounds_toArray, List.set_cons_zero, List.set_cons_succ]
                          refine wpAnyH_takeD (i := 6) (v := ?_) (some 129) rfl rfl (by kernel_rfl) (by kernel_rfl) (by kernel_rfl) (fun _ _ _ h => h) (Or.inl ⟨by rfl, ?_⟩) (by assumption) ?_
                          rotate_left
                          · intro w' hSw
                            go_simp
                            first | done | with_reducible rfl
                          try simp only [Go.Act.put, List.setIfInBounds_toArray, List.set_cons_zero, List.set_cons_succ]
                          refine wpAnyH_takeD (i := 7) (v := ?_) (some 130) rfl rfl (by kernel_rfl) (by kernel_rfl) (by kernel_rfl) (fun _ _ _ h => h) (Or.inl ⟨by rfl, ?_⟩) (by assumption) ?_
                          rotate_left
                          · intro w' hSw
                            go_simp
                            first | done | with_reducible rfl
                          try simp only [Go.Act.put, List.setIfInBounds_toArray, List.set_cons_zero, List.set_cons_succ]
                          refine wpAnyH_takeD (i := 8) (v := ?_) (some 131) rfl rfl (by kernel_rfl) (by kernel_rfl) (by kernel_rfl) (fun _ _ _ h => h) (Or.inl ⟨by rfl, ?_⟩) (by assumption) ?_
                          rotate_left
                          · intro w' hSw
                            obtain ⟨m0, m1⟩ := HE10.out w' hSw
                            go_simp
                            first | done | with_reducible rfl
                          try simp only [Go.Act.put, List.setIfInBounds_toArray, List.set_cons_zero, List.set_cons_succ]
                          refine wpAnyH_takeD (i := 9) (v := ?_) (some 132) rfl rfl (by kernel_rfl) (by kernel_rfl) (by kernel_rfl) (fun _ _ _ h => h) (Or.inl ⟨by rfl, ?_⟩) (by assumption) ?_
                          rotate_left
                          · intro w' hSw
                            go_simp
                            first | done | with_reducible rfl
                          try simp only [Go.Act.put, List.setIfInBounds_toArray, List.set_cons_zero, List.set_cons_succ]
                          refine wpAnyH_takeD (i := 10) (v := ?_) (some 133) rfl rfl (by kernel_rfl) (by kernel_rfl) (by kernel_rfl) (fun _ _ _ h => h) (Or.inl ⟨by rfl, ?_⟩) (by assumption) ?_
                          rotate_left
                          · intro w' hSw
                            go_simp
                            first | done | with_reducible rfl
                          try simp only [Go.Act.put, List.setIfInBounds_toArray, List.set_cons_zero, List.set_cons_succ]
                          refine wpAnyH_takeD (i := 11) (v := ?_) (some 134) rfl rfl (by kernel_rfl) (by kernel_rfl) (by kernel_rfl) (fun _ _ _ h => h) (Or.inl ⟨by rfl, ?_⟩) (by assumption) ?_
                          rotate_left
                          · intro w' hSw
                            go_simp
                            first | done | with_reducible rfl
                          try simp only [Go.Act.put, List.setIfInBounds_toArray, List.set_cons_zero, List.set_cons_succ]
                          refine wpAnyH_takeD (i := 12) (v := ?_) (some 135) rfl rfl (by kernel_rfl) (by kernel_rfl) (by kernel_rfl) (fun _ _ _ h => h) (Or.inl ⟨by rfl, ?_⟩) (by assumption) ?_
                          rotate_left
                          · intro w' hSw
                            obtain ⟨m0, m1⟩ := HE10.out w' hSw
                            go_simp
                            first | done | with_reducible rfl
                          try simp only [Go.Act.put, List.setIfInBounds_toArray, List.set_cons_zero, List.set_cons_succ]
                          refine wpAnyH_ready (rs := [13]) (by kernel_rfl) (by simp) ?_
                          refine AllReadyH.cons rfl (fun K hK => ?_) AllReadyH.nil
                          go_simp
                          refine (HC10.out _ hHeld).mono ?_; rintro e v10 ⟨rfl, h9⟩
                          try go_simp
                          refine hK.out _ _ (h9) (fun hHeld => ?_)
                          clear hK K
                          try change wpAnyH _ _ _ _ _ _ _ (Go.Act.put _ (some 136) _) _
                          try simp only [Go.Act.put, List.setIfInBounds_toArray, List.set_cons_zero, List.set_cons_succ]
                          clear h9 HDW HC10
                          refine wpAnyH_takeD (i := 14) (v := ?_) (some 137) rfl rfl (by kernel_rfl) (by kernel_rfl) (by kernel_rfl) (fun _ _ _ h => h) (Or.inl ⟨by rfl, ?_⟩) (by assumption) ?_
                          rotate_left
                          · intro w' hSw
                            go_simp
                            first | done | with_reducible rfl
                          try simp only [Go.Act.put, List.setIfInBounds_toArray, List.set_cons_zero, List.set_cons_succ]
                          refine wpAnyH_takeD (i := 15) (v := ?_) (some 138) rfl rfl (by kernel_rfl) (by kernel_rfl) (by kernel_rfl) (fun _ _ _ h => h) (Or.inl ⟨by rfl, ?_⟩) (by assumption) ?_
                          rotate_left
                          · intro w' hSw
                            go_simp
                            first | done | with_reducible rfl
                          try simp only [Go.Act.put, List.setIfInBounds_toArray, List.set_cons_zero, List.set_cons_succ]
                          refine wpAnyH_takeD (i := 16) (v := ?_) (some 139) rfl rfl (by kernel_rfl) (by kernel_rfl) (by kernel_rfl) (fun _ _ _ h => h) (Or.inl ⟨by rfl, ?_⟩) (by assumption) ?_
                          rotate_left
                          · intro w' hSw
                            go_simp
                            first | done | with_reducible rfl
                          try simp only [Go.Act.put, List.setIfInBounds_toArray, List.set_cons_zero, List.set_cons_succ]
                          refine wpAnyH_done (by kernel_rfl) ?_ _
                          have HS10 := Lib.hid hHeld
                          clear hHeld HE10
                          by_cases hcv10 : cv10 < 0
                          · have d10 : decide (cv10 < 0) = true := decide_eq_true hcv10
                            try simp only [d10, Bool.not_true, Bool.not_false]
                            have HDn := Lib.hid (show jq + 1 = scanDown (fun x => !ltC D x di[a]!) di ii j from by rw [← HDE.out]; exact (scanDown_end (fun x => !ltC D x di[a]!) di ii (jq + 1) (Or.inr (by show (!ltC D di[jq + 1]! di[a]!) = false; rw [HV10.out, d10]; rfl))).symm)
                            clear HDE HV10
                            have hngt : ¬ ((jq : Int) + 1 < (ii : Int)) := by omega
                            have hlt : ii < jq + 1 := part_scans_lt (ltC D) a i j di (by omega) HU.out HDn.out (by omega)
                            have HE3 := Lib.hid (show partLoop (ltC D) a (ii + 1) jq (swp di ii (jq + 1)) = partLoop (ltC D) a i1 j1 d1 from by rw [← HE.out]; exact (part_go (ltC D) a i j di HU.out HDn.out (by omega)).symm)
                            clear HU HDn HE
                            have c11 := HS10.out
                            have m0 := c11.cell ii (by have := HDI.out; omega)
                            have m1 := c11.cell (jq + 1) (by have := HDI.out; omega)
                            have f0 := c11.frozen ii
                            have f1 := c11.frozen (jq + 1)
                            obtain ⟨u, m2⟩ := c11.second ii (jq + 1) (by have := HDI.out; omega) (by have := HDI.out; omega) _ (c11.ok (jq + 1) (by have := HDI.out; omega))
                            have s11 := c11.swap ii (jq + 1) (by have := HDI.out; omega) (by have := HDI.out; omega)
                            obtain ⟨x, hx⟩ : ∃ x, di[ii]! = x := ⟨_, rfl⟩
                            obtain ⟨y, hy⟩ : ∃ y, di[(jq + 1)]! = y := ⟨_, rfl⟩
                            simp only [hx, hy] at s11 m0 m1 m2
                            have HS11 := Lib.hid s11
                            have mixed := Try.mixed
                            clear c11 hx hy s11 HS10
                            go_wp2_with fail
                            go_big_region_o
                            clear m0 m1 m2 f0 f1 mixed
                            generalize ((v10.setCell ⟨d, ii, none⟩ (.int .i64 y)).setCell ⟨d, (jq + 1), none⟩ (.int .i64 x)).drew = v11 at *
                            have HD3 := Lib.hid (show (swp di ii (jq + 1)).size = N from by rw [size_swp]; exact HDI.out)
                            go_wp2
                            go_roundw
                            case rel => exact ⟨ii + 1, jq, swp di ii (jq + 1), by go_num, by go_num, by omega, by omega, by omega, HD3, HS11, HE3⟩
                            case measure => simp [intOf]; omega
                          · have d10 : decide (cv10 < 0) = false := decide_eq_false hcv10
                            try simp only [d10, Bool.not_true, Bool.not_false]
                            have HE2 := Lib.hid (show scanDown (fun x => !ltC D x di[a]!) di ii jq = scanDown (fun x => !ltC D x di[a]!) di ii j from by rw [← HDE.out]; exact (scanDown_go (fun x => !ltC D x di[a]!) di ii (jq + 1) hij2 (by omega) (by show (!ltC D di[jq + 1]! di[a]!) = true; rw [HV10.out, d10]; rfl)).symm)
                            clear HDE HV10
                            go_wp2
                            go_roundw
                            case rel => exact ⟨jq, by go_num, by omega, by omega, HS10, HE2⟩
                            case measure => simp [intOf]
                        · have hjj : ii ≤ jj + 1 := by omega
                          have hijf : decide ((ii : Int) ≤ (jj : Int)) = false := decide_eq_false (by omega)
                          have hgt : (jj : Int) < (ii : Int) := by omega
                          have HDn := Lib.hid (show jj = scanDown (fun x => !ltC D x di[a]!) di ii j from by rw [← HDE.out]; exact (scanDown_end (fun x => !ltC D x di[a]!) di ii jj (Or.inl hij2)).symm)
                          have mixed := Try.mixed
                          have HJ2 := Lib.hid HDW.out.drew
                          clear HDE HDW
                          go_wp2_with fail
                          go_big_region_o
                          clear mixed
                          generalize wr.drew = wbr at *
                          have HRES := Lib.hid (show partition (ltC D) dk a hi pv = (jj, false, swp di jj a) from by rw [HPE.out, ← HE.out, part_break (ltC D) a i j di HU.out HDn.out (by omega)])
                          clear HU HDn HE
                          have hjN : (jj : Int) < (N : Int) := by omega
                          have hj0 : (0 : Int) ≤ (jj : Int) := by omega
                          have c12 := HJ2.out
                          have m0 := c12.cell jj (by have := HDI.out; omega)
                          have m1 := c12.cell a (by have := HDI.out; omega)
                          have f0 := c12.frozen jj
                          have f1 := c12.frozen a
                          obtain ⟨u, m2⟩ := c12.second jj a (by have := HDI.out; omega) (by have := HDI.out; omega) _ (c12.ok a (by have := HDI.out; omega))
                          have s12 := c12.swap jj a (by have := HDI.out; omega) (by have := HDI.out; omega)
                          obtain ⟨x, hx⟩ : ∃ x, di[jj]! = x := ⟨_, rfl⟩
                          obtain ⟨y, hy⟩ : ∃ y, di[a]! = y := ⟨_, rfl⟩
                          simp only [hx, hy] at s12 m0 m1 m2
                          have HS12 := Lib.hid s12
                          have mixed := Try.mixed
                          clear c12 hx hy s12 HJ2
                          go_wp2_with fail
                          go_big_region_o
                          clear m0 m1 m2 f0 f1 mixed
                          generalize ((wbr.setCell ⟨d, jj, none⟩ (.int .i64 y)).setCell ⟨d, a, none⟩ (.int .i64 x)).drew = v12 at *
                          go_wp2
                          try simp only [Exit.inBlock, Exit.then]
                          go_ret2
                          rw [HRES.out]
                          exact ⟨rfl, HS12.out⟩
                  · have hii : j + 1 ≤ ii := by omega
                    have hijf : decide ((ii : Int) ≤ (j : Int)) = false := decide_eq_false (by omega)
                    have HU := Lib.hid (show ii = scanUp (fun x => ltC D x di[a]!) di j i from by rw [← HUE.out]; exact (scanUp_end (fun x => ltC D x di[a]!) di j ii (Or.inl hij)).symm)
                    have mixed := Try.mixed
                    have HJ2 := Lib.hid HUW.out.drew
                    clear HUE HUW
                    go_wp2_with fail
                    go_big_region_o
                    clear mixed
                    generalize wr.drew = wub at *
                    go_wp2
                    generalize wub = wdn at *
                    go_loopw [13] (fun vj wr => vj = .int .i64 j ∧ Hid (SR w0 d g b n now D tl di wr)) (fun _ _ => 0)
                    case atStart => exact ⟨rfl, HJ2⟩
                    case round =>
                      obtain ⟨rfl, HDW⟩ := hrel
                      clear HJ2 hijf
                      have HDE := Lib.hid (show scanDown (fun x => !ltC D x di[a]!) di ii j = scanDown (fun x => !ltC D x di[a]!) di ii j from rfl)
                      have hij2 : ¬ ii ≤ j := by omega
                      have hijf : decide ((ii : Int) ≤ (j : Int)) = false := decide_eq_false (by omega)
                      have hgt : (j : Int) < (ii : Int) := by omega
                      have HDn := Lib.hid (show j = scanDown (fun x => !ltC D x di[a]!) di ii j from by rw [← HDE.out]; exact (scanDown_end (fun x => !ltC D x di[a]!) di ii j (Or.inl hij2)).symm)
                      have mixed := Try.mixed
                      have HJ2 := Lib.hid HDW.out.drew
                      clear HDE HDW
                      go_wp2_with fail
                      go_big_region_o
                      clear mixed
                      generalize wr.drew = wbr at *
                      have HRES := Lib.hid (show partition (ltC D) dk a hi pv = (j, false, swp di j a) from by rw [HPE.out, ← HE.out, part_break (ltC D) a i j di HU.out HDn.out (by omega)])
                      clear HU HDn HE
                      have hjN : (j : Int) < (N : Int) := by omega
                      have hj0 : (0 : Int) ≤ (j : Int) := by omega
                      have c13 := HJ2.out
                      have m0 := c13.cell j (by have := HDI.out; omega)
                      have m1 := c13.cell a (by have := HDI.out; omega)
                      have f0 := c13.frozen j
                      have f1 := c13.frozen a
                      obtain ⟨u, m2⟩ := c13.second j a (by have := HDI.out; omega) (by have := HDI.out; omega) _ (c13.ok a (by have := HDI.out; omega))
                      have s13 := c13.swap j a (by have := HDI.out; omega) (by have := HDI.out; omega)
                      obtain ⟨x, hx⟩ : ∃ x, di[j]! = x := ⟨_, rfl⟩
                      obtain ⟨y, hy⟩ : ∃ y, di[a]! = y := ⟨_, rfl⟩
                      simp only [hx, hy] at s13 m0 m1 m2
                      have HS13 := Lib.hid s13
                      have mixed := Try.mixed
                      clear c13 hx hy s13 HJ2
                      go_wp2_with fail
                      go_big_region_o
                      clear m0 m1 m2 f0 f1 mixed
                      generalize ((wbr.setCell ⟨d, j, none⟩ (.int .i64 y)).setCell ⟨d, a, none⟩ (.int .i64 x)).drew = v13 at *
                      go_wp2
                      try simp only [Exit.inBlock, Exit.then]
                      go_ret2
                      rw [HRES.out]
                      exact ⟨rfl, HS13.out⟩
            · have d7 : decide (cv7 < 0) = false := decide_eq_false hcv7
              try simp only [d7, Bool.not_true, Bool.not_false]
              have HE2 := Lib.hid (show scanDown (fun x => !ltC D x di[a]!) di ii jq = scanDown (fun x => !ltC D x di[a]!) di ii j from by rw [← HDE.out]; exact (scanDown_go (fun x => !ltC D x di[a]!) di ii (jq + 1) hij2 (by omega) (by show (!ltC D di[jq + 1]! di[a]!) = true; rw [HV7.out, d7]; rfl)).symm)
              clear HDE HV7
              go_wp2
              go_roundw
              case rel => exact ⟨jq, by go_num, by omega, by omega, HS7, HE2⟩
              case measure => simp [intOf]
          · have hjj : ii ≤ jj + 1 := by omega
            have hijf : decide ((ii : Int) ≤ (jj : Int)) = false := decide_eq_false (by omega)
            have hgt : (jj : Int) < (ii : Int) := by omega
            have HDn := Lib.hid (show jj = scanDown (fun x => !ltC D x di[a]!) di ii j from by rw [← HDE.out]; exact (scanDown_end (fun x => !ltC D x di[a]!) di ii jj (Or.inl hij2)).symm)
            have mixed := Try.mixed
            have HJ2 := Lib.hid HDW.out.drew
            clear HDE HDW
            go_wp2_with fail
            go_big_region_o
            clear mixed
            generalize wr.drew = wbr at *
            have HRES := Lib.hid (show partition (ltC D) dk a hi pv = (jj, true, swp di jj a) from by
              unfold partition
              simp only [HDK0.out, HI1.out, HJ1.out, ← HU.out, ← HDn.out]
              rw [if_pos (by omega)])
            clear HU HDn HI1 HJ1 HDK0
            have hjN : (jj : Int) < (N : Int) := by omega
            have hj0 : (0 : Int) ≤ (jj : Int) := by omega
            have c14 := HJ2.out
            have m0 := c14.cell jj (by have := HDI.out; omega)
            have m1 := c14.cell a (by have := HDI.out; omega)
            have f0 := c14.frozen jj
            have f1 := c14.frozen a
            obtain ⟨u, m2⟩ := c14.second jj a (by have := HDI.out; omega) (by have := HDI.out; omega) _ (c14.ok a (by have := HDI.out; omega))
            have s14 := c14.swap jj a (by have := HDI.out; omega) (by have := HDI.out; omega)
            obtain ⟨x, hx⟩ : ∃ x, di[jj]! = x := ⟨_, rfl⟩
            obtain ⟨y, hy⟩ : ∃ y, di[a]! = y := ⟨_, rfl⟩
            simp only [hx, hy] at s14 m0 m1 m2
            have HS14 := Lib.hid s14
            have mixed := Try.mixed
            clear c14 hx hy s14 HJ2
            go_wp2_with fail
            go_big_region_o
            clear m0 m1 m2 f0 f1 mixed
            generalize ((wbr.setCell ⟨d, jj, none⟩ (.int .i64 y)).setCell ⟨d, a, none⟩ (.int .i64 x)).drew = v14 at *
            go_wp2
            try simp only [Exit.inBlock, Exit.then]
            go_ret2
            rw [HRES.out]
            exact ⟨rfl, HS14.out⟩
    · have hii : j + 1 ≤ ii := by omega
      have hijf : decide ((ii : Int) ≤ (j : Int)) = false := decide_eq_false (by omega)
      have HU := Lib.hid (show ii = scanUp (fun x => ltC D x di[a]!) di j i from by rw [← HUE.out]; exact (scanUp_end (fun x => ltC D x di[a]!) di j ii (Or.inl hij)).symm)
      have mixed := Try.mixed
      have HJ2 := Lib.hid HUW.out.drew
      clear HUE HUW
      go_wp2_with fail
      go_big_region_o
      clear mixed
      generalize wr.drew = wub at *
      go_wp2
      generalize wub = wdn at *
      go_loopw [13] (fun vj wr => vj = .int .i64 j ∧ Hid (SR w0 d g b n now D tl di wr)) (fun _ _ => 0)
      case atStart => exact ⟨rfl, HJ2⟩
      case round =>
        obtain ⟨rfl, HDW⟩ := hrel
        clear HJ2 hijf
        have HDE := Lib.hid (show scanDown (fun x => !ltC D x di[a]!) di ii j = scanDown (fun x => !ltC D x di[a]!) di ii j from rfl)
        have hij2 : ¬ ii ≤ j := by omega
        have hijf : decide ((ii : Int) ≤ (j : Int)) = false := decide_eq_false (by omega)
        have hgt : (j : Int) < (ii : Int) := by omega
        have HDn := Lib.hid (show j = scanDown (fun x => !ltC D x di[a]!) di ii j from by rw [← HDE.out]; exact (scanDown_end (fun x => !ltC D x di[a]!) di ii j (Or.inl hij2)).symm)
        have mixed := Try.mixed
        have HJ2 := Lib.hid HDW.out.drew
        clear HDE HDW
        go_wp2_with fail
        go_big_region_o
        clear mixed
        generalize wr.drew = wbr at *
        have HRES := Lib.hid (show partition (ltC D) dk a hi pv = (j, true, swp di j a) from by
          unfold partition
          simp only [HDK0.out, HI1.out, HJ1.out, ← HU.out, ← HDn.out]
          rw [if_pos (by omega)])
        clear HU HDn HI1 HJ1 HDK0
        have hjN : (j : Int) < (N : Int) := by omega
        have hj0 : (0 : Int) ≤ (j : Int) := by omega
        have c15 := HJ2.out
        have m0 := c15.cell j (by have := HDI.out; omega)
        have m1 := c15.cell a (by have := HDI.out; omega)
        have f0 := c15.frozen j
        have f1 := c15.frozen a
        obtain ⟨u, m2⟩ := c15.second j a (by have := HDI.out; omega) (by have := HDI.out; omega) _ (c15.ok a (by have := HDI.out; omega))
        have s15 := c15.swap j a (by have := HDI.out; omega) (by have := HDI.out; omega)
        obtain ⟨x, hx⟩ : ∃ x, di[j]! = x := ⟨_, rfl⟩
        obtain ⟨y, hy⟩ : ∃ y, di[a]! = y := ⟨_, rfl⟩
        simp only [hx, hy] at s15 m0 m1 m2
        have HS15 := Lib.hid s15
        have mixed := Try.mixed
        clear c15 hx hy s15 HJ2
        go_wp2_with fail
        go_big_region_o
        clear m0 m1 m2 f0 f1 mixed
        generalize ((wbr.setCell ⟨d, j, none⟩ (.int .i64 y)).setCell ⟨d, a, none⟩ (.int .i64 x)).drew = v15 at *
        go_wp2
        try simp only [Exit.inBlock, Exit.then]
        go_ret2
        rw [HRES.out]
        exact ⟨rfl, HS15.out⟩
end Go.Proofs.Ytholaofgdahcbaa
