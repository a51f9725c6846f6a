/- slices.order2CmpFunc, medianCmpFunc, medianAdjacentCmpFunc, choosePivotCmpFunc under a clock's comparison. -/
import Derived.Test.YtholaofgdahcbaaWe
namespace Go.Proofs.Ytholaofgdahcbaa
open Go.RowKit Go.Maps Go.Sort

/-- A world of the sort, a counter beside it. -/
structure SC (w0 : World) (d g b n : Nat) (now : Int) (D : DataW Unit) (tl : List Value) (dk : Array Int) (c s : Nat) (w : World) : Prop where
  sr : SR w0 d g b n now D tl dk w
  ct : Bk w c 3 #[.int .i64 (s : Int)]
  cd : c ≠ d
  cg : ¬ CS g (some b) c
  new : w0.heap.size ≤ c
section
variable {w0 w w' : World} {d g b n c s : Nat} {now : Int} {D : DataW Unit} {tl : List Value} {dk : Array Int}
theorem SC.on (h : SC w0 d g b n now D tl dk c s w) (hf : Fr (fun _ => False) w w') : SC w0 d g b n now D tl dk c s w' := ⟨h.sr.on hf, h.ct.fr hf (fun h => h), h.cd, h.cg, h.new⟩
theorem SC.drew (h : SC w0 d g b n now D tl dk c s w) : SC w0 d g b n now D tl dk c s w.drew := h.on (Fr.refl _ _).drew
theorem SC.cell (h : SC w0 d g b n now D tl dk c s w) (i : Nat) (hi : i < dk.size) : w.cell? ⟨d, i, none⟩ = some (.int .i64 dk[i]!) := h.sr.cell i hi
theorem SC.cmp (h : SC w0 d g b n now D tl dk c s w) (i j : Nat) (hi : i < dk.size) (hj : j < dk.size) :
    Calls Try.prog 24 #[.pointer (some ⟨g, 0, none⟩), .int .i64 dk[i]!, .int .i64 dk[j]!] w fun e w' => e = .returned (.int .i64 (cmpC D dk[i]! dk[j]!)) ∧ SC w0 d g b n now D tl dk c s w' :=
  (clkcmp_any g b n now _ _ D w h.sr.clk (h.sr.ok i hi) (h.sr.ok j hj)).mono fun _ _ ⟨h1, h2⟩ => ⟨h1, h.on h2⟩
theorem SC.bump (h : SC w0 d g b n now D tl dk c s w) (t : Nat) : SC w0 d g b n now D tl dk c t (w.setCell ⟨c, 0, none⟩ (.int .i64 (t : Int))) := by
  have f4 : Fr (fun k => k = c) w (w.setCell ⟨c, 0, none⟩ (.int .i64 (t : Int))) := Fr.setCell (S := fun k => k = c) (Fr.refl _ _) (fun _ => rfl) _
  exact ⟨⟨h.sr.clk.fr f4 (fun k hk e => h.cg (e ▸ hk)), h.sr.bk.fr f4 (fun e => h.cd e.symm), h.sr.fr.trans f4 (fun x hx e => by have h1 : x = c := e; have h2 := h.new; omega), h.sr.gd, h.sr.ok⟩, by simpa using h.ct.set 0 (.int .i64 (t : Int)), h.cd, h.cg, h.new⟩
end
theorem order2_lt {lt : Int → Int → Bool} {dk : Array Int} {a b s N : Nat} (ha : a < N) (hb : b < N) : (order2 lt dk a b s).1 < N ∧ (order2 lt dk a b s).2.1 < N ∧ (order2 lt dk a b s).2.2 ≤ s + 1 := by
  unfold order2; split
  · exact ⟨hb, ha, Nat.le_refl _⟩
  · exact ⟨ha, hb, Nat.le_succ _⟩

set_option maxRecDepth 100000 in
set_option maxHeartbeats 2000000 in
theorem order2_any (w0 : World) (d cap g b n : Nat) (now : Int) (D : DataW Unit) (tl : List Value) (i j c s N : Nat) (dk : Array Int) (w : World) (h : SC w0 d g b n now D tl dk c s w) (hN : dk.size = N) (hi : i < N) (hj : j < N) (hs : s ≤ 1000) (h3 : (N : Int) ≤ 4611686018427387903) :
    Calls Try.prog 49 #[.slice (some ⟨d, 0, none⟩) N cap, .int .i64 i, .int .i64 j, .pointer (some ⟨c, 0, none⟩), cmpF g] w fun e w' => e = .returned (.tuple #[.int .i64 ((order2 (ltC D) dk i j s).1 : Nat), .int .i64 ((order2 (ltC D) dk i j s).2.1 : Nat)]) ∧ SC w0 d g b n now D tl dk c (order2 (ltC D) dk i j s).2.2 w' := by
  have HJ := Lib.hid h
  have HDJ := Lib.hid hN
  have bi : (i : Int) < (N : Int) := by omega
  have bj : (j : Int) < (N : Int) := by omega
  have zi : (0 : Int) ≤ (i : Int) := by omega
  have zj : (0 : Int) ≤ (j : Int) := by omega
  unfold order2
  clear h hN
  unfold cmpF
  by_cases hL : ltC D dk[j]! dk[i]! = true
  · rw [if_pos hL]
    have HL := Lib.hid hL
    clear hL
    go_enter Try.func49, Try.ntmps49
    go_wp2_with fail
    have HC1 := Lib.hid (fun w (h : SC w0 d g b n now D tl dk c s w) => h.cmp j i (by have := HDJ.out; omega) (by have := HDJ.out; omega))
    have HE1 := Lib.hid (fun w (h : SC w0 d g b n now D tl dk c s w) => And.intro (h.cell j (by have := HDJ.out; omega)) (h.cell i (by have := HDJ.out; omega)))
    obtain ⟨x1, hx1⟩ : ∃ x, dk[j]! = x := ⟨_, rfl⟩
    obtain ⟨y1, hy1⟩ : ∃ x, dk[i]! = x := ⟨_, rfl⟩
    simp only [hx1, hy1] at HC1 HE1
    obtain ⟨cv1, hc1⟩ : ∃ z, cmpC D x1 y1 = z := ⟨_, rfl⟩
    have HV1 := Lib.hid (show ltC D dk[j]! dk[i]! = decide (cv1 < 0) from by rw [hx1, hy1, ← hc1]; rfl)
    rw [hc1] at HC1
    clear hx1 hy1 hc1
    go_wp2_with fail
    refine wp_region_held_drew (S := fun w' => SC w0 d g b n now D tl dk c s w') (by kernel_rfl) (HJ.out.drew) (fun hHeld => ?_)
    refine wpAnyH_takeD (i := 0) (v := ?_) (some 12) rfl rfl (by kernel_rfl) (by kernel_rfl) (by kernel_rfl) (fun _ _ _ h => h) (Or.inl ⟨by rfl, ?_⟩) (by assumption) ?_
    rotate_left
    · intro w' hSw
      go_simp
      first | done | with_reducible rfl
    try simp only [Go.Act.put, List.setIfInBounds_toArray, List.set_cons_zero, List.set_cons_succ]
    refine wpAnyH_takeD (i := 1) (v := ?_) (some 13) rfl rfl (by kernel_rfl) (by kernel_rfl) (by kernel_rfl) (fun _ _ _ h => h) (Or.inl ⟨by rfl, ?_⟩) (by assumption) ?_
    rotate_left
    · intro w' hSw
      go_simp
      first | done | with_reducible rfl
    try simp only [Go.Act.put, List.setIfInBounds_toArray, List.set_cons_zero, List.set_cons_succ]
    refine wpAnyH_takeD (i := 2) (v := ?_) (some 14) rfl rfl (by kernel_rfl) (by kernel_rfl) (by kernel_rfl) (fun _ _ _ h => h) (Or.inl ⟨by rfl, ?_⟩) (by assumption) ?_
    rotate_left
    · intro w' hSw
      go_simp
      first | done | with_reducible rfl
    try simp only [Go.Act.put, List.setIfInBounds_toArray, List.set_cons_zero, List.set_cons_succ]
    refine wpAnyH_takeD (i := 3) (v := ?_) (some 15) rfl rfl (by kernel_rfl) (by kernel_rfl) (by kernel_rfl) (fun _ _ _ h => h) (Or.inl ⟨by rfl, ?_⟩) (by assumption) ?_
    rotate_left
    · intro w' hSw
      go_simp
      first | done | with_reducible rfl
    try simp only [Go.Act.put, List.setIfInBounds_toArray, List.set_cons_zero, List.set_cons_succ]
    refine wpAnyH_takeD (i := 4) (v := ?_) (some 16) rfl rfl (by kernel_rfl) (by kernel_rfl) (by kernel_rfl) (fun _ _ _ h => h) (Or.inl ⟨by rfl, ?_⟩) (by assumption) ?_
    rotate_left
    · intro w' hSw
      obtain ⟨m0, m1⟩ := HE1.out w' hSw
      go_simp
      first | done | with_reducible rfl
    try simp only [Go.Act.put, List.setIfInBounds_toArray, List.set_cons_zero, List.set_cons_succ]
    refine wpAnyH_takeD (i := 5) (v := ?_) (some 17) rfl rfl (by kernel_rfl) (by kernel_rfl) (by kernel_rfl) (fun _ _ _ h => h) (Or.inl ⟨by rfl, ?_⟩) (by assumption) ?_
    rotate_left
    · intro w' hSw
      go_simp
      first | done | with_reducible rfl
    try simp only [Go.Act.put, List.setIfInBounds_toArray, List.set_cons_zero, List.set_cons_succ]
    refine wpAnyH_takeD (i := 6) (v := ?_) (some 18) rfl rfl (by kernel_rfl) (by kernel_rfl) (by kernel_rfl) (fun _ _ _ h => h) (Or.inl ⟨by rfl, ?_⟩) (by assumption) ?_
    rotate_left
    · intro w' hSw
      go_simp
      first | done | with_reducible rfl
    try simp only [Go.Act.put, List.setIfInBounds_toArray, List.set_cons_zero, List.set_cons_succ]
    refine wpAnyH_takeD (i := 7) (v := ?_) (some 19) rfl rfl (by kernel_rfl) (by kernel_rfl) (by kernel_rfl) (fun _ _ _ h => h) (Or.inl ⟨by rfl, ?_⟩) (by assumption) ?_
    rotate_left
    · intro w' hSw
      go_simp
      first | done | with_reducible rfl
    try simp only [Go.Act.put, List.setIfInBounds_toArray, List.set_cons_zero, List.set_cons_succ]
    refine wpAnyH_takeD (i := 8) (v := ?_) (some 20) rfl rfl (by kernel_rfl) (by kernel_rfl) (by kernel_rfl) (fun _ _ _ h => h) (Or.inl ⟨by rfl, ?_⟩) (by assumption) ?_
    rotate_left
    · intro w' hSw
      obtain ⟨m0, m1⟩ := HE1.out w' hSw
      go_simp
      first | done | with_reducible rfl
    try simp only [Go.Act.put, List.setIfInBounds_toArray, List.set_cons_zero, List.set_cons_succ]
    refine wpAnyH_ready (rs := [9]) (by kernel_rfl) (by simp) ?_
    refine AllReadyH.cons rfl (fun K hK => ?_) AllReadyH.nil
    go_simp
    refine (HC1.out _ hHeld).mono ?_; rintro e v1 ⟨rfl, h9⟩
    try go_simp
    refine hK.out _ _ (h9) (fun hHeld => ?_)
    clear hK K
    try change wpAnyH _ _ _ _ _ _ _ (Go.Act.put _ (some 21) _) _
    try simp only [Go.Act.put, List.setIfInBounds_toArray, List.set_cons_zero, List.set_cons_succ]
    clear h9 HJ HC1
    refine wpAnyH_takeD (i := 10) (v := ?_) (some 22) rfl rfl (by kernel_rfl) (by kernel_rfl) (by kernel_rfl) (fun _ _ _ h => h) (Or.inl ⟨by rfl, ?_⟩) (by assumption) ?_
    rotate_left
    · intro w' hSw
      go_simp
      first | done | with_reducible rfl
    try simp only [Go.Act.put, List.setIfInBounds_toArray, List.set_cons_zero, List.set_cons_succ]
    refine wpAnyH_done (by kernel_rfl) ?_ _
    have HS1 := Lib.hid hHeld
    clear hHeld HE1
    have d1 : decide (cv1 < 0) = true := by rw [← HV1.out]; exact HL.out
    have c0 := HS1.out.ct.cell 0
    have z0 := HS1.out.ct.frozen 0
    simp at c0
    have hss : IntKind.i64.wrap ((s : Int) + 1) = ((s + 1 : Nat) : Int) := by rw [show ((s : Int) + 1) = ((s + 1 : Nat) : Int) by omega]; exact IntWalk.i64_in _ (by omega)
    have hsn : (s : Int) + 1 = ((s + 1 : Nat) : Int) := by omega
    have HB := Lib.hid (HS1.out.bump (s + 1))
    clear HS1 HV1
    obtain ⟨s1, hs1⟩ : ∃ s1, s + 1 = s1 := ⟨_, rfl⟩
    rw [hs1] at hss hsn HB
    have HS1 := Lib.hid hs1
    clear hs1
    simp only [d1]
    go_wp2
    try simp only [Exit.inBlock, Exit.then]
    go_ret2
    exact ⟨rfl, by rw [HS1.out]; exact HB.out⟩
  · rw [if_neg hL]
    have HL := Lib.hid hL
    clear hL
    go_enter Try.func49, Try.ntmps49
    go_wp2_with fail
    have HC2 := Lib.hid (fun w (h : SC w0 d g b n now D tl dk c s w) => h.cmp j i (by have := HDJ.out; omega) (by have := HDJ.out; omega))
    have HE2 := Lib.hid (fun w (h : SC w0 d g b n now D tl dk c s w) => And.intro (h.cell j (by have := HDJ.out; omega)) (h.cell i (by have := HDJ.out; omega)))
    obtain ⟨x2, hx2⟩ : ∃ x, dk[j]! = x := ⟨_, rfl⟩
    obtain ⟨y2, hy2⟩ : ∃ x, dk[i]! = x := ⟨_, rfl⟩
    simp only [hx2, hy2] at HC2 HE2
    obtain ⟨cv2, hc2⟩ : ∃ z, cmpC D x2 y2 = z := ⟨_, rfl⟩
    have HV2 := Lib.hid (show ltC D dk[j]! dk[i]! = decide (cv2 < 0) from by rw [hx2, hy2, ← hc2]; rfl)
    rw [hc2] at HC2
    clear hx2 hy2 hc2
    go_wp2_with fail
    refine wp_region_held_drew (S := fun w' => SC w0 d g b n now D tl dk c s w') (by kernel_rfl) (HJ.out.drew) (fun hHeld => ?_)
    refine wpAnyH_takeD (i := 0) (v := ?_) (some 12) rfl rfl (by kernel_rfl) (by kernel_rfl) (by kernel_rfl) (fun _ _ _ h => h) (Or.inl ⟨by rfl, ?_⟩) (by assumption) ?_
    rotate_left
    · intro w' hSw
      go_simp
      first | done | with_reducible rfl
    try simp only [Go.Act.put, List.setIfInBounds_toArray, List.set_cons_zero, List.set_cons_succ]
    refine wpAnyH_takeD (i := 1) (v := ?_) (some 13) rfl rfl (by kernel_rfl) (by kernel_rfl) (by kernel_rfl) (fun _ _ _ h => h) (Or.inl ⟨by rfl, ?_⟩) (by assumption) ?_
    rotate_left
    · intro w' hSw
      go_simp
      first | done | with_reducible rfl
    try simp only [Go.Act.put, List.setIfInBounds_toArray, List.set_cons_zero, List.set_cons_succ]
    refine wpAnyH_takeD (i := 2) (v := ?_) (some 14) rfl rfl (by kernel_rfl) (by kernel_rfl) (by kernel_rfl) (fun _ _ _ h => h) (Or.inl ⟨by rfl, ?_⟩) (by assumption) ?_
    rotate_left
    · intro w' hSw
      go_simp
      first | done | with_reducible rfl
    try simp only [Go.Act.put, List.setIfInBounds_toArray, List.set_cons_zero, List.set_cons_succ]
    refine wpAnyH_takeD (i := 3) (v := ?_) (some 15) rfl rfl (by kernel_rfl) (by kernel_rfl) (by kernel_rfl) (fun _ _ _ h => h) (Or.inl ⟨by rfl, ?_⟩) (by assumption) ?_
    rotate_left
    · intro w' hSw
      go_simp
      first | done | with_reducible rfl
    try simp only [Go.Act.put, List.setIfInBounds_toArray, List.set_cons_zero, List.set_cons_succ]
    refine wpAnyH_takeD (i := 4) (v := ?_) (some 16) rfl rfl (by kernel_rfl) (by kernel_rfl) (by kernel_rfl) (fun _ _ _ h => h) (Or.inl ⟨by rfl, ?_⟩) (by assumption) ?_
    rotate_left
    · intro w' hSw
      obtain ⟨m0, m1⟩ := HE2.out w' hSw
      go_simp
      first | done | with_reducible rfl
    try simp only [Go.Act.put, List.setIfInBounds_toArray, List.set_cons_zero, List.set_cons_succ]
    refine wpAnyH_takeD (i := 5) (v := ?_) (some 17) rfl rfl (by kernel_rfl) (by kernel_rfl) (by kernel_rfl) (fun _ _ _ h => h) (Or.inl ⟨by rfl, ?_⟩) (by assumption) ?_
    rotate_left
    · intro w' hSw
      go_simp
      first | done | with_reducible rfl
    try simp only [Go.Act.put, List.setIfInBounds_toArray, List.set_cons_zero, List.set_cons_succ]
    refine wpAnyH_takeD (i := 6) (v := ?_) (some 18) rfl rfl (by kernel_rfl) (by kernel_rfl) (by kernel_rfl) (fun _ _ _ h => h) (Or.inl ⟨by rfl, ?_⟩) (by assumption) ?_
    rotate_left
    · intro w' hSw
      go_simp
      first | done | with_reducible rfl
    try simp only [Go.Act.put, List.setIfInBounds_toArray, List.set_cons_zero, List.set_cons_succ]
    refine wpAnyH_takeD (i := 7) (v := ?_) (some 19) rfl rfl (by kernel_rfl) (by kernel_rfl) (by kernel_rfl) (fun _ _ _ h => h) (Or.inl ⟨by rfl, ?_⟩) (by assumption) ?_
    rotate_left
    · intro w' hSw
      go_simp
      first | done | with_reducible rfl
    try simp only [Go.Act.put, List.setIfInBounds_toArray, List.set_cons_zero, List.set_cons_succ]
    refine wpAnyH_takeD (i := 8) (v := ?_) (some 20) rfl rfl (by kernel_rfl) (by kernel_rfl) (by kernel_rfl) (fun _ _ _ h => h) (Or.inl ⟨by rfl, ?_⟩) (by assumption) ?_
    rotate_left
    · intro w' hSw
      obtain ⟨m0, m1⟩ := HE2.out w' hSw
      go_simp
      first | done | with_reducible rfl
    try simp only [Go.Act.put, List.setIfInBounds_toArray, List.set_cons_zero, List.set_cons_succ]
    refine wpAnyH_ready (rs := [9]) (by kernel_rfl) (by simp) ?_
    refine AllReadyH.cons rfl (fun K hK => ?_) AllReadyH.nil
    go_simp
    refine (HC2.out _ hHeld).mono ?_; rintro e v2 ⟨rfl, h9⟩
    try go_simp
    refine hK.out _ _ (h9) (fun hHeld => ?_)
    clear hK K
    try change wpAnyH _ _ _ _ _ _ _ (Go.Act.put _ (some 21) _) _
    try simp only [Go.Act.put, List.setIfInBounds_toArray, List.set_cons_zero, List.set_cons_succ]
    clear h9 HJ HC2
    refine wpAnyH_takeD (i := 10) (v := ?_) (some 22) rfl rfl (by kernel_rfl) (by kernel_rfl) (by kernel_rfl) (fun _ _ _ h => h) (Or.inl ⟨by rfl, ?_⟩) (by assumption) ?_
    rotate_left
    · intro w' hSw
      go_simp
      first | done | with_reducible rfl
    try simp only [Go.Act.put, List.setIfInBounds_toArray, List.set_cons_zero, List.set_cons_succ]
    refine wpAnyH_done (by kernel_rfl) ?_ _
    have HS2 := Lib.hid hHeld
    clear hHeld HE2
    have d2 : decide (cv2 < 0) = false := by rw [← HV2.out]; simpa using HL.out
    clear HV2
    simp only [d2]
    go_wp2
    try simp only [Exit.inBlock, Exit.then]
    go_ret2
    exact ⟨rfl, HS2.out⟩

theorem median_lt {lt : Int → Int → Bool} {dk : Array Int} {a b c s N : Nat} (ha : a < N) (hb : b < N) (hc : c < N) : (median lt dk a b c s).1 < N ∧ (median lt dk a b c s).2 ≤ s + 3 := by
  unfold median
  simp only
  obtain ⟨p1, p2, p3⟩ := order2_lt (lt := lt) (dk := dk) (s := s) ha hb
  generalize order2 lt dk a b s = r1 at *
  obtain ⟨q1, q2, q3⟩ := order2_lt (lt := lt) (dk := dk) (s := r1.2.2) p2 hc
  generalize order2 lt dk r1.2.1 c r1.2.2 = r2 at *
  obtain ⟨r1', r2', r3'⟩ := order2_lt (lt := lt) (dk := dk) (s := r2.2.2) p1 q1
  generalize order2 lt dk r1.1 r2.1 r2.2.2 = r3 at *
  exact ⟨r2', by omega⟩
set_option maxRecDepth 100000 in
set_option maxHeartbeats 2000000 in
theorem median_any (w0 : World) (d cap g b n : Nat) (now : Int) (D : DataW Unit) (tl : List Value) (i j k c s N : Nat) (dk : Array Int) (w : World) (h : SC w0 d g b n now D tl dk c s w) (hN : dk.size = N) (hi : i < N) (hj : j < N) (hk : k < N) (hs : s ≤ 900) (h3 : (N : Int) ≤ 4611686018427387903) :
    Calls Try.prog 48 #[.slice (some ⟨d, 0, none⟩) N cap, .int .i64 i, .int .i64 j, .int .i64 k, .pointer (some ⟨c, 0, none⟩), cmpF g] w fun e w' => e = .returned (.int .i64 ((median (ltC D) dk i j k s).1 : Nat)) ∧ SC w0 d g b n now D tl dk c (median (ltC D) dk i j k s).2 w' := by
  have C1 := order2_any w0 d cap g b n now D tl i j c s N dk w h hN hi hj (by omega) h3
  obtain ⟨p1, p2, p3⟩ := order2_lt (lt := ltC D) (dk := dk) (s := s) hi hj
  unfold median
  simp only
  generalize order2 (ltC D) dk i j s = r1 at *
  obtain ⟨x1, y1, s1⟩ := r1
  simp only at *
  have C2 := Lib.hid (fun w (h : SC w0 d g b n now D tl dk c s1 w) => order2_any w0 d cap g b n now D tl y1 k c s1 N dk w h hN p2 hk (by omega) h3)
  obtain ⟨q1, q2, q3⟩ := order2_lt (lt := ltC D) (dk := dk) (s := s1) p2 hk
  generalize order2 (ltC D) dk y1 k s1 = r2 at *
  obtain ⟨x2, y2, s2⟩ := r2
  simp only at *
  have C3 := Lib.hid (fun w (h : SC w0 d g b n now D tl dk c s2 w) => order2_any w0 d cap g b n now D tl x1 x2 c s2 N dk w h hN p1 q1 (by omega) h3)
  generalize order2 (ltC D) dk x1 x2 s2 = r3 at *
  obtain ⟨x3, y3, s3⟩ := r3
  simp only at *
  have C1 := Lib.hid C1
  clear h hN
  unfold cmpF at *
  go_enter Try.func48, Try.ntmps48
  go_wp2_with fail
  refine C1.out.mono ?_; rintro e w1 ⟨rfl, h1⟩
  have C2 := Lib.hid (C2.out w1 h1)
  clear C1 h1
  go_wp2_with fail
  refine C2.out.mono ?_; rintro e w2 ⟨rfl, h1⟩
  have C3 := Lib.hid (C3.out w2 h1)
  clear C2 h1
  go_wp2_with fail
  refine C3.out.mono ?_; rintro e w3 ⟨rfl, h1⟩
  have H1 := Lib.hid h1
  clear C3 h1
  go_wp2
  go_ret
  exact ⟨rfl, H1.out⟩

set_option maxRecDepth 100000 in
set_option maxHeartbeats 2000000 in
theorem medadj_any (w0 : World) (d cap g b n : Nat) (now : Int) (D : DataW Unit) (tl : List Value) (i c s N : Nat) (dk : Array Int) (w : World) (h : SC w0 d g b n now D tl dk c s w) (hN : dk.size = N) (hi : 1 ≤ i) (hi2 : i + 1 < N) (hs : s ≤ 900) (h3 : (N : Int) ≤ 4611686018427387903) :
    Calls Try.prog 47 #[.slice (some ⟨d, 0, none⟩) N cap, .int .i64 i, .pointer (some ⟨c, 0, none⟩), cmpF g] w fun e w' => e = .returned (.int .i64 ((medianAdjacent (ltC D) dk i s).1 : Nat)) ∧ SC w0 d g b n now D tl dk c (medianAdjacent (ltC D) dk i s).2 w' := by
  have C1 := median_any w0 d cap g b n now D tl (i - 1) i (i + 1) c s N dk w h hN (by omega) (by omega) (by omega) hs h3
  unfold medianAdjacent
  generalize median (ltC D) dk (i - 1) i (i + 1) s = r at *
  have e1 : IntKind.i64.wrap ((i : Int) - 1) = ((i - 1 : Nat) : Int) := by rw [show ((i : Int) - 1) = ((i - 1 : Nat) : Int) by omega]; exact IntWalk.i64_in _ (by omega)
  have e1' : (i : Int) - 1 = ((i - 1 : Nat) : Int) := by omega
  have e2 : IntKind.i64.wrap ((i : Int) + 1) = ((i + 1 : Nat) : Int) := by rw [show ((i : Int) + 1) = ((i + 1 : Nat) : Int) by omega]; exact IntWalk.i64_in _ (by omega)
  have e2' : (i : Int) + 1 = ((i + 1 : Nat) : Int) := by omega
  obtain ⟨y, hy⟩ : ∃ y, i - 1 = y := ⟨_, rfl⟩
  obtain ⟨z, hz⟩ : ∃ z, i + 1 = z := ⟨_, rfl⟩
  rw [hy] at e1 e1' C1
  rw [hz] at e2 e2' C1
  have C1 := Lib.hid C1
  clear h hN hy hz
  unfold cmpF at *
  go_enter Try.func47, Try.ntmps47
  go_wp2_with fail
  refine C1.out.mono ?_; rintro e w1 ⟨rfl, h1⟩
  have H1 := Lib.hid h1
  clear C1 h1
  go_wp2
  go_ret
  exact ⟨rfl, H1.out⟩
end Go.Proofs.Ytholaofgdahcbaa
