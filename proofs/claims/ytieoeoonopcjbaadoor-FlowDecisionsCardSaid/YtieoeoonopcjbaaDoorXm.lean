/- FlowDecisions: the walk. -/
import Derived.Test.YtieoeoonopcjbaaDoorXl
namespace Go.Proofs.YtieoeoonopcjbaaDoor
open Go.RowKit Go.Maps

set_option maxRecDepth 100000 in
set_option maxHeartbeats 4000000 in
theorem decisions_any (x : DL) (w : World) (hM : MadeT w) : Calls Tryd.prog 3 #[.agg x.cells] w fun e w' => e = .returned (.bool true) ∧ Fr (fun _ => False) w w' := by
  obtain ⟨g1, hg1⟩ : ∃ g1, w.heap.size = g1 := ⟨_, rfl⟩
  obtain ⟨W, hW⟩ : ∃ W, w.alloc (.cells x.cells 24) = W := ⟨_, rfl⟩
  have HF : Hid (Fr (fun _ => False) w W) := Lib.hid (by rw [← hW]; exact (Fr.refl _ _).alloc _)
  have HB : Hid (Bk W g1 24 x.cells) := Lib.hid (by rw [← hW, ← hg1]; exact Bk.new _ _ _)
  have CK := Lib.hid (known_any W (hM.fr HF.out (fun h => h)))
  have C1 := Lib.hid (fun w' => may_any x w')
  have C2 := Lib.hid (fun w' => refMay_any x w')
  generalize x.may = R at *
  obtain ⟨k, i, l, n, A, dl, c⟩ := x
  unfold DL.cells at *
  simp only at *
  have HC : Hid (∀ w', Fr (fun _ => False) W w' → w'.cell? ⟨g1, 0, none⟩ = some (.int .i64 k) ∧ w'.cell? ⟨g1, 1, none⟩ = some (.int .i64 i) ∧ w'.cell? ⟨g1, 2, none⟩ = some (.int .i64 l) ∧ w'.cell? ⟨g1, 3, none⟩ = some (.int .i64 n) ∧ w'.cell? ⟨g1, 4, none⟩ = some (.slice A dl c)) := Lib.hid (fun w' hf => by
    have hb := HB.out.fr hf (fun h => h)
    exact ⟨hb.cell 0, hb.cell 1, hb.cell 2, hb.cell 3, hb.cell 4⟩)
  have hbb : (R == R) = true := by simp
  clear hM HB
  go_enter Tryd.func3, Tryd.ntmps3
  go_wp2_with fail
  clear hW hg1
  refine CK.out.mono ?_; rintro e w1 ⟨rfl, hf1⟩
  have HF1 := Lib.hid hf1
  obtain ⟨q0, q1, q2, q3, q4⟩ := HC.out w1 hf1
  clear hf1 CK
  by_cases hbig : (8192 : Int) < (dl : Int)
  · have d1 : decide ((8192 : Int) < (dl : Int)) = true := decide_eq_true hbig
    have d1' : decide (8192 < dl) = true := decide_eq_true (by omega)
    clear hbig
    go_wp2
    go_ret
    exact ⟨rfl, HF.out.trans HF1.out (fun _ _ h => h)⟩
  have d1 : decide ((8192 : Int) < (dl : Int)) = false := decide_eq_false hbig
  have d1' : decide (8192 < dl) = false := decide_eq_false (by omega)
  clear hbig
  go_wp2_with fail
  clear q0 q1 q2 q3 q4 d1 d1'
  refine wp_region_held_drew (S := (fun w' => Fr (fun _ => False) w1 w')) (by kernel_rfl) ((Fr.refl _ _).drew) (fun hHeld => ?_)
  refine wpAnyH_takeD (i := 0) (v := ?_) (some 9) rfl rfl (by kernel_rfl) (by kernel_rfl) (by kernel_rfl) (fun _ _ _ h => h) (Or.inl ⟨by rfl, ?_⟩) (by assumption) ?_
  rotate_left
  · intro w' hSw
    obtain ⟨q0, q1, q2, q3, q4⟩ := HC.out w' (HF1.out.trans hSw (fun _ _ h => h))
    go_simp
    first | done | with_reducible rfl
  try simp only [Act.put, List.setIfInBounds_toArray, List.set_cons_zero, List.set_cons_succ]
  refine wpAnyH_takeD (i := 2) (v := ?_) (some 11) rfl rfl (by kernel_rfl) (by kernel_rfl) (by kernel_rfl) (fun _ _ _ h => h) (Or.inl ⟨by rfl, ?_⟩) (by assumption) ?_
  rotate_left
  · intro w' hSw
    obtain ⟨q0, q1, q2, q3, q4⟩ := HC.out w' (HF1.out.trans hSw (fun _ _ h => h))
    go_simp
    first | done | with_reducible rfl
  try simp only [Act.put, List.setIfInBounds_toArray, List.set_cons_zero, List.set_cons_succ]
  refine wpAnyH_ready (rs := [1]) (by kernel_rfl) (by simp) ?_
  refine AllReadyH.cons rfl (fun K hK => ?_) AllReadyH.nil
  go_simp
  refine (C1.out _).mono ?_; rintro e w2 ⟨rfl, hf2⟩
  try go_simp
  refine hK.out _ _ (hHeld.trans hf2 (fun _ _ h => h)) (fun hHeld => ?_)
  clear hK K
  try change wpAnyH _ _ _ _ _ _ _ (Act.put _ (some 10) _) _
  try simp only [Act.put, List.setIfInBounds_toArray, List.set_cons_zero, List.set_cons_succ]
  clear hf2
  refine wpAnyH_ready (rs := [3]) (by kernel_rfl) (by simp) ?_
  refine AllReadyH.cons rfl (fun K hK => ?_) AllReadyH.nil
  go_simp
  refine (C2.out _).mono ?_; rintro e w2 ⟨rfl, hf2⟩
  try go_simp
  refine hK.out _ _ (hHeld.trans hf2 (fun _ _ h => h)) (fun hHeld => ?_)
  clear hK K
  try change wpAnyH _ _ _ _ _ _ _ (Act.put _ (some 12) _) _
  try simp only [Act.put, List.setIfInBounds_toArray, List.set_cons_zero, List.set_cons_succ]
  clear hf2
  refine wpAnyH_takeD (i := 4) (v := ?_) (some 13) rfl rfl (by kernel_rfl) (by kernel_rfl) (by kernel_rfl) (fun _ _ _ h => h) (Or.inl ⟨by rfl, ?_⟩) (by assumption) ?_
  rotate_left
  · intro w' hSw
    go_simp
    first | done | with_reducible rfl
  try simp only [Act.put, List.setIfInBounds_toArray, List.set_cons_zero, List.set_cons_succ]
  refine wpAnyH_takeD (i := 5) (v := ?_) (some 2) rfl rfl (by kernel_rfl) (by kernel_rfl) (by kernel_rfl) (fun _ _ _ h => h) (Or.inl ⟨by rfl, ?_⟩) (by assumption) ?_
  rotate_left
  · intro w' hSw
    go_simp
    first | done | with_reducible rfl
  try simp only [Act.put, List.setIfInBounds_toArray, List.set_cons_zero, List.set_cons_succ]
  refine wpAnyH_done (by kernel_rfl) ?_ _
  have HH := Lib.hid hHeld
  clear hHeld C1 C2
  go_wp2
  go_ret
  exact ⟨rfl, (HF.out.trans HF1.out (fun _ _ h => h)).trans HH.out (fun _ _ h => h)⟩
end Go.Proofs.YtieoeoonopcjbaaDoor
