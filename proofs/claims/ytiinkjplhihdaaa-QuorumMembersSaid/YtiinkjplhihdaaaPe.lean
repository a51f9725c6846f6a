/- The reference's Index. -/
import Derived.Test.YtiinkjplhihdaaaOt
import Derived.Test.YtiinkjplhihdaaaOe
namespace Go.Proofs.Ytiinkjplhihdaaa
open Go.RowKit

theorem hr_pc (m : Nat → Int) (N : Nat) (t : Nat → Int) (z : Int) : hr N t z (hav m 1 9) = pc m (fun k => decide (z ≤ reach N t k)) 9 := rfl
theorem pc_past {m : Nat → Int} {N : Nat} {t : Nat → Int} {z : Int} (hz : 0 < z) {k : Nat} (hk : N ≤ k) : ∀ d, pc m (fun k => decide (z ≤ reach N t k)) (k + d) = pc m (fun k => decide (z ≤ reach N t k)) k
  | 0 => rfl
  | d + 1 => by
    have hf : decide (z ≤ reach N t (k + d)) = false := decide_eq_false (by unfold reach; rw [if_neg (by omega)]; omega)
    have ih := pc_past (m := m) (t := t) hz hk d
    by_cases h : m (k + d) = 1
    · rw [← Nat.add_assoc, pc_no (p := fun k => decide (z ≤ reach N t k)) h hf, ih]
    · rw [← Nat.add_assoc, pc_not h, ih]
theorem hr_at {m : Nat → Int} {N : Nat} {t : Nat → Int} {z : Int} (hz : 0 < z) {k : Nat} (hk : k = 9 ∨ (k = N ∧ k ≤ 9)) : hr N t z (hav m 1 9) = pc m (fun k => decide (z ≤ reach N t k)) k := by
  rw [hr_pc]
  rcases hk with rfl | ⟨rfl, h⟩
  · rfl
  · have := pc_past (m := m) (t := t) hz (Nat.le_refl k) (9 - k)
    rwa [show k + (9 - k) = 9 by omega] at this
theorem bst_hav_no {m : Nat → Int} {N : Nat} {t : Nat → Int} {k : Nat} (h : ¬ m k = 1) : bst m N t (hav m 1 (k + 1)) = bst m N t (hav m 1 k) := by rw [hav_no h]
theorem bst_hav {m : Nat → Int} {N : Nat} {t : Nat → Int} {k : Nat} (h : m k = 1) : bst m N t (hav m 1 (k + 1)) = stepI m N t (bst m N t (hav m 1 k)) k := by rw [hav_yes h, bst_snoc]
theorem bst_nn (m : Nat → Int) (N : Nat) (t : Nat → Int) (k : Nat) : 0 ≤ bst m N t (hav m 1 k) := fold_ge m N t _ 0
theorem bst_past {m : Nat → Int} {N : Nat} {t : Nat → Int} {k : Nat} (hk : N ≤ k) : ∀ d, bst m N t (hav m 1 (k + d)) = bst m N t (hav m 1 k)
  | 0 => rfl
  | d + 1 => by
    have ih := bst_past (m := m) (t := t) hk d
    by_cases h : m (k + d) = 1
    · rw [← Nat.add_assoc, bst_hav h, ih]
      unfold stepI
      rw [if_neg (by
        rintro ⟨h1, _⟩
        have := bst_nn m N t k
        have e : reach N t (k + d) = 0 := if_neg (by omega)
        omega)]
    · rw [← Nat.add_assoc, bst_hav_no h, ih]
theorem bst_end {m : Nat → Int} {N : Nat} {t : Nat → Int} {k : Nat} (hk : k = 9 ∨ (k = N ∧ k ≤ 9)) : bst m N t (hav m 1 9) = bst m N t (hav m 1 k) := by
  rcases hk with rfl | ⟨rfl, h⟩
  · rfl
  · have := bst_past (m := m) (t := t) (Nat.le_refl k) (9 - k)
    rwa [show k + (9 - k) = 9 by omega] at this

set_option maxRecDepth 100000 in
set_option maxHeartbeats 8000000 in
theorem rIndex_any (m : Nat → Int) (hm : ∀ k, 0 ≤ m k ∧ m k < 256) (A : Option Addr) (N c : Nat) (t : Nat → Int) (w : World) (hrd : RdF w A N (fun j => .int .i64 (t j))) :
    Calls Try.prog 20 #[mv m, .slice A N c] w fun e w' => e = .returned (.int .i64 (bst m N t (hav m 1 9))) ∧ Fr (fun _ => False) w w' := by
  obtain ⟨w1, hw1⟩ : ∃ w1, w.alloc (.cells (mcs m) 22) = w1 := ⟨_, rfl⟩
  have HB1 : Hid (Bx w1 w.heap.size 0 m) := Lib.hid (by rw [← hw1]; exact Bx.new w 22 m)
  have HF1 : Hid (Fr (fun _ => False) w w1) := Lib.hid (hw1 ▸ (Fr.refl _ _).alloc _)
  have HRD := Lib.hid (hrd.fr0 HF1.out)
  have CM := Lib.hid (rMost_any m hm)
  clear hrd
  unfold mcs at hw1
  unfold mv at CM ⊢
  go_enter Try.func20, Try.ntmps20
  go_wp2_with fail
  clear hw1
  go_loopw [6, 5] (fun i b wr => ∃ k : Nat, i = .int .i64 (k : Int) ∧ b = .int .i64 (bst m N t (hav m 1 k)) ∧ k ≤ N ∧ k ≤ 9 ∧ Fr (fun _ => False) w1 wr) (fun i _ _ => 9 - (intOf i).toNat)
  case atStart => exact ⟨0, rfl, rfl, Nat.zero_le _, Nat.zero_le _, Fr.refl _ _⟩
  case round =>
    obtain ⟨i, rfl, rfl, hiN, hi9, hf⟩ := hrel
    obtain ⟨wo, rfl⟩ : ∃ wo, wo = wr := ⟨_, rfl⟩
    have HFO := Lib.hid hf
    have HBO := Lib.hid (HB1.out.fr hf (fun h => h))
    have HRO := Lib.hid (HRD.out.fr0 hf)
    have HNN := Lib.hid (bst_nn m N t i)
    by_cases hlt : i < N ∧ i < 9
    · have hlt1 : (i : Int) < N := by omega
      have hlt2 : (i : Int) < 9 := by omega
      obtain ⟨g, o, rfl, hcc⟩ := HRO.out (by omega)
      have HCC := Lib.hid hcc
      have hci := hcc i hlt.1
      dsimp only at hci
      have hmi := HBO.out.at0 hlt.2
      have HI9 : Hid (i < 9 ∧ i < N) := Lib.hid ⟨hlt.2, hlt.1⟩
      clear hf hcc hiN hi9
      by_cases hm1 : m i = 1
      · have dm : (m i == 1) = true := by simp [hm1]
        have dm' : (m i != 1) = false := by simp [hm1]
        have HST := Lib.hid (bst_hav (N := N) (t := t) hm1)
        unfold stepI at HST
        have hre : reach N t i = t i := if_pos hlt.1
        rw [hre] at HST
        clear hm1 hre hlt
        by_cases hle : t i ≤ bst m N t (hav m 1 i)
        · have dl : decide (t i ≤ bst m N t (hav m 1 i)) = true := decide_eq_true hle
          have HS2 : Hid (bst m N t (hav m 1 (i + 1)) = bst m N t (hav m 1 i)) := Lib.hid (by rw [HST.out, if_neg (fun h => by omega)])
          clear hle HST
          go_wp2
          refine ⟨⟨i + 1, by simp, by rw [HS2.out], by have := HI9.out; omega, by have := HI9.out; omega, HFO.out⟩, ?_⟩
          first | omega | (show _ < _; simp [intOf]; omega)
        · have dl : decide (t i ≤ bst m N t (hav m 1 i)) = false := decide_eq_false hle
          have hz0 : 0 < t i := by have := HNN.out; omega
          have HLT : Hid (bst m N t (hav m 1 i) < t i) := Lib.hid (by omega)
          have HHR := Lib.hid (fun (k : Nat) (hk : k = 9 ∨ (k = N ∧ k ≤ 9)) => hr_at (m := m) (N := N) (t := t) hz0 hk)
          clear hle
          obtain ⟨B, eB⟩ : ∃ B, bst m N t (hav m 1 i) = B := ⟨_, rfl⟩
          rw [eB] at dl HST HLT HNN ⊢
          clear eB
          go_wp2_with fail
          go_loopw [8, 7] (fun j b ww => ∃ k : Nat, j = .int .i64 (k : Int) ∧ b = .int .i64 (pc m (fun k => decide (t i ≤ reach N t k)) k : Int) ∧ k ≤ N ∧ k ≤ 9 ∧ Fr (fun _ => False) wo ww) (fun j _ _ => 9 - (intOf j).toNat)
          case atStart => exact ⟨0, rfl, rfl, Nat.zero_le _, Nat.zero_le _, Fr.refl _ _⟩
          case round =>
            obtain ⟨j, rfl, rfl, hjN, hj9, hfj⟩ := hrel
            have HFJ := Lib.hid hfj
            have hpj := pc_le m (fun k => decide (t i ≤ reach N t k)) j
            have hwp : wrap64 ((pc m (fun k => decide (t i ≤ reach N t k)) j : Int) + 1) = (pc m (fun k => decide (t i ≤ reach N t k)) j : Int) + 1 := by unfold wrap64; omega
            by_cases hlj : j < N ∧ j < 9
            · have hj1 : (j : Int) < N := by omega
              have hj2 : (j : Int) < 9 := by omega
              have HJ9 : Hid (j < 9 ∧ j < N) := Lib.hid ⟨hlj.2, hlj.1⟩
              have hmj := (HBO.out.fr hfj (fun h => h)).at0 hlj.2
              have htj : wr.cell? ⟨g, o + j, none⟩ = some (.int .i64 (t j)) := by rw [← HCC.out j hlj.1]; exact hfj.cell (p := ⟨g, o + j, none⟩) (World.block_lt_of_cell? wo _ (HCC.out j hlj.1)) (fun h => h)
              have hti : wr.cell? ⟨g, o + i, none⟩ = some (.int .i64 (t i)) := by rw [← HCC.out i HI9.out.2]; exact hfj.cell (p := ⟨g, o + i, none⟩) (World.block_lt_of_cell? wo _ (HCC.out i HI9.out.2)) (fun h => h)
              have hrj : reach N t j = t j := if_pos hlj.1
              clear hfj hlj hjN hj9 hci
              by_cases hmj1 : m j = 1
              · have dj : (m j == 1) = true := by simp [hmj1]
                by_cases hge : t i ≤ t j
                · have dg : decide (t i ≤ t j) = true := decide_eq_true hge
                  have HP := Lib.hid (pc_yes (p := fun k => decide (t i ≤ reach N t k)) hmj1 (decide_eq_true (by rw [hrj]; exact hge)))
                  clear hmj1 hge hrj
                  go_wp2_with fail
                  go_quiet (fail)
                  go_wp2
                  refine ⟨⟨j + 1, by simp, by rw [HP.out]; simp, by have := HJ9.out; omega, by have := HJ9.out; omega, HFJ.out.trans ((Fr.refl _ _).drewN _) (fun _ _ h => h)⟩, ?_⟩
                  first | omega | (show _ < _; simp [intOf]; omega)
                · have dg : decide (t i ≤ t j) = false := decide_eq_false hge
                  have HP := Lib.hid (pc_no (p := fun k => decide (t i ≤ reach N t k)) hmj1 (decide_eq_false (by rw [hrj]; exact hge)))
                  clear hmj1 hge hrj
                  go_wp2_with fail
                  go_quiet (fail)
                  go_wp2
                  refine ⟨⟨j + 1, by simp, by rw [HP.out], by have := HJ9.out; omega, by have := HJ9.out; omega, HFJ.out.trans ((Fr.refl _ _).drewN _) (fun _ _ h => h)⟩, ?_⟩
                  first | omega | (show _ < _; simp [intOf]; omega)
              · have dj : (m j == 1) = false := by simp [hmj1]
                have HP := Lib.hid (pc_not (p := fun k => decide (t i ≤ reach N t k)) hmj1)
                clear hmj1 hrj
                go_wp2_with fail
                go_quiet (fail)
                go_wp2
                refine ⟨⟨j + 1, by simp, by rw [HP.out], by have := HJ9.out; omega, by have := HJ9.out; omega, HFJ.out.trans ((Fr.refl _ _).drewN _) (fun _ _ h => h)⟩, ?_⟩
                first | omega | (show _ < _; simp [intOf]; omega)
            · have HP := Lib.hid (HHR.out j (by omega))
              have HFW := Lib.hid (HFO.out.trans HFJ.out (fun _ _ h => h))
              have HBJ := Lib.hid (HB1.out.fr HFW.out (fun h => h))
              have hbj : ∀ k, k < 9 → wr.cell? ⟨w.heap.size, k, none⟩ = some (.int .u8 (m k)) := fun k hk => HBJ.out.at0 hk
              have HTI : Hid (∀ wz, Fr (fun _ => False) wr wz → wz.cell? ⟨g, o + i, none⟩ = some (.int .i64 (t i))) := Lib.hid (fun wz hz => by rw [← HCC.out i HI9.out.2]; exact (HFJ.out.trans hz (fun _ _ h => h)).cell (p := ⟨g, o + i, none⟩) (World.block_lt_of_cell? wo _ (HCC.out i HI9.out.2)) (fun h => h))
              have HCOND : Hid ((j < N ∧ ¬ j < 9) ∨ ¬ j < N) := Lib.hid (by omega)
              clear hlj hfj hjN hj9 hci hpj hwp
              rw [← HP.out]
              generalize hr N t (t i) (hav m 1 9) = H at *
              have C9 := Lib.hid (CM.out wr)
              generalize mst m = M at *
              by_cases hH : M ≤ H
              · have dh : decide ((M : Int) ≤ (H : Int)) = true := decide_eq_true (by omega)
                have dhn : decide (M ≤ H) = true := decide_eq_true hH
                have HS2 : Hid (bst m N t (hav m 1 (i + 1)) = t i) := Lib.hid (by rw [HST.out, if_pos ⟨HLT.out, hH⟩])
                clear hH HST HP HHR
                rcases HCOND.out with ⟨x1, x2⟩ | x1
                · have y1 : (j : Int) < N := by omega
                  have y2 : decide ((j : Int) < 9) = false := decide_eq_false (by omega)
                  have y2n : decide (j < 9) = false := decide_eq_false x2
                  clear x1 x2
                  go_wp2_with fail
                  refine C9.out.mono ?_; rintro e w5 ⟨rfl, hf5⟩
                  have hti5 := HTI.out w5 hf5
                  go_wp2
                  refine ⟨⟨i + 1, by simp, by rw [HS2.out], by have := HI9.out; omega, by have := HI9.out; omega, HFW.out.trans hf5 (fun _ _ h => h)⟩, ?_⟩
                  first | omega | (show _ < _; simp [intOf]; omega)
                · have y1 : decide ((j : Int) < (N : Int)) = false := decide_eq_false (by omega)
                  have y1n : decide (j < N) = false := decide_eq_false x1
                  clear x1
                  go_wp2_with fail
                  refine C9.out.mono ?_; rintro e w5 ⟨rfl, hf5⟩
                  have hti5 := HTI.out w5 hf5
                  go_wp2
                  refine ⟨⟨i + 1, by simp, by rw [HS2.out], by have := HI9.out; omega, by have := HI9.out; omega, HFW.out.trans hf5 (fun _ _ h => h)⟩, ?_⟩
                  first | omega | (show _ < _; simp [intOf]; omega)
              · have dh : decide ((M : Int) ≤ (H : Int)) = false := decide_eq_false (by omega)
                have dhn : decide (M ≤ H) = false := decide_eq_false hH
                have HS2 : Hid (bst m N t (hav m 1 (i + 1)) = B) := Lib.hid (by rw [HST.out, if_neg (fun h => hH h.2)])
                clear hH HST HP HHR
                rcases HCOND.out with ⟨x1, x2⟩ | x1
                · have y1 : (j : Int) < N := by omega
                  have y2 : decide ((j : Int) < 9) = false := decide_eq_false (by omega)
                  have y2n : decide (j < 9) = false := decide_eq_false x2
                  clear x1 x2
                  go_wp2_with fail
                  refine C9.out.mono ?_; rintro e w5 ⟨rfl, hf5⟩
                  have hti5 := HTI.out w5 hf5
                  go_wp2
                  refine ⟨⟨i + 1, by simp, by rw [HS2.out], by have := HI9.out; omega, by have := HI9.out; omega, HFW.out.trans hf5 (fun _ _ h => h)⟩, ?_⟩
                  first | omega | (show _ < _; simp [intOf]; omega)
                · have y1 : decide ((j : Int) < (N : Int)) = false := decide_eq_false (by omega)
                  have y1n : decide (j < N) = false := decide_eq_false x1
                  clear x1
                  go_wp2_with fail
                  refine C9.out.mono ?_; rintro e w5 ⟨rfl, hf5⟩
                  have hti5 := HTI.out w5 hf5
                  go_wp2
                  refine ⟨⟨i + 1, by simp, by rw [HS2.out], by have := HI9.out; omega, by have := HI9.out; omega, HFW.out.trans hf5 (fun _ _ h => h)⟩, ?_⟩
                  first | omega | (show _ < _; simp [intOf]; omega)
      · have dm : (m i == 1) = false := by simp [hm1]
        have dm' : (m i != 1) = true := by simp [hm1]
        have HST := Lib.hid (bst_hav_no (N := N) (t := t) hm1)
        clear hm1 hlt
        go_wp2
        refine ⟨⟨i + 1, by simp, by rw [HST.out], by have := HI9.out; omega, by have := HI9.out; omega, HFO.out⟩, ?_⟩
        first | omega | (show _ < _; simp [intOf]; omega)
    · have HE := Lib.hid (bst_end (m := m) (N := N) (t := t) (k := i) (by omega))
      by_cases h1 : i < N
      · have d1 : (i : Int) < N := by omega
        have d2 : decide ((i : Int) < 9) = false := decide_eq_false (by omega)
        have d2n : decide (i < 9) = false := decide_eq_false (by omega)
        clear hlt hf
        go_wp2
        go_ret
        exact ⟨by rw [HE.out]; rfl, HF1.out.trans HFO.out (fun _ _ h => h)⟩
      · have d2 : decide ((i : Int) < (N : Int)) = false := decide_eq_false (by omega)
        have d2n : decide (i < N) = false := decide_eq_false (by omega)
        clear hlt hf h1
        go_wp2
        go_ret
        exact ⟨by rw [HE.out]; rfl, HF1.out.trans HFO.out (fun _ _ h => h)⟩
end Go.Proofs.Ytiinkjplhihdaaa
