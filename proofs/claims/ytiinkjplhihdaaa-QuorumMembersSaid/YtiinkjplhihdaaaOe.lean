/- The reference's Count, Right, Most. -/
import Derived.Test.YtiinkjplhihdaaaOd
namespace Go.Proofs.Ytiinkjplhihdaaa
open Go.RowKit

theorem cnt_all (m : Nat → Int) (r : Int) : (hav m r 9).length = cnt m r := rfl

set_option maxRecDepth 100000 in
set_option maxHeartbeats 4000000 in
theorem rCount_any (m : Nat → Int) (hm : ∀ k, 0 ≤ m k ∧ m k < 256) (r : Int) (w : World) :
    Calls Try.prog 22 #[mv m, .int .i64 r] w fun e w' => e = .returned (.int .i64 (cnt m r : Int)) ∧ Fr (fun _ => False) w w' := by
  obtain ⟨w1, hw1⟩ : ∃ w1, w.alloc (.cells (mcs m) 22) = w1 := ⟨_, rfl⟩
  have HC : Hid (∀ k, k < 9 → w1.cell? ⟨w.heap.size, k, none⟩ = some (.int .u8 (m k))) := Lib.hid (fun k hk => by rw [← hw1]; exact (Bx.new w 22 m).at0 hk)
  have HF1 : Hid (Fr (fun _ => False) w w1) := Lib.hid (hw1 ▸ (Fr.refl _ _).alloc _)
  unfold mv mcs at *
  go_enter Try.func22, Try.ntmps22
  go_wp2_with fail
  clear hw1
  go_loopw [6, 5] (fun i n wr => ∃ k : Nat, i = .int .i64 (k : Int) ∧ n = .int .i64 ((hav m r k).length : Int) ∧ k ≤ 9 ∧ w1 = wr) (fun i _ _ => 9 - (intOf i).toNat)
  case atStart => exact ⟨0, rfl, rfl, Nat.zero_le _, rfl⟩
  case round =>
    obtain ⟨k, rfl, rfl, hk, rfl⟩ := hrel
    by_cases hlt : k < 9
    · have hc := HC.out k hlt
      have hcv : wrap64 (m k) = m k := wrap64_of (hm k)
      by_cases hr : m k = r
      · have hd : (m k == r) = true := by simp [hr]
        have HL : Hid ((hav m r (k + 1)).length = (hav m r k).length + 1) := Lib.hid (by rw [hav_yes hr]; simp)
        have hl := hav_len m r k
        clear hr
        generalize (hav m r k).length = z at *
        go_wp2
        refine ⟨⟨k + 1, by simp, by rw [HL.out]; simp, by omega, trivial⟩, ?_⟩
        first | omega | (show _ < _; simp [intOf]; omega)
      · have hd : (m k == r) = false := by simp [hr]
        have HL : Hid ((hav m r (k + 1)).length = (hav m r k).length) := Lib.hid (by rw [hav_no hr])
        clear hr
        generalize (hav m r k).length = z at *
        go_wp2
        refine ⟨⟨k + 1, by simp, by rw [HL.out], by omega, trivial⟩, ?_⟩
        first | omega | (show _ < _; simp [intOf]; omega)
    · obtain rfl : k = 9 := by omega
      go_wp2
      go_ret
      exact ⟨rfl, HF1.out⟩

set_option maxRecDepth 100000 in
set_option maxHeartbeats 4000000 in
theorem rMost_any (m : Nat → Int) (hm : ∀ k, 0 ≤ m k ∧ m k < 256) (w : World) :
    Calls Try.prog 18 #[mv m] w fun e w' => e = .returned (.int .i64 (mst m : Int)) ∧ Fr (fun _ => False) w w' := by
  have CA := Lib.hid (rCount_any m hm 1 (w.alloc (.cells (mcs m) 22)))
  obtain ⟨z, hz⟩ : ∃ z : Int, (mst m : Int) = z := ⟨_, rfl⟩
  rw [hz]
  have hq : wrap64 ((cnt m 1 : Int) / 2) = (cnt m 1 : Int) / 2 := by have := cnt_le m 1; unfold wrap64; omega
  have hq2 : wrap64 ((cnt m 1 : Int) / 2 + 1) = z := by have := cnt_le m 1; unfold wrap64; unfold mst at hz; omega
  clear hz
  unfold mv mcs at *
  generalize cnt m 1 = c at *
  go_enter Try.func18, Try.ntmps18
  go_wp2_with fail
  refine CA.out.mono ?_; rintro e w1 ⟨rfl, hf⟩
  go_wp2
  go_ret
  exact ⟨by show Ending.returned (.int .i64 (wrap64 ((c : Int) / 2 + 1))) = _; rw [hq2], ((Fr.refl _ _).alloc _).trans hf (fun _ _ h => h)⟩

set_option maxRecDepth 100000 in
set_option maxHeartbeats 4000000 in
theorem rRight_any (m : Nat → Int) (hm : ∀ k, 0 ≤ m k ∧ m k < 256) (w : World) :
    Calls Try.prog 12 #[mv m] w fun e w' => e = .returned (.bool (rightB m)) ∧ Fr (fun _ => False) w w' := by
  obtain ⟨w1, hw1⟩ : ∃ w1, w.alloc (.cells (mcs m) 22) = w1 := ⟨_, rfl⟩
  have HC : Hid (∀ k, k < 9 → w1.cell? ⟨w.heap.size, k, none⟩ = some (.int .u8 (m k))) := Lib.hid (fun k hk => by rw [← hw1]; exact (Bx.new w 22 m).at0 hk)
  have HF1 : Hid (Fr (fun _ => False) w w1) := Lib.hid (hw1 ▸ (Fr.refl _ _).alloc _)
  have CA := Lib.hid (rCount_any m hm 1)
  have HR := Lib.hid (fun h => rightB_yes (m := m) h)
  have HN := Lib.hid (fun h => rightB_no (m := m) h)
  unfold mv mcs at *
  go_enter Try.func12, Try.ntmps12
  go_wp2_with fail
  clear hw1
  go_loopw [3] (fun i wr => ∃ k : Nat, i = .int .i64 (k : Int) ∧ k ≤ 9 ∧ okTo m k ∧ w1 = wr) (fun i _ => 9 - (intOf i).toNat)
  case atStart => exact ⟨0, rfl, Nat.zero_le _, fun _ h => absurd h (Nat.not_lt_zero _), rfl⟩
  case round =>
    obtain ⟨k, rfl, hk, hok, rfl⟩ := hrel
    by_cases hlt : k < 9
    · have hc := HC.out k hlt
      have hmk := hm k
      by_cases hr : m k = 0 ∨ m k = 1 ∨ m k = 2
      · have hd : decide (2 < m k) = false := decide_eq_false (by omega)
        have HK : Hid (okTo m (k + 1)) := Lib.hid (fun j hj => by rcases Nat.lt_succ_iff_lt_or_eq.1 hj with h | rfl; exact hok j h; exact hr)
        clear hr hok
        go_wp2
        refine ⟨⟨k + 1, by simp, by omega, HK.out, trivial⟩, ?_⟩
        first | omega | (show _ < _; simp [intOf]; omega)
      · have hd : decide (2 < m k) = true := decide_eq_true (by omega)
        have HV := Lib.hid (HN.out (fun h => hr (h.1 k hlt)))
        clear hr hok
        go_wp2
        go_ret
        exact ⟨congrArg (fun b => Ending.returned (.bool b)) HV.out.symm, HF1.out⟩
    · obtain rfl : k = 9 := by omega
      have C1 := Lib.hid (CA.out w1)
      have hcc := HC.out
      by_cases hp : 0 < cnt m 1
      · have HV := Lib.hid (HR.out ⟨hok, hp⟩)
        have hd : decide ((0 : Int) < (cnt m 1 : Int)) = true := decide_eq_true (by omega)
        have hd2 : decide (0 < cnt m 1) = true := decide_eq_true hp
        clear hp hok
        go_wp2_with fail
        refine C1.out.mono ?_; rintro e w2 ⟨rfl, hf⟩
        clear hcc
        go_wp2
        go_ret
        exact ⟨by rw [HV.out]; first | rfl | simp [hd2], HF1.out.trans hf (fun _ _ h => h)⟩
      · have HV := Lib.hid (HN.out (fun h => hp h.2))
        have hd : decide ((0 : Int) < (cnt m 1 : Int)) = false := decide_eq_false (by omega)
        have hd2 : decide (0 < cnt m 1) = false := decide_eq_false hp
        clear hp hok
        go_wp2_with fail
        refine C1.out.mono ?_; rintro e w2 ⟨rfl, hf⟩
        clear hcc
        go_wp2
        go_ret
        exact ⟨by rw [HV.out]; first | rfl | simp [hd2], HF1.out.trans hf (fun _ _ h => h)⟩
end Go.Proofs.Ytiinkjplhihdaaa
