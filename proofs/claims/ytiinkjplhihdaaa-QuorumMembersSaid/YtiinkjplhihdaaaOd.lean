/- isNode, isRole, mayFollow, Right; the reference's Count, Right, Most. -/
import Derived.Test.YtiinkjplhihdaaaOc
namespace Go.Proofs.Ytiinkjplhihdaaa
open Go.RowKit

set_option maxHeartbeats 4000000 in
theorem isNode_any (k : Int) (w : World) : Calls Try.prog 28 #[.int .i64 k] w fun e w' => e = .returned (.bool (decide (0 ≤ k ∧ k < 9))) ∧ w = w' := by
  by_cases h0 : 0 ≤ k
  · by_cases h1 : k < 9
    · rw [decide_eq_true (show 0 ≤ k ∧ k < 9 from ⟨h0, h1⟩)]
      have d0 : decide (0 ≤ k) = true := decide_eq_true h0
      have d1 : decide (k < 9) = true := decide_eq_true h1
      go_enter Try.func28, Try.ntmps28
      go_wp2
      go_ret
      exact ⟨rfl, rfl⟩
    · rw [decide_eq_false (show ¬ (0 ≤ k ∧ k < 9) by omega)]
      have d0 : decide (0 ≤ k) = true := decide_eq_true h0
      have d1 : decide (k < 9) = false := decide_eq_false h1
      go_enter Try.func28, Try.ntmps28
      go_wp2
      go_ret
      exact ⟨rfl, rfl⟩
  · rw [decide_eq_false (show ¬ (0 ≤ k ∧ k < 9) by omega)]
    have d0 : decide (0 ≤ k) = false := decide_eq_false h0
    go_enter Try.func28, Try.ntmps28
    go_wp2
    go_ret
    exact ⟨rfl, rfl⟩

set_option maxHeartbeats 4000000 in
theorem isRole_any (k : Int) (w : World) : Calls Try.prog 27 #[.int .i64 k] w fun e w' => e = .returned (.bool (decide (k = 0 ∨ k = 1 ∨ k = 2))) ∧ w = w' := by
  by_cases h0 : k = 0
  · subst h0
    go_enter Try.func27, Try.ntmps27
    go_wp2
    go_ret
    exact ⟨rfl, rfl⟩
  · have d0 : (k == 0) = false := by simp [h0]
    by_cases h1 : k = 1
    · subst h1
      clear d0 h0
      go_enter Try.func27, Try.ntmps27
      go_wp2
      go_ret
      exact ⟨rfl, rfl⟩
    · have d1 : (k == 1) = false := by simp [h1]
      by_cases h2 : k = 2
      · subst h2
        clear d0 d1 h0 h1
        go_enter Try.func27, Try.ntmps27
        go_wp2
        go_ret
        exact ⟨rfl, rfl⟩
      · rw [decide_eq_false (show ¬ (k = 0 ∨ k = 1 ∨ k = 2) by omega)]
        have d2 : (k == 2) = false := by simp [h2]
        clear h0 h1 h2
        go_enter Try.func27, Try.ntmps27
        go_wp2
        go_ret
        exact ⟨rfl, rfl⟩

/-- Which role may come after which other one at once. -/
def mayF (a b : Int) : Bool := if a = 0 then decide (b = 2) else if a = 1 then decide (b = 0) else true
set_option maxHeartbeats 4000000 in
theorem mayFollow_any (a b : Int) (w : World) : Calls Try.prog 29 #[.int .i64 a, .int .i64 b] w fun e w' => e = .returned (.bool (mayF a b)) ∧ w = w' := by
  unfold mayF
  by_cases h0 : a = 0
  · subst h0
    rw [if_pos rfl]
    have e : decide (b = 2) = (b == 2) := rfl
    rw [e]
    go_enter Try.func29, Try.ntmps29
    go_wp2
    go_ret
    exact ⟨rfl, rfl⟩
  · rw [if_neg h0]
    have d0 : (a == 0) = false := by simp [h0]
    by_cases h1 : a = 1
    · subst h1
      rw [if_pos rfl]
      clear d0 h0
      have e : decide (b = 0) = (b == 0) := rfl
      rw [e]
      go_enter Try.func29, Try.ntmps29
      go_wp2
      go_ret
      exact ⟨rfl, rfl⟩
    · rw [if_neg h1]
      have d1 : (a == 1) = false := by simp [h1]
      clear h0 h1
      go_enter Try.func29, Try.ntmps29
      go_wp2
      go_ret
      exact ⟨rfl, rfl⟩

/-- The first n roles are roles. -/
def okTo (m : Nat → Int) (n : Nat) : Prop := ∀ k, k < n → m k = 0 ∨ m k = 1 ∨ m k = 2
/-- Each role is one, and there is a voter. -/
def rightP (m : Nat → Int) : Prop := okTo m 9 ∧ 0 < cnt m 1
open Classical in
noncomputable def rightB (m : Nat → Int) : Bool := decide (rightP m)
theorem rightB_yes {m : Nat → Int} (h : rightP m) : rightB m = true := by unfold rightB; simp [h]
theorem rightB_no {m : Nat → Int} (h : ¬ rightP m) : rightB m = false := by unfold rightB; simp [h]

set_option maxRecDepth 100000 in
set_option maxHeartbeats 4000000 in
theorem right_any (m : Nat → Int) (hm : ∀ k, 0 ≤ m k ∧ m k < 256) (w : World) :
    Calls Try.prog 11 #[mv m] w fun e w' => e = .returned (.bool (rightB m)) ∧ Fr (fun _ => False) w w' := by
  obtain ⟨w1, hw1⟩ : ∃ w1, w.alloc (.cells (mcs m) 23) = w1 := ⟨_, rfl⟩
  have HC : Hid (∀ k, k < 9 → w1.cell? ⟨w.heap.size, k, none⟩ = some (.int .u8 (m k))) := Lib.hid (fun k hk => by rw [← hw1]; exact (Bx.new w 23 m).at0 hk)
  have HF1 : Hid (Fr (fun _ => False) w w1) := Lib.hid (hw1 ▸ (Fr.refl _ _).alloc _)
  have HI := Lib.hid (fun w => run_index23 w m)
  have CR := Lib.hid isRole_any
  have CA := Lib.hid (count_any m hm 1)
  have HR := Lib.hid (fun h => rightB_yes (m := m) h)
  have HN := Lib.hid (fun h => rightB_no (m := m) h)
  unfold mv mcs at *
  go_enter Try.func11, Try.ntmps11
  have hc := HC.out
  go_wp2_with fail
  clear hc hw1
  go_loopw [6] (fun i wr => ∃ k : Nat, i = .int .i64 (k : Int) ∧ k ≤ 9 ∧ okTo m k ∧ w1 = wr) (fun i _ => 9 - (intOf i).toNat)
  case atStart => exact ⟨0, rfl, Nat.zero_le _, fun _ h => absurd h (Nat.not_lt_zero _), rfl⟩
  case round =>
    obtain ⟨k, rfl, hk, hok, rfl⟩ := hrel
    by_cases hlt : k < 9
    · have hi := HI.out w1 k hlt
      have hcv : wrap64 (m k) = m k := wrap64_of (hm k)
      have C1 := Lib.hid (CR.out (m k) w1)
      by_cases hr : m k = 0 ∨ m k = 1 ∨ m k = 2
      · have hd := decide_eq_true hr
        rw [hd] at C1
        have HK : Hid (okTo m (k + 1)) := Lib.hid (fun j hj => by rcases Nat.lt_succ_iff_lt_or_eq.1 hj with h | rfl; exact hok j h; exact hr)
        clear hr hd hok
        go_wp2_with fail
        refine C1.out.mono ?_; rintro e w2 ⟨rfl, rfl⟩
        go_wp2
        refine ⟨⟨k + 1, by simp, by omega, HK.out, trivial⟩, ?_⟩
        first | omega | (show _ < _; simp [intOf]; omega)
      · have hd := decide_eq_false hr
        rw [hd] at C1
        have HV := Lib.hid (HN.out (fun h => hr (h.1 k hlt)))
        clear hr hd hok
        go_wp2_with fail
        refine C1.out.mono ?_; rintro e w2 ⟨rfl, rfl⟩
        go_wp2
        go_ret
        exact ⟨congrArg (fun b => Ending.returned (.bool b)) HV.out.symm, HF1.out⟩
    · obtain rfl : k = 9 := by omega
      have C1 := Lib.hid (CA.out w1)
      have hcc := HC.out
      by_cases hp : 0 < cnt m 1
      · have HV := Lib.hid (HR.out ⟨hok, hp⟩)
        have hd : decide ((0 : Int) < (cnt m 1 : Int)) = true := decide_eq_true (by omega)
        have hd2 : decide (0 < cnt m 1) = true := decide_eq_true hp
        clear hp hok
        go_wp2_with fail
        refine C1.out.mono ?_; rintro e w2 ⟨rfl, hf⟩
        clear hcc
        go_wp2
        go_ret
        exact ⟨by rw [HV.out]; first | rfl | simp [hd2], HF1.out.trans hf (fun _ _ h => h)⟩
      · have HV := Lib.hid (HN.out (fun h => hp h.2))
        have hd : decide ((0 : Int) < (cnt m 1 : Int)) = false := decide_eq_false (by omega)
        have hd2 : decide (0 < cnt m 1) = false := decide_eq_false hp
        clear hp hok
        go_wp2_with fail
        refine C1.out.mono ?_; rintro e w2 ⟨rfl, hf⟩
        clear hcc
        go_wp2
        go_ret
        exact ⟨by rw [HV.out]; first | rfl | simp [hd2], HF1.out.trans hf (fun _ _ h => h)⟩
end Go.Proofs.Ytiinkjplhihdaaa
