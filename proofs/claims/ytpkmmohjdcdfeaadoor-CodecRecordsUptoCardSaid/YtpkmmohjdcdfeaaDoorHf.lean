/- few, where the sum of sizes is no more than an int holds; the items, by both writers. -/
import Derived.Test.YtpkmmohjdcdfeaaDoorHe
import Derived.Test.YtpkmmohjdcdfeaaDoorDd
namespace Go.Proofs.YtpkmmohjdcdfeaaDoor
open Go.RowKit

set_option maxRecDepth 100000 in
set_option maxHeartbeats 1000000 in
theorem few_sum (A : Option Addr) (n c : Nat) (l : List It) (w : World) (h : Its w A l) (hn : l.length = n) (hb : (n : Int) ≤ 140737488355328) (hsum : (sizeOf' l : Int) ≤ 4611686018427387904) (b : Bool) (hbb : b = decide (sizeOf' l ≤ 8192)) :
    Calls Tryd.prog 6 #[.slice A n c] w fun e w' => e = .returned (.bool b) ∧ w = w' := by
  have HBB := Lib.hid hbb
  clear hbb
  go_enter Tryd.func6, Tryd.ntmps6
  go_wp2
  go_loop [3, 4] (fun s i => ∃ (k : Nat), k ≤ n ∧ i = .int .i64 k ∧ s = .int .i64 (sizeOf' (l.take k) : Nat)) (fun _ i => n - (intOf i).toNat)
  case atStart => exact ⟨0, Nat.zero_le _, rfl, rfl⟩
  case round =>
    obtain ⟨k, hk, rfl, rfl⟩ := hrel
    by_cases hlt : k < n
    · obtain ⟨g, o, rfl, hx⟩ := h (by omega)
      have hi := hx k (by omega)
      have hc := hi.c2
      have hbl := hi.len
      have hst := sizeOf'_take l k (by omega)
      have hmono := sizeOf'_mono l (k + 1)
      generalize hm : (l[k]'(by omega)).bs.length = m at *
      generalize sizeOf' (l.take k) = z at *
      have hz : (z : Int) + m + 10 ≤ 4611686018427387904 := by omega
      have HS := Lib.hid hst
      clear hi hx hst hmono
      go_wp2
      go_round
      case rel =>
        refine ⟨k + 1, by omega, by go_num, ?_⟩
        rw [HS.out]
        go_num
      case measure => simp [intOf]; omega
    · have : k = n := by omega
      subst this
      rw [List.take_of_length_le (by omega)]
      by_cases h8 : sizeOf' l ≤ 8192
      · have h8' : (sizeOf' l : Int) ≤ 8192 := by omega
        have hd : b = true := HBB.out.trans (decide_eq_true h8)
        clear HBB
        subst hd
        generalize sizeOf' l = z at *
        go_wp2
        go_ret
        exact ⟨rfl, rfl⟩
      · have h8' : ¬ (sizeOf' l : Int) ≤ 8192 := by omega
        have hd : b = false := HBB.out.trans (decide_eq_false h8)
        clear HBB
        subst hd
        generalize sizeOf' l = z at *
        go_wp2
        go_ret
        exact ⟨rfl, rfl⟩
end Go.Proofs.YtpkmmohjdcdfeaaDoor
