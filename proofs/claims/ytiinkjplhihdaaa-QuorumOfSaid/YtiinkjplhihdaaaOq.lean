/- QuorumOf, walked. -/
import Derived.Test.YtiinkjplhihdaaaOp
import Derived.Test.YtiinkjplhihdaaaOn
import Derived.Test.YtiinkjplhihdaaaOs
namespace Go.Proofs.Ytiinkjplhihdaaa
open Go.RowKit

set_option maxRecDepth 100000 in
set_option maxHeartbeats 4000000 in
theorem lawOf_any (A : Option Addr) (N c : Nat) (t : Nat → Int) (A2 : Option Addr) (N2 c2 : Nat) (t2 : Nat → Int) (w : World) (h1 : RdF w A N (fun j => .int .i64 (t j))) (h2 : RdF w A2 N2 (fun j => .int .i64 (t2 j))) (hN : (N : Int) ≤ 9223372036854775807) (hN2 : (N2 : Int) ≤ 9223372036854775807) :
    Calls Try.prog 4 #[.slice A N c, .slice A2 N2 c2] w fun e w' => e = .returned (.bool true) ∧ Fr (fun _ => False) w w' := by
  have CK := Lib.hid (known_any w)
  have CO := Lib.hid (fun w' (hf : Fr (fun _ => False) w w') (hN : N ≤ 100) (hN2 : N2 ≤ 100) => of_any A N c t A2 N2 c2 t2 w' (h1.fr0 hf) (h2.fr0 hf) (by omega) (by omega))
  have CQ := Lib.hid (fun w' (hf : Fr (fun _ => False) w w') (hN : N ≤ 100) (hN2 : N2 ≤ 100) => rOf_any A N c t A2 N2 c2 t2 w' (h1.fr0 hf) (h2.fr0 hf) (by omega) (by omega))
  clear h1 h2
  go_enter Try.func4, Try.ntmps4
  go_wp2_with fail
  refine CK.out.mono ?_; rintro e w1 ⟨rfl, hf1⟩
  by_cases h100 : N ≤ 100
  · have d1 : decide ((100 : Int) < (N : Int)) = false := decide_eq_false (by omega)
    have d1n : decide (100 < N) = false := decide_eq_false (by omega)
    by_cases h200 : N2 ≤ 100
    · have d2 : decide ((100 : Int) < (N2 : Int)) = false := decide_eq_false (by omega)
      have d2n : decide (100 < N2) = false := decide_eq_false (by omega)
      have C1 := Lib.hid (CO.out w1 hf1 h100 h200)
      obtain ⟨⟨q, z⟩, hqz⟩ : ∃ p, ofQ N t N2 t2 = p := ⟨_, rfl⟩
      rw [hqz] at C1
      simp only [hqz] at CQ
      dsimp only at C1 CQ
      unfold mv at C1 CQ
      go_wp2_with fail
      refine C1.out.mono ?_; rintro e w2 ⟨rfl, hf2⟩
      have HF2 := Lib.hid (hf1.trans hf2 (fun _ _ h => h))
      have hb3 := Bx.new w2 23 q
      obtain ⟨w3, hw3⟩ : ∃ w3, w2.alloc (.cells (mcs q) 23) = w3 := ⟨_, rfl⟩
      have HF3 : Hid (Fr (fun _ => False) w w3) := Lib.hid (hw3 ▸ HF2.out.alloc _)
      rw [hw3] at hb3
      have C2 := Lib.hid (CQ.out w3 HF3.out h100 h200)
      unfold mcs at hw3
      clear hf1 hf2 C1
      go_wp2_with fail
      refine C2.out.mono ?_; rintro e w4 ⟨rfl, hf4⟩
      have HF4 := Lib.hid (HF3.out.trans hf4 (fun _ _ h => h))
      have hb4 := hb3.fr hf4 (fun h => h)
      have hb5 := Bx.new w4 22 q
      obtain ⟨w5, hw5⟩ : ∃ w5, w4.alloc (.cells (mcs q) 22) = w5 := ⟨_, rfl⟩
      have HF5 : Hid (Fr (fun _ => False) w w5) := Lib.hid (hw5 ▸ HF4.out.alloc _)
      have hb45 : Bx w5 w2.heap.size 0 q := by rw [← hw5]; exact hb4.fr ((Fr.refl (fun _ => False) _).alloc _) (fun h => h)
      rw [hw5] at hb5
      unfold mcs at hw5
      have hc4 : ∀ k, k < 9 → w5.cell? ⟨w2.heap.size, k, none⟩ = some (.int .u8 (q k)) := fun k hk => hb45.at0 hk
      have hc5 : ∀ k, k < 9 → w5.cell? ⟨w4.heap.size, k, none⟩ = some (.int .u8 (q k)) := fun k hk => hb5.at0 hk
      have heq := run_eq22 q q w5
      rw [same9_yes (fun _ _ => rfl)] at heq
      unfold mv at heq
      clear hb3 hb4 hb5 hb45 hf4 C2 hw3
      go_wp2
      go_ret
      exact ⟨rfl, HF5.out⟩
    · have d2 : decide ((100 : Int) < (N2 : Int)) = true := decide_eq_true (by omega)
      have d2n : decide (100 < N2) = true := decide_eq_true (by omega)
      go_wp2
      go_ret
      exact ⟨rfl, hf1⟩
  · have d1 : decide ((100 : Int) < (N : Int)) = true := decide_eq_true (by omega)
    have d1n : decide (100 < N) = true := decide_eq_true (by omega)
    go_wp2
    go_ret
    exact ⟨rfl, hf1⟩
end Go.Proofs.Ytiinkjplhihdaaa
