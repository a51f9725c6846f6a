/- chunk: mayBe, isWhole, verdict, built, NewBuilder, Drop, Next. -/
import Derived.Test.YtacafjbbdklleaaDoorAa
import Derived.IntWalk
import Derived.Handy
namespace Go.Proofs.YtacafjbbdklleaaDoor
open Go.RowKit

theorem may_iff (a b c : Int) (s : Nat) (xs : List UInt8) (n : Nat) (hn : xs.length = n) : Pc.may ⟨a, b, c, s, xs⟩ ↔ (0 ≤ a ∧ 0 ≤ c ∧ c ≤ 1048576 ∧ 0 ≤ b ∧ b ≤ c - (n : Int) ∧ (0 < n ∨ c = 0)) := by subst hn; exact Iff.rfl
set_option maxRecDepth 100000 in
set_option maxHeartbeats 4000000 in
theorem mayBe_any (p : Pc) (A : Option Addr) (n m : Nat) (w : World) (hn : p.data.length = n) (hb : (n : Int) ≤ 140737488355328) :
    Calls Tryd.prog 45 #[p.v (.slice A n m)] w fun e w' => e = .returned (.bool (decide p.may)) ∧ Fr (fun _ => False) w w' := by
  obtain ⟨a, b, c, s, xs⟩ := p
  have HI := Lib.hid (may_iff a b c s xs n hn)
  unfold Pc.v
  clear hn
  simp only
  by_cases h1 : 0 ≤ a
  · have d1 : decide (0 ≤ a) = true := decide_eq_true h1
    by_cases h2 : 0 ≤ c
    · have d2 : decide (0 ≤ c) = true := decide_eq_true h2
      by_cases h3 : c ≤ 1048576
      · have d3 : decide (c ≤ 1048576) = true := decide_eq_true h3
        by_cases h4 : 0 ≤ b
        · have d4 : decide (0 ≤ b) = true := decide_eq_true h4
          have w1 : IntKind.i64.wrap (c - (n : Int)) = c - (n : Int) := IntWalk.i64_in _ (by omega)
          by_cases h5 : b ≤ c - (n : Int)
          · have d5 : decide (b ≤ c - (n : Int)) = true := decide_eq_true h5
            by_cases h6 : 0 < n
            · have d6 : decide (0 < n) = true := decide_eq_true h6
              have d6i : decide ((0 : Int) < (n : Int)) = true := decide_eq_true (by omega)
              go_enter Tryd.func45, Tryd.ntmps45
              go_wp2
              go_ret
              refine ⟨?_, (Fr.refl _ _).alloc _⟩
              rw [decide_eq_true (by rw [HI.out]; omega)]
              rfl
            · have d6 : decide (0 < n) = false := decide_eq_false h6
              have d6i : decide ((0 : Int) < (n : Int)) = false := decide_eq_false (by omega)
              by_cases h7 : c = 0
              · have d7 : (c == 0) = true := by simp [h7]
                have HC := Lib.hid h7
                clear h7
                go_enter Tryd.func45, Tryd.ntmps45
                go_wp2
                go_ret
                refine ⟨?_, (Fr.refl _ _).alloc _⟩
                rw [decide_eq_true (by rw [HI.out]; have := HC.out; omega)]
                rfl
              · have d7 : (c == 0) = false := by simp [h7]
                go_enter Tryd.func45, Tryd.ntmps45
                go_wp2
                go_ret
                refine ⟨?_, (Fr.refl _ _).alloc _⟩
                rw [decide_eq_false (by rw [HI.out]; omega)]
                rfl
          · have d5 : decide (b ≤ c - (n : Int)) = false := decide_eq_false h5
            go_enter Tryd.func45, Tryd.ntmps45
            go_wp2
            go_ret
            refine ⟨?_, (Fr.refl _ _).alloc _⟩
            rw [decide_eq_false (by rw [HI.out]; omega)]
            rfl
        · have d4 : decide (0 ≤ b) = false := decide_eq_false h4
          go_enter Tryd.func45, Tryd.ntmps45
          go_wp2
          go_ret
          refine ⟨?_, (Fr.refl _ _).alloc _⟩
          rw [decide_eq_false (by rw [HI.out]; omega)]
          rfl
      · have d3 : decide (c ≤ 1048576) = false := decide_eq_false h3
        go_enter Tryd.func45, Tryd.ntmps45
        go_wp2
        go_ret
        refine ⟨?_, (Fr.refl _ _).alloc _⟩
        rw [decide_eq_false (by rw [HI.out]; omega)]
        rfl
    · have d2 : decide (0 ≤ c) = false := decide_eq_false h2
      go_enter Tryd.func45, Tryd.ntmps45
      go_wp2
      go_ret
      refine ⟨?_, (Fr.refl _ _).alloc _⟩
      rw [decide_eq_false (by rw [HI.out]; omega)]
      rfl
  · have d1 : decide (0 ≤ a) = false := decide_eq_false h1
    go_enter Tryd.func45, Tryd.ntmps45
    go_wp2
    go_ret
    refine ⟨?_, (Fr.refl _ _).alloc _⟩
    rw [decide_eq_false (by rw [HI.out]; omega)]
    rfl
end Go.Proofs.YtacafjbbdklleaaDoor
