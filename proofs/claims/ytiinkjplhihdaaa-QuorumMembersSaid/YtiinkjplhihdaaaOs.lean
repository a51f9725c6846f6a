/- Members compared as arrays. -/
import Derived.Test.YtiinkjplhihdaaaOa
import Derived.Laws.StructEq
namespace Go.Proofs.Ytiinkjplhihdaaa
open Go.RowKit

def same9 (m q : Nat → Int) : Bool := m 0 == q 0 && (m 1 == q 1 && (m 2 == q 2 && (m 3 == q 3 && (m 4 == q 4 && (m 5 == q 5 && (m 6 == q 6 && (m 7 == q 7 && m 8 == q 8)))))))
theorem same9_yes {m q : Nat → Int} (h : ∀ k, k < 9 → m k = q k) : same9 m q = true := by
  unfold same9
  simp [h 0 (by omega), h 1 (by omega), h 2 (by omega), h 3 (by omega), h 4 (by omega), h 5 (by omega), h 6 (by omega), h 7 (by omega), h 8 (by omega)]
theorem same9_no {m q : Nat → Int} {k : Nat} (hk : k < 9) (h : m k ≠ q k) : same9 m q = false := by
  have : k = 0 ∨ k = 1 ∨ k = 2 ∨ k = 3 ∨ k = 4 ∨ k = 5 ∨ k = 6 ∨ k = 7 ∨ k = 8 := by omega
  unfold same9
  rcases this with rfl | rfl | rfl | rfl | rfl | rfl | rfl | rfl | rfl <;> simp [beq_eq_false_iff_ne.2 h]
set_option maxRecDepth 100000 in
set_option maxHeartbeats 4000000 in
theorem run_eq23 (m q : Nat → Int) (w : World) : (Op.equalIn 10000 23 (mv m) (mv q)).run Try.prog w = .ok (same9 m q) w := by
  have u3 := Try.underlying5
  have a3 := Try.isAgg5
  have z3 := Try.sizeOf5
  unfold mv
  rw [show (10000 : Nat) = 9999 + 1 from rfl, Op.equalIn]
  simp only [Sem.run_bind, run_underlying Try.underlying23, Result.andThen_ok]
  simp only [Std.Legacy.Range.forIn_eq_forIn_range', Std.Legacy.Range.size, Nat.sub_zero, Nat.add_sub_cancel, Nat.div_one, List.range'_succ, List.range'_zero, List.forIn_cons, List.forIn_nil]
  go_simp
  by_cases h0 : m 0 = q 0
  · skip
    by_cases h1 : m 1 = q 1
    · skip
      by_cases h2 : m 2 = q 2
      · skip
        by_cases h3 : m 3 = q 3
        · skip
          by_cases h4 : m 4 = q 4
          · skip
            by_cases h5 : m 5 = q 5
            · skip
              by_cases h6 : m 6 = q 6
              · skip
                by_cases h7 : m 7 = q 7
                · skip
                  by_cases h8 : m 8 = q 8
                  · skip
                    simp [same9, h0, h1, h2, h3, h4, h5, h6, h7, h8]
                  · simp [same9, h0, h1, h2, h3, h4, h5, h6, h7, h8]
                · simp [same9, h0, h1, h2, h3, h4, h5, h6, h7]
              · simp [same9, h0, h1, h2, h3, h4, h5, h6]
            · simp [same9, h0, h1, h2, h3, h4, h5]
          · simp [same9, h0, h1, h2, h3, h4]
        · simp [same9, h0, h1, h2, h3]
      · simp [same9, h0, h1, h2]
    · simp [same9, h0, h1]
  · simp [same9, h0]
set_option maxRecDepth 100000 in
set_option maxHeartbeats 4000000 in
theorem run_eq22 (m q : Nat → Int) (w : World) : (Op.equalIn 10000 22 (mv m) (mv q)).run Try.prog w = .ok (same9 m q) w := by
  have u3 := Try.underlying5
  have a3 := Try.isAgg5
  have z3 := Try.sizeOf5
  unfold mv
  rw [show (10000 : Nat) = 9999 + 1 from rfl, Op.equalIn]
  simp only [Sem.run_bind, run_underlying Try.underlying22, Result.andThen_ok]
  simp only [Std.Legacy.Range.forIn_eq_forIn_range', Std.Legacy.Range.size, Nat.sub_zero, Nat.add_sub_cancel, Nat.div_one, List.range'_succ, List.range'_zero, List.forIn_cons, List.forIn_nil]
  go_simp
  by_cases h0 : m 0 = q 0
  · skip
    by_cases h1 : m 1 = q 1
    · skip
      by_cases h2 : m 2 = q 2
      · skip
        by_cases h3 : m 3 = q 3
        · skip
          by_cases h4 : m 4 = q 4
          · skip
            by_cases h5 : m 5 = q 5
            · skip
              by_cases h6 : m 6 = q 6
              · skip
                by_cases h7 : m 7 = q 7
                · skip
                  by_cases h8 : m 8 = q 8
                  · skip
                    simp [same9, h0, h1, h2, h3, h4, h5, h6, h7, h8]
                  · simp [same9, h0, h1, h2, h3, h4, h5, h6, h7, h8]
                · simp [same9, h0, h1, h2, h3, h4, h5, h6, h7]
              · simp [same9, h0, h1, h2, h3, h4, h5, h6]
            · simp [same9, h0, h1, h2, h3, h4, h5]
          · simp [same9, h0, h1, h2, h3, h4]
        · simp [same9, h0, h1, h2, h3]
      · simp [same9, h0, h1, h2]
    · simp [same9, h0, h1]
  · simp [same9, h0]
end Go.Proofs.Ytiinkjplhihdaaa
