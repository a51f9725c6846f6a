/- LogMerges: what it leans on. -/
import Derived.Test.YtklgaffmbojfhaaQn
namespace Go.Proofs.Ytklgaffmbojfhaa
open Go.RowKit

/-- A piece of a row that came in. -/
theorem run_piece (A : Option Addr) (n c fr m pa : Nat) (hpa : fr + m = pa) (hm : fr + m ≤ n) (hnc : n ≤ c) (hcm : (c : Int) ≤ 9223372036854775807) (hA : 0 < n → ∃ b off, A = some ⟨b, off, none⟩) :
    ∃ A' c', (∀ w, (Instr.sliceAt 22 (.slice A n c) (some (.int .i64 (fr : Int))) (some (.int .i64 (pa : Int))) none).run Try.prog w = .ok (.slice A' m c') w) ∧ m ≤ c' ∧ (c' : Int) ≤ 9223372036854775807 ∧
      (∀ w ps G, Es w A n ps G → Es w A' m ((ps.drop fr).take m) G) := by
  have h1 : (fr : Int) ≤ (pa : Int) := by omega
  have h2 : (pa : Int) ≤ (c : Int) := by omega
  have h3 : pa - fr = m := by omega
  rcases A with _ | ad
  · have hn0 : n = 0 := by
      rcases Nat.eq_zero_or_pos n with h | h
      · exact h
      · obtain ⟨b, off, e⟩ := hA h; cases e
    subst hn0
    obtain rfl : fr = 0 := by omega
    obtain rfl : m = 0 := by omega
    obtain rfl : pa = 0 := by omega
    refine ⟨none, c, fun w => ?_, by omega, hcm, fun w ps G h => ?_⟩
    · simp [go_sem, Instr.sliceAt]
    · have : ps = [] := List.eq_nil_of_length_eq_zero h.len
      subst this
      exact Es.nil _ _ _
  · by_cases hm0 : m = 0
    · subst hm0
      obtain rfl : pa = fr := by omega
      by_cases hcf : c = pa
      · subst hcf
        refine ⟨some ad, 0, fun w => ?_, by omega, by omega, fun w ps G h => ?_⟩
        · simp [go_sem, Instr.sliceAt]
        · simp only [List.take_zero]; exact Es.nil _ _ _
      · refine ⟨some (ad.add (pa * 2)), c - pa, fun w => ?_, by omega, by omega, fun w ps G h => ?_⟩
        · have g1 : (pa : Int) ≤ (c : Int) := by omega
          simp [go_sem, Instr.sliceAt, hcf, g1]
        · simp only [List.take_zero]; exact Es.nil _ _ _
    · obtain ⟨b, off, e⟩ := hA (by omega)
      injection e with e
      subst e
      have hcf : ¬ (c = fr) := by omega
      refine ⟨some ⟨b, off + fr * 2, none⟩, c - fr, fun w => ?_, by omega, by omega, fun w ps G h => ?_⟩
      · simp [go_sem, Instr.sliceAt, hcf, h1, h2, h3]
      · exact (h.drop fr (by omega)).take m (by omega)
end Go.Proofs.Ytklgaffmbojfhaa
