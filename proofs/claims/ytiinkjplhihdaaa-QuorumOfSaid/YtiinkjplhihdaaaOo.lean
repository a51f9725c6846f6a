/- The reference's Of. -/
import Derived.Test.YtiinkjplhihdaaaOm
namespace Go.Proofs.Ytiinkjplhihdaaa
open Go.RowKit

/-- What i nodes, of both rows, make. -/
def stO (N : Nat) (t t2 : Nat → Int) (i : Nat) : Option (Nat → Int) := (entL 1 zeroM (upT t (min i N))).bind fun p => entL 2 p (upT t2 (i - N))
theorem stO_zero (N : Nat) (t t2 : Nat → Int) : stO N t t2 0 = some zeroM := by simp [stO, upT, entL]
theorem stO_one {N : Nat} {t t2 : Nat → Int} {i : Nat} (h : i < N) : stO N t t2 (i + 1) = (stO N t t2 i).bind fun q => ent1 1 q (t i) := by
  unfold stO
  rw [show min (i + 1) N = i + 1 by omega, show min i N = i by omega, show i + 1 - N = 0 by omega, show i - N = 0 by omega, upT_succ, entL_snoc]
  have e : ∀ p, entL 2 p (upT t2 0) = some p := fun p => by simp [upT, entL]
  simp only [e]
  cases h1 : entL 1 zeroM (upT t i) with
  | none => rfl
  | some p => simp
theorem stO_two {N : Nat} {t t2 : Nat → Int} {i : Nat} (h : ¬ i < N) : stO N t t2 (i + 1) = (stO N t t2 i).bind fun q => ent1 2 q (t2 (i - N)) := by
  unfold stO
  rw [show min (i + 1) N = N by omega, show min i N = N by omega, show i + 1 - N = (i - N) + 1 by omega, upT_succ]
  cases h1 : entL 1 zeroM (upT t N) with
  | none => rfl
  | some p => show entL 2 p _ = _; rw [entL_snoc]; rfl
theorem stO_none {N : Nat} {t t2 : Nat → Int} {i : Nat} (h : stO N t t2 i = none) : ∀ n, stO N t t2 (i + n) = none
  | 0 => h
  | n + 1 => by
    have h2 := stO_none h n
    by_cases hlt : i + n < N
    · rw [← Nat.add_assoc, stO_one hlt, h2]; rfl
    · rw [← Nat.add_assoc, stO_two hlt, h2]; rfl
theorem stO_none' {N : Nat} {t t2 : Nat → Int} {i n : Nat} (h : stO N t t2 i = none) (hi : i ≤ n) : stO N t t2 n = none := by
  have := stO_none h (n - i)
  rwa [show i + (n - i) = n by omega] at this
theorem stO_all (N N2 : Nat) (t t2 : Nat → Int) : stO N t t2 (N + N2) = ofM N t N2 t2 := by
  unfold stO ofM
  rw [show min (N + N2) N = N by omega, show N + N2 - N = N2 by omega]
end Go.Proofs.Ytiinkjplhihdaaa
