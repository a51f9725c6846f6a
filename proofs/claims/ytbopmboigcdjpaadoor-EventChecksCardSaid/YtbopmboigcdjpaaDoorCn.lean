/- The reader's Between, Bytes, End, and a new one. -/
import Derived.Test.YtbopmboigcdjpaaDoorCm
namespace Go.Proofs.YtbopmboigcdjpaaDoor
open Go.RowKit

def stBetween (xs : List UInt8) (wh : ByteArray) (lo hi : Int) : St → Int × St
  | .bad er a w0 => (0, .bad er a w0)
  | .at_ k => match (srWithin xs k lo hi).1 with
    | .bad b => (0, .bad b k wh)
    | .ok k' => ((srWithin xs k lo hi).2, .at_ k')
def stBytes (xs : List UInt8) (wh : ByteArray) (most : Int) : St → List UInt8 × St
  | .bad er a w0 => ([], .bad er a w0)
  | .at_ k => match (srRun xs k most).1 with
    | .bad b => ([], .bad b k wh)
    | .ok k' => ((srRun xs k most).2, .at_ k')

theorem srWithin_bad {xs : List UInt8} {k : Nat} {lo hi b : Int} (h : (srWithin xs k lo hi).1 = .bad b) : b ≠ 0 := by
  unfold srWithin at h
  cases hN : rdNum (xs.drop k) with
  | bad b' => rw [hN] at h; injection h with h; subst h; exact num_bad hN
  | ok u m =>
    rw [hN] at h
    simp only at h
    split at h
    · injection h with h; omega
    · cases h
theorem srRun_bad {xs : List UInt8} {k : Nat} {most b : Int} (h : (srRun xs k most).1 = .bad b) : b ≠ 0 := by
  unfold srRun at h
  cases hN : rdNum (xs.drop k) with
  | bad b' => rw [hN] at h; injection h with h; subst h; exact num_bad hN
  | ok u m =>
    rw [hN] at h
    simp only at h
    repeat' split at h
    all_goals first | (injection h with h; omega) | cases h

end Go.Proofs.YtbopmboigcdjpaaDoor
