/- The reader's Int. -/
import Derived.Test.YtbopmboigcdjpaaDoorCj
namespace Go.Proofs.YtbopmboigcdjpaaDoor
open Go.RowKit

/-- Where a reader stands: at a place, or at its fault. -/
inductive St where
  | at_ (k : Nat)
  | bad (er a : Int) (wh : ByteArray)

def stInt (xs : List UInt8) (wh : ByteArray) : St → Int × St
  | .bad er a w0 => (0, .bad er a w0)
  | .at_ k => match rdNum (xs.drop k) with
    | .bad b => (0, .bad b k wh)
    | .ok u m => (unfN u, .at_ (k + m))

theorem num_bad_or : ∀ (f i acc : Nat) (l : List UInt8) (b : Int), num f i acc l = .bad b → b = 7 ∨ b = 8
  | 0, _, _, _, _, h => by unfold num at h; injection h with h; exact .inr h.symm
  | _ + 1, _, _, [], _, h => by unfold num at h; injection h with h; exact .inl h.symm
  | f + 1, i, acc, c :: l, b, h => by
    unfold num at h
    split at h
    · exact num_bad_or f _ _ _ _ h
    · split at h
      · injection h with h; exact .inr h.symm
      · cases h
theorem num_bad {l : List UInt8} {b : Int} (h : rdNum l = .bad b) : b ≠ 0 := by
  rcases num_bad_or _ _ _ _ _ h with h | h <;> omega
theorem num_ok : ∀ (f i acc : Nat) (l : List UInt8) (u m : Nat), num f i acc l = .ok u m → i < m ∧ m ≤ i + l.length
  | 0, _, _, _, _, _, h => by unfold num at h; cases h
  | _ + 1, _, _, [], _, _, h => by unfold num at h; cases h
  | f + 1, i, acc, c :: l, u, m, h => by
    unfold num at h
    split at h
    · have := num_ok f _ _ _ _ _ h
      rw [List.length_cons]; omega
    · split at h
      · cases h
      · injection h with _ h
        rw [List.length_cons]; omega

end Go.Proofs.YtbopmboigcdjpaaDoor
