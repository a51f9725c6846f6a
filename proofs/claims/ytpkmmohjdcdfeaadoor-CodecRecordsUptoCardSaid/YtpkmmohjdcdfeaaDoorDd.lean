/- The law on items and back, its walk. -/
import Derived.Test.YtpkmmohjdcdfeaaDoorDc
namespace Go.Proofs.YtpkmmohjdcdfeaaDoor
open Go.RowKit

theorem itsEnc_take (l : List It) (k : Nat) (h : k < l.length) : itsEnc (l.take (k + 1)) = itsEnc (l.take k) ++ itEnc l[k] := by
  unfold itsEnc
  rw [List.take_succ_eq_append_getElem h, List.flatMap_append]
  simp
theorem itsEnc_le (l : List It) (w : World) (g o : Nat) (hx : ∀ i (h : i < l.length), ItAt w g (o + i * 3) l[i]) : ∀ k, k ≤ l.length → (itsEnc (l.take k)).length ≤ sizeOf' (l.take k)
  | 0, _ => by simp [itsEnc]
  | k + 1, h => by
    have h1 := itsEnc_le l w g o hx k (by omega)
    have h2 := hx k (by omega)
    have h3 := itEnc_le l[k] h2.lo h2.hi h2.len
    rw [sizeOf'_take l k (by omega), itsEnc_take l k (by omega), List.length_append]
    omega
theorem sizeOf'_mono (l : List It) (k : Nat) : sizeOf' (l.take k) ≤ sizeOf' l := by
  conv => rhs; rw [← List.take_append_drop k l]
  unfold sizeOf'
  rw [List.map_append, List.sum_append]
  omega
theorem size_mem (l : List It) (k : Nat) (h : k < l.length) : l[k].bs.length + 10 ≤ sizeOf' l := by
  have := sizeOf'_take l k h
  have := sizeOf'_mono l (k + 1)
  omega
theorem its_fits {w : World} {A : Option Addr} {l : List It} (h : Its w A l) (hs : sizeOf' l ≤ 8192) : ∀ x ∈ l, Fits x := by
  intro x hx
  obtain ⟨i, hi, rfl⟩ := List.getElem_of_mem hx
  obtain ⟨g, o, _, hat⟩ := h (by omega)
  have h1 := hat i hi
  have h2 := size_mem l i hi
  exact ⟨h1.lo, h1.hi, by omega⟩
end Go.Proofs.YtpkmmohjdcdfeaaDoor
