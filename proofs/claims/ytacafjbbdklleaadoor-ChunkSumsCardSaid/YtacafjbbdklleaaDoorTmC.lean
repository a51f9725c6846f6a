/- chunk: remainders; the beginning of a row of pieces. -/
import Derived.Test.YtacafjbbdklleaaDoorAx
namespace Go.Proofs.YtacafjbbdklleaaDoor
open Go.RowKit

theorem tmod_small (t : Int) (m : Nat) (hm : 0 < m) : ∃ k : Nat, k < m ∧ ((¬ t.tmod (m : Int) < 0 ∧ t.tmod (m : Int) = (k : Int)) ∨ (t.tmod (m : Int) < 0 ∧ - t.tmod (m : Int) = (k : Int))) := by
  have hm' : (0 : Int) < (m : Int) := by omega
  by_cases ht : 0 ≤ t
  · have h1 : t.tmod (m : Int) = t % (m : Int) := Int.tmod_eq_emod_of_nonneg ht
    have h2 := Int.emod_nonneg t (show (m : Int) ≠ 0 by omega)
    have h3 := Int.emod_lt_of_pos t hm'
    refine ⟨(t % (m : Int)).toNat, by omega, .inl ⟨by rw [h1]; omega, by rw [h1]; omega⟩⟩
  · obtain ⟨y, rfl⟩ : ∃ y : Int, t = - y := ⟨- t, by omega⟩
    have h1 : (- y).tmod (m : Int) = - (y % (m : Int)) := by rw [Int.neg_tmod, Int.tmod_eq_emod_of_nonneg (by omega)]
    have h2 := Int.emod_nonneg y (show (m : Int) ≠ 0 by omega)
    have h3 := Int.emod_lt_of_pos y hm'
    rw [h1]
    by_cases h4 : y % (m : Int) = 0
    · exact ⟨0, hm, .inl ⟨by omega, by omega⟩⟩
    · exact ⟨(y % (m : Int)).toNat, by omega, .inr ⟨by omega, by omega⟩⟩
theorem Fed.begin {id : Int} {n u : Nat} {xs : List UInt8} {s : BSt} (h : s.id < id) (ho : s.Ok) : Fed id n u xs s 0 := .inl ⟨h, ho, rfl⟩
theorem gPc_len (id : Int) (n u : Nat) (xs : List UInt8) (z j : Nat) : (gPc id n u xs z j).data.length ≤ z := by unfold gPc; simp; omega

end Go.Proofs.YtacafjbbdklleaaDoor
