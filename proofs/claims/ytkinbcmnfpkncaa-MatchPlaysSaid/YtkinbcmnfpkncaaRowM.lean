/- A slice of ints that came in, opened: for plain rows (match). -/
import Derived.Test.YtkinbcmnfpkncaaRowG
import Derived.Test.YtkinbcmnfpkncaaRg
import Derived.Deep.Grids
namespace Go.Proofs.Ytkinbcmnfpkncaa
open Go.ChangeShapes Go.WideShapes Go.ChangeAt Go.RowKit Go.Deep

theorem Try.cellsI : Try.prog.cellsOf 3 = 1 := by kernel_rfl
set_option maxRecDepth 100000 in
/-- A SLICE OF INTS THAT CAME IN. -/
theorem open_ints1 {H : Type} {enc : TypeId × Value → H} {W : World} {base : Nat} {v : Value} {d : DataW H} {ps : List MemPlace} (hval : Value.okWide Try.prog W .any base 43 v) (h : DataW.Trod enc Try.prog W 0 (fun _ => true) true 43 v d ps) :
    ∃ A n c xs, v = .slice A n c ∧ RdI W A xs ∧ xs.length = n ∧ n ≤ c ∧ (c : Int) ≤ 9223372036854775807 ∧ (∀ x ∈ xs, I64 x) ∧ (∀ ad, A = some ad → 0 < n → ad.block < W.heap.size) := by
  obtain ⟨A, n, c, rfl⟩ := okWide_slice Try.underlying43 hval
  obtain ⟨fuel, hf⟩ := h
  rcases open_ints Try.underlying43 Try.underlying3 Try.cellsI hf with ⟨hcs, hx⟩ | ⟨a, len', cap', zs, hcs, _, hl, hm, hz, hx, hcell, hwz⟩
  · simp [Value.cells] at hcs
    obtain ⟨rfl, rfl, rfl⟩ := hcs
    exact ⟨none, 0, 0, [], rfl, (fun h => absurd h (by simp)), rfl, Nat.le_refl _, by omega, (fun x h => absurd h (by simp)), (fun ad e => by cases e)⟩
  · simp [Value.cells] at hcs
    obtain ⟨rfl, rfl, rfl⟩ := hcs
    unfold maxLen at hm
    simp only [if_true] at hz
    have hcl : ∀ j, (hj : j < n) → (a.spot = none ∧ W.cell? ⟨a.block, a.off + j, none⟩ = some (.int .i64 ((zs.take n)[j]'(by simp; omega)))) := by
      intro j hj
      have h0 := hcell j (by omega)
      obtain ⟨b, o, sp⟩ := a
      have hsp0 : sp = none := by
        have := World.cell?_spot (hcell 0 (by omega))
        simpa [Addr.add] using this
      subst hsp0
      refine ⟨rfl, ?_⟩
      rw [add_at] at h0
      rw [h0]
      congr 2
      simp [List.getD, show j < zs.length by omega]
    refine ⟨some a, n, c, zs.take n, rfl, fun h0 => ⟨a, rfl, ?_, fun j hj => ?_⟩, by simp; omega, hl, by omega, fun x hx => ?_, fun ad e h0 => ?_⟩
    · simp at h0; exact (hcl 0 (by omega)).1
    · simp at hj
      exact (hcl j (by omega)).2
    · have := bounds_i64 (hwz x (List.mem_of_mem_take hx))
      exact ⟨this.1, this.2⟩
    · injection e with e
      subst e
      exact World.block_lt_of_cell? W ⟨a.block, a.off + 0, none⟩ (hcl 0 h0).2
end Go.Proofs.Ytkinbcmnfpkncaa
