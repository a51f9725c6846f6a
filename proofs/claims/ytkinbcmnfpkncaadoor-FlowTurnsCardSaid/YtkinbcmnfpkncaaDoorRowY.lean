/- A slice of bools that came in, opened (FlowTurns). -/
import Derived.Test.YtkinbcmnfpkncaaDoorRowL
import Derived.Test.YtkinbcmnfpkncaaDoorX1
import Derived.Deep.Grids
namespace Go.Proofs.YtkinbcmnfpkncaaDoor
open Go.ChangeShapes Go.WideShapes Go.ChangeAt Go.RowKit Go.Deep

theorem Tryd.cellsB : Tryd.prog.cellsOf 4 = 1 := by kernel_rfl
set_option maxRecDepth 100000 in
/-- A SLICE OF BOOLS THAT CAME IN. -/
theorem open_bools1 {H : Type} {enc : TypeId × Value → H} {W : World} {base : Nat} {v : Value} {d : DataW H} {ps : List MemPlace} (hval : Value.okWide Tryd.prog W .any base 56 v) (h : DataW.Trod enc Tryd.prog W 0 (fun _ => true) true 56 v d ps) :
    ∃ A n c xs, v = .slice A n c ∧ RdB W A xs ∧ xs.length = n ∧ n ≤ c ∧ (c : Int) ≤ 9223372036854775807 ∧ (∀ ad, A = some ad → 0 < n → ad.block < W.heap.size) := by
  obtain ⟨A, n, c, rfl⟩ := okWide_slice Tryd.underlying56 hval
  obtain ⟨fuel, hf⟩ := h
  rcases open_bools Tryd.underlying56 Tryd.underlying4 Tryd.cellsB hf with ⟨hcs, hx⟩ | ⟨a, len', cap', B, hcs, _, hl, hm, hx, hcell⟩
  · simp [Value.cells] at hcs
    obtain ⟨rfl, rfl, rfl⟩ := hcs
    exact ⟨none, 0, 0, [], rfl, (fun h => absurd h (by simp)), rfl, Nat.le_refl _, by omega, fun ad e => by cases e⟩
  · simp [Value.cells] at hcs
    obtain ⟨rfl, rfl, rfl⟩ := hcs
    unfold maxLen at hm
    have hcl : ∀ j, j < n → (a.spot = none ∧ W.cell? ⟨a.block, a.off + j, none⟩ = some (.bool (B j))) := by
      intro j hj
      have h0 := hcell j (by omega)
      obtain ⟨b, o, sp⟩ := a
      have hsp0 : sp = none := by
        have := World.cell?_spot (hcell 0 (by omega))
        simpa [Addr.add] using this
      subst hsp0
      refine ⟨rfl, ?_⟩
      rw [add_at] at h0
      exact h0
    refine ⟨some a, n, c, (List.range n).map B, rfl, fun h0 => ⟨a, rfl, ?_, fun j hj => ?_⟩, by simp, hl, by omega, fun ad e h0 => ?_⟩
    · simp at h0; exact (hcl 0 (by omega)).1
    · simp at hj
      have := (hcl j (by omega)).2
      simpa using this
    · injection e with e
      subst e
      exact World.block_lt_of_cell? W ⟨a.block, a.off + 0, none⟩ (hcl 0 h0).2
end Go.Proofs.YtkinbcmnfpkncaaDoor
