/- Members, slices of ints and of bools that came in, opened: for plain rows. -/
import Derived.Test.YtiinkjplhihdaaaRowG
import Derived.Test.YtiinkjplhihdaaaOf
import Derived.Deep.Grids
namespace Go.Proofs.Ytiinkjplhihdaaa
open Go.ChangeShapes Go.WideShapes Go.ChangeAt Go.RowKit Go.Deep

theorem Try.cellsU8 : Try.prog.cellsOf 5 = 1 := by kernel_rfl
theorem Try.cellsB : Try.prog.cellsOf 4 = 1 := by kernel_rfl
theorem Try.cellsI : Try.prog.cellsOf 3 = 1 := by kernel_rfl
theorem Try.cellsM : Try.prog.cellsOf 23 = 9 := by kernel_rfl

def numOf : Option Value → Int
  | some (.int _ n) => n
  | _ => 0
set_option maxRecDepth 100000 in
/-- MEMBERS THAT CAME IN. -/
theorem open_mem {H : Type} {enc : TypeId × Value → H} {W : World} {base : Nat} {v : Value} {d : DataW H} {ps : List MemPlace} (hval : Value.okWide Try.prog W .any base 23 v) (h : DataW.Trod enc Try.prog W 0 (fun _ => true) true 23 v d ps) :
    ∃ m, v = mv m ∧ ∀ k, 0 ≤ m k ∧ m k < 256 := by
  obtain ⟨cs, rfl, hsz, _⟩ : ∃ cs, v = .agg cs ∧ cs.size = Try.prog.cellsOf 23 ∧ Row.okWide Try.prog W .any base 23 cs := by
    simpa [Value.okWide, Try.underlying23] using hval
  rw [Try.cellsM] at hsz
  obtain ⟨fuel, hf⟩ := h
  obtain ⟨xs, n, _, _, hl, hxl, hat⟩ := DataW.trod_array Try.underlying23 hf
  have key : ∀ k, k < 9 → ∃ z, cs[k]? = some (.int .u8 z) ∧ 0 ≤ z ∧ z ≤ 255 := fun k hk => by
    have h1 := hat k hk
    rw [Try.cellsU8, Nat.mul_one] at h1
    have hx : xs[k]? = some xs[k] := by simp
    rw [hx] at h1
    obtain ⟨z, e, _, hw⟩ := DataW.trod_int Try.underlying5 h1
    have hb := bounds_u8 hw
    refine ⟨z, ?_, hb⟩
    have h2 : ((Value.agg cs).cells.toList.drop k).take 1 = [.int .u8 z] := e
    have h3 : (cs.toList.drop k)[0]? = some (.int .u8 z) := by
      have := congrArg (fun l : List Value => l[0]?) h2
      simpa [Value.cells] using this
    simpa using h3
  refine ⟨fun k => numOf cs[k]?, ?_, fun k => ?_⟩
  · unfold mv
    congr 1
    apply Array.ext_getElem?
    intro k
    by_cases hk : k < 9
    · obtain ⟨z, e, _⟩ := key k hk
      rw [e]
      have hmc := mcs_at (fun k => numOf cs[k]?) k hk
      have e2 : numOf cs[k]? = z := by rw [e]; rfl
      rw [e2] at hmc
      exact hmc.symm
    · rw [Array.getElem?_eq_none (by omega), Array.getElem?_eq_none (by simp; omega)]
  · show 0 ≤ numOf cs[k]? ∧ numOf cs[k]? < 256
    by_cases hk : k < 9
    · obtain ⟨z, e, h0, h1⟩ := key k hk
      rw [e]
      exact ⟨h0, by show z < 256; omega⟩
    · rw [Array.getElem?_eq_none (by omega)]
      exact ⟨by decide, by decide⟩

set_option maxRecDepth 100000 in
/-- A SLICE OF INTS THAT CAME IN. -/
theorem open_int1 {H : Type} {enc : TypeId × Value → H} {W : World} {base : Nat} {v : Value} {d : DataW H} {ps : List MemPlace} (hval : Value.okWide Try.prog W .any base 25 v) (h : DataW.Trod enc Try.prog W 0 (fun _ => true) true 25 v d ps) :
    ∃ (A : Option Addr) (n c : Nat) (t : Nat → Int), v = .slice A n c ∧ RdF W A n (fun j => .int .i64 (t j)) ∧ (n : Int) ≤ 9223372036854775807 := by
  obtain ⟨A, n, c, rfl⟩ := okWide_slice Try.underlying25 hval
  obtain ⟨fuel, hf⟩ := h
  rcases open_ints Try.underlying25 Try.underlying3 Try.cellsI hf with ⟨hcs, hx⟩ | ⟨a, len', cap', zs, hcs, _, hl, hm, hz, hx, hcell, hwz⟩
  · simp [Value.cells] at hcs
    obtain ⟨rfl, rfl, rfl⟩ := hcs
    exact ⟨none, 0, 0, fun _ => 0, rfl, RdF.zero _, by omega⟩
  · simp [Value.cells] at hcs
    obtain ⟨rfl, rfl, rfl⟩ := hcs
    unfold maxLen at hm
    simp only [if_true] at hz
    refine ⟨some a, n, c, fun j => zs.getD j 0, rfl, fun h0 => ?_, by omega⟩
    obtain ⟨b, o, sp⟩ := a
    have hsp0 : sp = none := by
      have := World.cell?_spot (hcell 0 (by omega))
      simpa [Addr.add] using this
    subst hsp0
    refine ⟨b, o, rfl, fun j hj => ?_⟩
    have h1 := hcell j (by omega)
    rw [add_at] at h1
    exact h1

set_option maxRecDepth 100000 in
/-- A SLICE OF BOOLS THAT CAME IN. -/
theorem open_bool1 {H : Type} {enc : TypeId × Value → H} {W : World} {base : Nat} {v : Value} {d : DataW H} {ps : List MemPlace} (hval : Value.okWide Try.prog W .any base 24 v) (h : DataW.Trod enc Try.prog W 0 (fun _ => true) true 24 v d ps) :
    ∃ (A : Option Addr) (n c : Nat) (y : Nat → Bool), v = .slice A n c ∧ RdF W A n (fun j => .bool (y j)) ∧ (n : Int) ≤ 9223372036854775807 := by
  obtain ⟨A, n, c, rfl⟩ := okWide_slice Try.underlying24 hval
  obtain ⟨fuel, hf⟩ := h
  rcases open_bools Try.underlying24 Try.underlying4 Try.cellsB hf with ⟨hcs, hx⟩ | ⟨a, len', cap', B, hcs, _, hl, hm, hx, hcell⟩
  · simp [Value.cells] at hcs
    obtain ⟨rfl, rfl, rfl⟩ := hcs
    exact ⟨none, 0, 0, fun _ => false, rfl, RdF.zero _, by omega⟩
  · simp [Value.cells] at hcs
    obtain ⟨rfl, rfl, rfl⟩ := hcs
    unfold maxLen at hm
    refine ⟨some a, n, c, B, rfl, fun h0 => ?_, by omega⟩
    obtain ⟨b, o, sp⟩ := a
    have hsp0 : sp = none := by
      have := World.cell?_spot (hcell 0 (by omega))
      simpa [Addr.add] using this
    subst hsp0
    refine ⟨b, o, rfl, fun j hj => ?_⟩
    have h1 := hcell j (by omega)
    rw [add_at] at h1
    exact h1
set_option maxRecDepth 100000 in
/-- A SLICE OF BYTES THAT CAME IN. -/
theorem open_byte1 {H : Type} {enc : TypeId × Value → H} {W : World} {base : Nat} {v : Value} {d : DataW H} {ps : List MemPlace} (hval : Value.okWide Try.prog W .any base 26 v) (h : DataW.Trod enc Try.prog W 0 (fun _ => true) true 26 v d ps) :
    ∃ (A : Option Addr) (n c : Nat) (t : Nat → Int), v = .slice A n c ∧ RdF W A n (fun j => .int .u8 (t j)) ∧ (n : Int) ≤ 9223372036854775807 ∧ ∀ k, 0 ≤ t k ∧ t k < 256 := by
  obtain ⟨A, n, c, rfl⟩ := okWide_slice Try.underlying26 hval
  obtain ⟨fuel, hf⟩ := h
  rcases open_ints Try.underlying26 Try.underlying5 Try.cellsU8 hf with ⟨hcs, hx⟩ | ⟨a, len', cap', zs, hcs, _, hl, hm, hz, hx, hcell, hwz⟩
  · simp [Value.cells] at hcs
    obtain ⟨rfl, rfl, rfl⟩ := hcs
    exact ⟨none, 0, 0, fun _ => 0, rfl, RdF.zero _, by omega, fun _ => by show (0 : Int) ≤ 0 ∧ (0 : Int) < 256; omega⟩
  · simp [Value.cells] at hcs
    obtain ⟨rfl, rfl, rfl⟩ := hcs
    unfold maxLen at hm
    simp only [if_true] at hz
    refine ⟨some a, n, c, fun j => zs.getD j 0, rfl, fun h0 => ?_, by omega, fun k => ?_⟩
    rotate_left
    · show 0 ≤ zs.getD k 0 ∧ zs.getD k 0 < 256
      by_cases hk : k < zs.length
      · have := bounds_u8 (hwz (zs.getD k 0) (by simp [List.getD, hk]))
        omega
      · have e : zs.getD k 0 = 0 := by simp [List.getD, hk]
        rw [e]; omega
    obtain ⟨b, o, sp⟩ := a
    have hsp0 : sp = none := by
      have := World.cell?_spot (hcell 0 (by omega))
      simpa [Addr.add] using this
    subst hsp0
    refine ⟨b, o, rfl, fun j hj => ?_⟩
    have h1 := hcell j (by omega)
    rw [add_at] at h1
    exact h1

end Go.Proofs.Ytiinkjplhihdaaa
