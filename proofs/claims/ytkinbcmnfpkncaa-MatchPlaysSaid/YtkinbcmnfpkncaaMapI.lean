/- Maps of ints that a call owns. -/
import Derived.Test.YtkinbcmnfpkncaaMem
import Derived.Test.YtkinbcmnfpkncaaChecked
import Derived.Maps.OwnOps
import Derived.Maps.OwnSet
import Derived.Maps.RangeWalk
namespace Go.Proofs.Ytkinbcmnfpkncaa
open Go.RowKit Go.Maps

theorem kInt : Keyed Try.prog 3 := int_keyed Try.underlying3
theorem zeroInt (w : World) : (zeroValue 3).run Try.prog w = .ok (.int .i64 0) w := by kernel_rfl
/-- A number that an int holds. -/
def I64 (x : Int) : Prop := -9223372036854775808 ≤ x ∧ x ≤ 9223372036854775807
theorem I64.wf {x : Int} (h : I64 x) : (Lit.int .i64 x).wf = true := by
  have h1 := h.1
  have h2 := h.2
  exact WalkArith.wf_i64 (by omega)
theorem I64.key {x : Int} (h : I64 x) : keyOf Try.prog 3 (.int .i64 x) = some (.int .i64 x) := keyOf_int_mk Try.underlying3 h.wf

/-- Block b is a map of ints, of at most n entries, that reads as D. -/
def AM (w : World) (b n : Nat) (D : DataW Unit) : Prop := w.ownsMap Try.prog 3 (plainElem Try.prog 3) b n D
theorem AM.fr {S : Nat → Prop} {w w' : World} {b n : Nat} {D : DataW Unit} (h : AM w b n D) (hf : Fr S w w') (hb : ¬ S b) : AM w' b n D := by
  obtain ⟨es, clock, h1, h2⟩ := h
  exact ⟨es, clock, (hf.block b (World.ownsMap.lt ⟨es, clock, h1, h2⟩) hb).trans h1, h2⟩
theorem AM.lt {w : World} {b n : Nat} {D : DataW Unit} (h : AM w b n D) : b < w.heap.size := World.ownsMap.lt h
theorem AM.ne {w : World} {b n g : Nat} {t : TypeId} {cs : Array Value} {D : DataW Unit} (h : AM w b n D) (hg : Bk w g t cs) : g ≠ b := by
  rintro rfl
  obtain ⟨es, clock, h1, _⟩ := h
  unfold Bk at hg
  rw [hg] at h1
  cases h1
theorem Fr.of_turned {w w' : World} {b : Nat} (h : w.mapTurned w' b) : Fr (fun k => k = b) w w' := (Fr.of_grown h.grown).mono (fun _ _ e => (Option.some.inj e).symm)

end Go.Proofs.Ytkinbcmnfpkncaa
