/- Five listed variables: what they hold; a world in which they do. -/
import Derived.Test.YtacafjbbdklleaaDoorRow
import Derived.Test.YtacafjbbdklleaaDoorFc
import Derived.Test.YtacafjbbdklleaaDoorCards
import Derived.Test.YtacafjbbdklleaaDoorTie
namespace Go.Proofs.YtacafjbbdklleaaDoor
open Go.ChangeShapes Go.WideShapes Go.ChangeAt Go.RowKit

theorem Tryd.gPowType : (Tryd.prog.globals[2]?).map (·.type) = some 131 := by kernel_rfl
theorem Tryd.cellsPow : Tryd.prog.cellsOf 131 = 20 := by kernel_rfl
theorem Tryd.cellsU64 : Tryd.prog.cellsOf 105 = 1 := by kernel_rfl
theorem pow_data : (Rows.laid_internal_strconv_uint64pow10 : DataW Unit) = Lib.tabData .u64 Lib.pow10Tab := by kernel_rfl
theorem pow_of_laid {W : World} {l : List (String × DataW Unit)} (h : laidMet Tryd.prog l W) (hm : ("internal/strconv.uint64pow10", (Rows.laid_internal_strconv_uint64pow10 : DataW Unit)) ∈ l) : PowT W := by
  obtain ⟨ps, hl, _, _⟩ := h
  obtain ⟨g, t, cs, fuel, p, h1, h2, h3, h4⟩ := laid_mem hl hm
  obtain rfl := Option.some.inj (Tryd.gPow.symm.trans h1)
  obtain rfl := Option.some.inj (Tryd.gPowType.symm.trans h2)
  rw [pow_data] at h4
  unfold PowT Lib.TabIs
  rw [h3, ← Lib.cells_of_tab Tryd.underlying131 Tryd.underlying105 Tryd.cellsU64 Tryd.cellsPow h4]
def five : List (String × DataW Unit) := [("math/bits.deBruijn32tab", Rows.laid_math_bits_deBruijn32tab), ("math/bits.deBruijn64tab", Rows.laid_math_bits_deBruijn64tab), ("internal/strconv.uint64pow10", Rows.laid_internal_strconv_uint64pow10), ("errors.errorType", Rows.laid_errors_errorType), ("teasel/codec.halves", Rows.laid_teasel_codec_halves)]
theorem met_of_laid {W : World} (h : laidMetH Tryd.prog five W) : Tab W ∧ ErrT W ∧ PowT W := by
  have h' : laidMet Tryd.prog [("math/bits.deBruijn32tab", Rows.laid_math_bits_deBruijn32tab), ("math/bits.deBruijn64tab", Rows.laid_math_bits_deBruijn64tab), ("internal/strconv.uint64pow10", Rows.laid_internal_strconv_uint64pow10), ("teasel/codec.halves", Rows.laid_teasel_codec_halves)] W ∧ handlesMet Tryd.prog [("errors.errorType", Rows.laid_errors_errorType)] W := h
  exact ⟨tab_of_laid h'.1 (List.mem_cons_of_mem _ (List.mem_cons_of_mem _ (List.mem_cons_of_mem _ (List.mem_cons_self ..)))), errT_of_laid h'.2 (List.mem_cons_self ..), pow_of_laid h'.1 (List.mem_cons_of_mem _ (List.mem_cons_of_mem _ (List.mem_cons_self ..)))⟩
def listOf : DataW Unit → List Value
  | .agg ds => ds.map fun d => match d with | .lit (.int k n) => .int k n | _ => undef
  | _ => []
/-- A WORLD FOR THE WITNESS: the settled one, the five variables holding what they must. -/
noncomputable def laidWorld (os : Os) : World :=
  let w0 := World.holding Tryd.prog os ⟨#[], #[], []⟩
  let put (d : DataW Unit) (o : Obj) : Obj := match o with | .cells _ t frozen => .cells (listOf d).toArray t frozen | o => o
  { w0 with heap := ((((w0.heap.modify 1 (put Rows.laid_teasel_codec_halves)).modify 2 (put Rows.laid_internal_strconv_uint64pow10)).modify 3 (put Rows.laid_math_bits_deBruijn32tab)).modify 4 (put Rows.laid_math_bits_deBruijn64tab)).modify 0 fun
      | .cells _ t frozen => .cells #[.iface 108 (.agg #[.pointer (some ⟨5, 26, none⟩)])] t frozen
      | o => o }
end Go.Proofs.YtacafjbbdklleaaDoor
