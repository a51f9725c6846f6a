/- errors.As, the walk; what a step of a reader panicked with. -/
import Derived.Test.YtbopmboigcdjpaaDoorCh
namespace Go.Proofs.YtbopmboigcdjpaaDoor
open Go.RowKit Go.Extern.Stop Go.Stop Go.Extern

/-- The library's variable holds what it must. -/
def ErrT (w : World) : Prop := w.cell? ⟨0, 0, none⟩ = some (.iface 99 (.agg #[.pointer (some ⟨5, 28, none⟩)]))
theorem ErrT.fr {S : Nat → Prop} {w w' : World} (h : ErrT w) (hb : Fr S w w') (hS : ¬ S 0) : ErrT w' :=
  (hb.cell (p := ⟨0, 0, none⟩) (World.block_lt_of_cell? w _ h) hS).trans h

theorem Tryd.errorHas (v : Value) (xT : TypeId) (w : World) : (Instr.typeAssert (.iface 43 v) xT 28 true).run Tryd.prog w = .ok (.tuple #[.iface 43 v, .bool true]) w := run_typeAssert_hasB Tryd.underlying28 (by kernel_rfl) v xT w

end Go.Proofs.YtbopmboigcdjpaaDoor
