/- errors.As, at an Errno and a *Errno. -/
import Derived.Test.YtbopmboigcdjpaaDoorCg
namespace Go.Proofs.YtbopmboigcdjpaaDoor
open Go.RowKit Go.Extern.Stop Go.Stop Go.Extern

def hdl (t : TypeId) : Value := .pointer (some ⟨5, t, none⟩)

theorem Tryd.asMethodKind (h : Value) (w : World) : (Go.method (179 + 100) 99 (.agg #[h]) "Kind").run Tryd.prog w = .ok (106, h) w := by kernel_rfl
theorem Tryd.asKindN (w : World) : (callFunc 106 #[.pointer (some ⟨5, 43, none⟩)]).run Tryd.prog w = .ok (.value (.int .u8 2)) w := by kernel_rfl
theorem Tryd.asMethodElem (h : Value) (w : World) : (Go.method (179 + 100) 99 (.agg #[h]) "Elem").run Tryd.prog w = .ok (117, .agg #[h]) w := by kernel_rfl
theorem Tryd.asMethodImplements (h : Value) (w : World) : (Go.method (179 + 100) 99 (.agg #[h]) "Implements").run Tryd.prog w = .ok (118, .agg #[h]) w := by kernel_rfl
theorem Tryd.asMethodAssignable (h : Value) (w : World) : (Go.method (179 + 100) 99 (.agg #[h]) "AssignableTo").run Tryd.prog w = .ok (115, .agg #[h]) w := by kernel_rfl
theorem Tryd.asImplementsN (w : World) : (callFunc 118 #[.agg #[.pointer (some ⟨5, 43, none⟩)], .iface 99 (.agg #[.pointer (some ⟨5, 28, none⟩)])]).run Tryd.prog w = .ok (.value (.bool true)) w := by kernel_rfl
theorem Tryd.asAssignableN (w : World) : (callFunc 115 #[.agg #[.pointer (some ⟨5, 43, none⟩)], .iface 99 (.agg #[.pointer (some ⟨5, 43, none⟩)])]).run Tryd.prog w = .ok (.value (.bool true)) w := by kernel_rfl
theorem Tryd.asValueOfN (k : Int) (w : World) : (callFunc 36 #[.iface 43 (.int .i64 k)]).run Tryd.prog w
    = .ok (.value (.agg #[.pointer (some ⟨5, 43, none⟩), .pointer (some ⟨w.heap.size, 0, none⟩), .int .u64 130])) (w.alloc (.cells #[.int .i64 k] 43)) := by kernel_rfl

theorem Tryd.asPartsN (a : Addr) (w : World) : (ReflectliteValue.parts (.agg #[.pointer (some ⟨5, 43, none⟩), .pointer (some a), .int .u64 386])).run Tryd.prog w = .ok (some (43, a, 386)) w := by kernel_rfl
theorem Tryd.asPartsM (a : Addr) (w : World) : (ReflectliteValue.parts (.agg #[.pointer (some ⟨5, 43, none⟩), .pointer (some a), .int .u64 130])).run Tryd.prog w = .ok (some (43, a, 130)) w := by kernel_rfl
theorem Tryd.asMk (p : Addr) (w : World) : (ReflectliteValue.mk 43 p ReflectliteValue.flagAddr).run Tryd.prog w = .ok (.agg #[.pointer (some ⟨5, 43, none⟩), .pointer (some p), .int .u64 386]) w := by kernel_rfl
theorem Tryd.asDirect (w : World) : (Rtype.directlyAssignable 43 43).run Tryd.prog w = .ok true w := by kernel_rfl

theorem Tryd.asSet (ta b : Addr) (k : Int) (old : Value) (W : World) (hb : W.cell? b = some (.int .i64 k)) (ht : W.cell? ta = some old) (hf : W.frozen? ta = false) :
    (callFunc 56 #[.agg #[.pointer (some ⟨5, 43, none⟩), .pointer (some ta), .int .u64 386], .agg #[.pointer (some ⟨5, 43, none⟩), .pointer (some b), .int .u64 130]]).run Tryd.prog W
      = .ok (.value (.tuple #[])) (W.setCell ta (.int .i64 k)) := by
  rw [@run_callFunc_extern Tryd.prog 56 _ ReflectliteValue.set Tryd.func56 (by kernel_rfl) (by kernel_rfl) (by kernel_rfl) (by kernel_rfl)]
  change (Sem.run _ (ReflectliteValue.parts (.agg #[.pointer (some ⟨5, 43, none⟩), .pointer (some ta), .int .u64 386]) >>= fun _ => ReflectliteValue.parts (.agg #[.pointer (some ⟨5, 43, none⟩), .pointer (some b), .int .u64 130]) >>= fun _ => _) _).andThen _ = _
  simp only [Sem.run_bind, Tryd.asPartsN, Tryd.asPartsM, Result.andThen]
  simp [ReflectliteValue.flagAddr, loadVar, isAgg, underlying, Tryd.underlying43, hb, Result.andThen, Tryd.asDirect, storeVar, Value.cells, storeCells, Addr.add]
  rw [run_store Tryd.prog W ta _ _ (by rfl)]
  simp [ht, hf]
end Go.Proofs.YtbopmboigcdjpaaDoor
