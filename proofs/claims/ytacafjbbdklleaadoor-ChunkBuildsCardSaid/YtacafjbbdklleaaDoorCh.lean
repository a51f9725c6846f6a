/- errors.As, at an Errno and a *Errno. -/
import Derived.Test.YtacafjbbdklleaaDoorCg
namespace Go.Proofs.YtacafjbbdklleaaDoor
open Go.RowKit Go.Extern.Stop Go.Stop Go.Extern

def hdl (t : TypeId) : Value := .pointer (some ⟨5, t, none⟩)

theorem Tryd.asValueOfP (t : Addr) (w : World) : (callFunc 37 #[.iface 85 (.pointer (some t))]).run Tryd.prog w
    = .ok (.value (.agg #[.pointer (some ⟨5, 85, none⟩), .pointer (some ⟨w.heap.size, 0, none⟩), .int .u64 150])) (w.alloc (.cells #[.pointer (some t)] 85)) := by kernel_rfl
theorem Tryd.asTypeP (a : Addr) (w : World) : (callFunc 38 #[.agg #[.pointer (some ⟨5, 85, none⟩), .pointer (some a), .int .u64 150]]).run Tryd.prog w
    = .ok (.value (.iface 108 (.agg #[.pointer (some ⟨5, 85, none⟩)]))) w := by kernel_rfl
theorem Tryd.asMethodKind (h : Value) (w : World) : (Go.method (166 + 100) 108 (.agg #[h]) "Kind").run Tryd.prog w = .ok (75, h) w := by kernel_rfl
theorem Tryd.asKindP (w : World) : (callFunc 75 #[.pointer (some ⟨5, 85, none⟩)]).run Tryd.prog w = .ok (.value (.int .u8 22)) w := by kernel_rfl
theorem Tryd.asKindN (w : World) : (callFunc 75 #[.pointer (some ⟨5, 63, none⟩)]).run Tryd.prog w = .ok (.value (.int .u8 2)) w := by kernel_rfl
theorem Tryd.asMethodElem (h : Value) (w : World) : (Go.method (166 + 100) 108 (.agg #[h]) "Elem").run Tryd.prog w = .ok (86, .agg #[h]) w := by kernel_rfl
theorem Tryd.asMethodImplements (h : Value) (w : World) : (Go.method (166 + 100) 108 (.agg #[h]) "Implements").run Tryd.prog w = .ok (87, .agg #[h]) w := by kernel_rfl
theorem Tryd.asMethodAssignable (h : Value) (w : World) : (Go.method (166 + 100) 108 (.agg #[h]) "AssignableTo").run Tryd.prog w = .ok (84, .agg #[h]) w := by kernel_rfl
theorem Tryd.asElemP (w : World) : (callFunc 86 #[.agg #[.pointer (some ⟨5, 85, none⟩)]]).run Tryd.prog w = .ok (.value (.iface 108 (.agg #[.pointer (some ⟨5, 63, none⟩)]))) w := by kernel_rfl
theorem Tryd.asImplementsN (w : World) : (callFunc 87 #[.agg #[.pointer (some ⟨5, 63, none⟩)], .iface 108 (.agg #[.pointer (some ⟨5, 26, none⟩)])]).run Tryd.prog w = .ok (.value (.bool true)) w := by kernel_rfl
theorem Tryd.asAssignableN (w : World) : (callFunc 84 #[.agg #[.pointer (some ⟨5, 63, none⟩)], .iface 108 (.agg #[.pointer (some ⟨5, 63, none⟩)])]).run Tryd.prog w = .ok (.value (.bool true)) w := by kernel_rfl
theorem Tryd.asValueOfN (k : Int) (w : World) : (callFunc 37 #[.iface 63 (.int .i64 k)]).run Tryd.prog w
    = .ok (.value (.agg #[.pointer (some ⟨5, 63, none⟩), .pointer (some ⟨w.heap.size, 0, none⟩), .int .u64 130])) (w.alloc (.cells #[.int .i64 k] 63)) := by kernel_rfl

theorem Tryd.asPartsP (a : Addr) (w : World) : (ReflectliteValue.parts (.agg #[.pointer (some ⟨5, 85, none⟩), .pointer (some a), .int .u64 150])).run Tryd.prog w = .ok (some (85, a, 150)) w := by kernel_rfl
theorem Tryd.asPartsN (a : Addr) (w : World) : (ReflectliteValue.parts (.agg #[.pointer (some ⟨5, 63, none⟩), .pointer (some a), .int .u64 386])).run Tryd.prog w = .ok (some (63, a, 386)) w := by kernel_rfl
theorem Tryd.asPartsM (a : Addr) (w : World) : (ReflectliteValue.parts (.agg #[.pointer (some ⟨5, 63, none⟩), .pointer (some a), .int .u64 130])).run Tryd.prog w = .ok (some (63, a, 130)) w := by kernel_rfl
theorem Tryd.asElemOf (w : World) : (Rtype.elem? 85).run Tryd.prog w = .ok (some 63) w := by kernel_rfl
theorem Tryd.asMk (p : Addr) (w : World) : (ReflectliteValue.mk 63 p ReflectliteValue.flagAddr).run Tryd.prog w = .ok (.agg #[.pointer (some ⟨5, 63, none⟩), .pointer (some p), .int .u64 386]) w := by kernel_rfl
theorem Tryd.asDirect (w : World) : (Rtype.directlyAssignable 63 63).run Tryd.prog w = .ok true w := by kernel_rfl

theorem Tryd.asIsNil (a p : Addr) (W : World) (ha : W.cell? a = some (.pointer (some p))) :
    (callFunc 39 #[.agg #[.pointer (some ⟨5, 85, none⟩), .pointer (some a), .int .u64 150]]).run Tryd.prog W = .ok (.value (.bool false)) W := by
  rw [@run_callFunc_extern Tryd.prog 39 _ (ReflectliteValue.method (ReflectliteValue.valueError "reflectlite.Value.IsNil" 0) ReflectliteValue.isNil) Tryd.func39 (by kernel_rfl) (by kernel_rfl) (by kernel_rfl) (by kernel_rfl)]
  change (Sem.run _ (ReflectliteValue.parts (.agg #[.pointer (some ⟨5, 85, none⟩), .pointer (some a), .int .u64 150]) >>= _) _).andThen _ = _
  simp only [Sem.run_bind, Tryd.asPartsP, Result.andThen]
  simp [ReflectliteValue.isNil, loadVar, isAgg, underlying, Tryd.underlying85, ha, Result.andThen]
theorem Tryd.asElemV (a p : Addr) (W : World) (ha : W.cell? a = some (.pointer (some p))) :
    (callFunc 46 #[.agg #[.pointer (some ⟨5, 85, none⟩), .pointer (some a), .int .u64 150]]).run Tryd.prog W = .ok (.value (.agg #[.pointer (some ⟨5, 63, none⟩), .pointer (some p), .int .u64 386])) W := by
  rw [@run_callFunc_extern Tryd.prog 46 _ (ReflectliteValue.method (ReflectliteValue.valueError "reflectlite.Value.Elem" 0) ReflectliteValue.elem) Tryd.func46 (by kernel_rfl) (by kernel_rfl) (by kernel_rfl) (by kernel_rfl)]
  change (Sem.run _ (ReflectliteValue.parts (.agg #[.pointer (some ⟨5, 85, none⟩), .pointer (some a), .int .u64 150]) >>= _) _).andThen _ = _
  simp only [Sem.run_bind, Tryd.asPartsP, Result.andThen]
  simp [ReflectliteValue.elem, loadVar, isAgg, underlying, Tryd.underlying85, ha, Result.andThen, Tryd.asElemOf, Tryd.asMk]
theorem Tryd.asSet (ta b : Addr) (k : Int) (old : Value) (W : World) (hb : W.cell? b = some (.int .i64 k)) (ht : W.cell? ta = some old) (hf : W.frozen? ta = false) :
    (callFunc 47 #[.agg #[.pointer (some ⟨5, 63, none⟩), .pointer (some ta), .int .u64 386], .agg #[.pointer (some ⟨5, 63, none⟩), .pointer (some b), .int .u64 130]]).run Tryd.prog W
      = .ok (.value (.tuple #[])) (W.setCell ta (.int .i64 k)) := by
  rw [@run_callFunc_extern Tryd.prog 47 _ ReflectliteValue.set Tryd.func47 (by kernel_rfl) (by kernel_rfl) (by kernel_rfl) (by kernel_rfl)]
  change (Sem.run _ (ReflectliteValue.parts (.agg #[.pointer (some ⟨5, 63, none⟩), .pointer (some ta), .int .u64 386]) >>= fun _ => ReflectliteValue.parts (.agg #[.pointer (some ⟨5, 63, none⟩), .pointer (some b), .int .u64 130]) >>= fun _ => _) _).andThen _ = _
  simp only [Sem.run_bind, Tryd.asPartsN, Tryd.asPartsM, Result.andThen]
  simp [ReflectliteValue.flagAddr, loadVar, isAgg, underlying, Tryd.underlying63, hb, Result.andThen, Tryd.asDirect, storeVar, Value.cells, storeCells, Addr.add]
  rw [run_store Tryd.prog W ta _ _ (by rfl)]
  simp [ht, hf]
end Go.Proofs.YtacafjbbdklleaaDoor
