/- errors.As, at a *Broken and a **Broken. -/
import Derived.Test.YtacafjbbdklleaaDoorAg
import Derived.Test.YtacafjbbdklleaaDoorFa
namespace Go.Proofs.YtacafjbbdklleaaDoor
open Go.RowKit Go.Extern.Stop Go.Stop Go.Extern

theorem Tryd.abTypeOf (v : Value) (w : World) : (callFunc 41 #[.iface 67 v]).run Tryd.prog w = .ok (.value (.iface 108 (.agg #[.pointer (some ⟨5, 67, none⟩)]))) w := by kernel_rfl
theorem Tryd.abValueOfP (t : Addr) (w : World) : (callFunc 37 #[.iface 69 (.pointer (some t))]).run Tryd.prog w
    = .ok (.value (.agg #[.pointer (some ⟨5, 69, none⟩), .pointer (some ⟨w.heap.size, 0, none⟩), .int .u64 150])) (w.alloc (.cells #[.pointer (some t)] 69)) := by kernel_rfl
theorem Tryd.abTypeP (a : Addr) (w : World) : (callFunc 38 #[.agg #[.pointer (some ⟨5, 69, none⟩), .pointer (some a), .int .u64 150]]).run Tryd.prog w
    = .ok (.value (.iface 108 (.agg #[.pointer (some ⟨5, 69, none⟩)]))) w := by kernel_rfl
theorem Tryd.abKindP (w : World) : (callFunc 75 #[.pointer (some ⟨5, 69, none⟩)]).run Tryd.prog w = .ok (.value (.int .u8 22)) w := by kernel_rfl
theorem Tryd.abKindN (w : World) : (callFunc 75 #[.pointer (some ⟨5, 67, none⟩)]).run Tryd.prog w = .ok (.value (.int .u8 22)) w := by kernel_rfl
theorem Tryd.abElemP (w : World) : (callFunc 86 #[.agg #[.pointer (some ⟨5, 69, none⟩)]]).run Tryd.prog w = .ok (.value (.iface 108 (.agg #[.pointer (some ⟨5, 67, none⟩)]))) w := by kernel_rfl
theorem Tryd.abImplementsN (w : World) : (callFunc 87 #[.agg #[.pointer (some ⟨5, 67, none⟩)], .iface 108 (.agg #[.pointer (some ⟨5, 26, none⟩)])]).run Tryd.prog w = .ok (.value (.bool true)) w := by kernel_rfl
theorem Tryd.abAssignableN (w : World) : (callFunc 84 #[.agg #[.pointer (some ⟨5, 67, none⟩)], .iface 108 (.agg #[.pointer (some ⟨5, 67, none⟩)])]).run Tryd.prog w = .ok (.value (.bool true)) w := by kernel_rfl
theorem Tryd.abValueOfN (k : Addr) (w : World) : (callFunc 37 #[.iface 67 (.pointer (some k))]).run Tryd.prog w
    = .ok (.value (.agg #[.pointer (some ⟨5, 67, none⟩), .pointer (some ⟨w.heap.size, 0, none⟩), .int .u64 150])) (w.alloc (.cells #[.pointer (some k)] 67)) := by kernel_rfl

theorem Tryd.abPartsP (a : Addr) (w : World) : (ReflectliteValue.parts (.agg #[.pointer (some ⟨5, 69, none⟩), .pointer (some a), .int .u64 150])).run Tryd.prog w = .ok (some (69, a, 150)) w := by kernel_rfl
theorem Tryd.abPartsN (a : Addr) (w : World) : (ReflectliteValue.parts (.agg #[.pointer (some ⟨5, 67, none⟩), .pointer (some a), .int .u64 406])).run Tryd.prog w = .ok (some (67, a, 406)) w := by kernel_rfl
theorem Tryd.abPartsM (a : Addr) (w : World) : (ReflectliteValue.parts (.agg #[.pointer (some ⟨5, 67, none⟩), .pointer (some a), .int .u64 150])).run Tryd.prog w = .ok (some (67, a, 150)) w := by kernel_rfl
theorem Tryd.abElemOf (w : World) : (Rtype.elem? 69).run Tryd.prog w = .ok (some 67) w := by kernel_rfl
theorem Tryd.abMk (p : Addr) (w : World) : (ReflectliteValue.mk 67 p ReflectliteValue.flagAddr).run Tryd.prog w = .ok (.agg #[.pointer (some ⟨5, 67, none⟩), .pointer (some p), .int .u64 406]) w := by kernel_rfl
theorem Tryd.abDirect (w : World) : (Rtype.directlyAssignable 67 67).run Tryd.prog w = .ok true w := by kernel_rfl

theorem Tryd.abIsNil (a p : Addr) (W : World) (ha : W.cell? a = some (.pointer (some p))) :
    (callFunc 39 #[.agg #[.pointer (some ⟨5, 69, none⟩), .pointer (some a), .int .u64 150]]).run Tryd.prog W = .ok (.value (.bool false)) W := by
  rw [@run_callFunc_extern Tryd.prog 39 _ (ReflectliteValue.method (ReflectliteValue.valueError "reflectlite.Value.IsNil" 0) ReflectliteValue.isNil) Tryd.func39 (by kernel_rfl) (by kernel_rfl) (by kernel_rfl) (by kernel_rfl)]
  change (Sem.run _ (ReflectliteValue.parts (.agg #[.pointer (some ⟨5, 69, none⟩), .pointer (some a), .int .u64 150]) >>= _) _).andThen _ = _
  simp only [Sem.run_bind, Tryd.abPartsP, Result.andThen]
  simp [ReflectliteValue.isNil, loadVar, isAgg, underlying, Tryd.underlying69, ha, Result.andThen]
theorem Tryd.abElemV (a p : Addr) (W : World) (ha : W.cell? a = some (.pointer (some p))) :
    (callFunc 46 #[.agg #[.pointer (some ⟨5, 69, none⟩), .pointer (some a), .int .u64 150]]).run Tryd.prog W = .ok (.value (.agg #[.pointer (some ⟨5, 67, none⟩), .pointer (some p), .int .u64 406])) W := by
  rw [@run_callFunc_extern Tryd.prog 46 _ (ReflectliteValue.method (ReflectliteValue.valueError "reflectlite.Value.Elem" 0) ReflectliteValue.elem) Tryd.func46 (by kernel_rfl) (by kernel_rfl) (by kernel_rfl) (by kernel_rfl)]
  change (Sem.run _ (ReflectliteValue.parts (.agg #[.pointer (some ⟨5, 69, none⟩), .pointer (some a), .int .u64 150]) >>= _) _).andThen _ = _
  simp only [Sem.run_bind, Tryd.abPartsP, Result.andThen]
  simp [ReflectliteValue.elem, loadVar, isAgg, underlying, Tryd.underlying69, ha, Result.andThen, Tryd.abElemOf, Tryd.abMk]
theorem Tryd.abSet (ta b : Addr) (k : Addr) (old : Value) (W : World) (hb : W.cell? b = some (.pointer (some k))) (ht : W.cell? ta = some old) (hf : W.frozen? ta = false) :
    (callFunc 47 #[.agg #[.pointer (some ⟨5, 67, none⟩), .pointer (some ta), .int .u64 406], .agg #[.pointer (some ⟨5, 67, none⟩), .pointer (some b), .int .u64 150]]).run Tryd.prog W
      = .ok (.value (.tuple #[])) (W.setCell ta (.pointer (some k))) := by
  rw [@run_callFunc_extern Tryd.prog 47 _ ReflectliteValue.set Tryd.func47 (by kernel_rfl) (by kernel_rfl) (by kernel_rfl) (by kernel_rfl)]
  change (Sem.run _ (ReflectliteValue.parts (.agg #[.pointer (some ⟨5, 67, none⟩), .pointer (some ta), .int .u64 406]) >>= fun _ => ReflectliteValue.parts (.agg #[.pointer (some ⟨5, 67, none⟩), .pointer (some b), .int .u64 150]) >>= fun _ => _) _).andThen _ = _
  simp only [Sem.run_bind, Tryd.abPartsN, Tryd.abPartsM, Result.andThen]
  simp [ReflectliteValue.flagAddr, loadVar, isAgg, underlying, Tryd.underlying67, hb, Result.andThen, Tryd.abDirect, storeVar, Value.cells, storeCells, Addr.add]
  rw [run_store Tryd.prog W ta _ _ (by rfl)]
  simp [ht, hf]
set_option maxRecDepth 100000 in
set_option maxHeartbeats 4000000 in
theorem as_broken (t : Addr) (k : Addr) (old : Value) (w : World) (hg : w.cell? ⟨0, 0, none⟩ = some (.iface 108 (.agg #[.pointer (some ⟨5, 26, none⟩)]))) (ht0 : w.cell? t = some old) (hf0 : w.frozen? t = false) :
    Calls Tryd.prog 25 #[.iface 67 (.pointer (some k)), .iface 69 (.pointer (some t))] w fun ev w' => ev = .returned (.bool true) ∧ Fr (fun x => x = t.block) w w' ∧ w'.cell? t = some (.pointer (some k)) := by
  have tO := Tryd.abTypeOf
  have mA := Tryd.asMethodAssignable
  have a25 := Tryd.abAssignableN
  have v25 := Tryd.abValueOfN
  have f6 := Tryd.abValueOfP
  have f7 := Tryd.abTypeP
  have mK := Tryd.asMethodKind
  have mE := Tryd.asMethodElem
  have mI := Tryd.asMethodImplements
  have k27 := Tryd.abKindP
  have k25 := Tryd.abKindN
  have e27 := Tryd.abElemP
  have i25 := Tryd.abImplementsN
  have htl : t.block < w.heap.size := World.block_lt_of_cell? w _ ht0
  have hlt : 0 < w.heap.size := World.block_lt_of_cell? w _ hg
  have n8 := Tryd.abIsNil ⟨w.heap.size, 0, none⟩ t ((w.alloc (.cells #[.pointer (some t)] 69)).alloc (.cells #[.pointer (some ⟨5, 69, none⟩), .pointer (some ⟨w.heap.size, 0, none⟩), .int .u64 150] 91)) (by simp)
  have hg2 : ((w.alloc (.cells #[.pointer (some t)] 69)).alloc (.cells #[.pointer (some ⟨5, 69, none⟩), .pointer (some ⟨w.heap.size, 0, none⟩), .int .u64 150] 91)).cell? ⟨0, 0, none⟩ = some (.iface 108 (.agg #[.pointer (some ⟨5, 26, none⟩)])) := by
    rw [World.cell?_alloc_lt _ _ ⟨0, 0, none⟩ (by first | (simp; omega) | simp), World.cell?_alloc_lt _ _ ⟨0, 0, none⟩ hlt]; exact hg
  have el := Tryd.abElemV ⟨w.heap.size, 0, none⟩ t (((w.alloc (.cells #[.pointer (some t)] 69)).alloc (.cells #[.pointer (some ⟨5, 69, none⟩), .pointer (some ⟨w.heap.size, 0, none⟩), .int .u64 150] 91)).alloc (.cells #[.pointer (some ⟨5, 69, none⟩), .pointer (some ⟨w.heap.size, 0, none⟩), .int .u64 150] 91)) (by rw [World.cell?_alloc_lt _ _ ⟨w.heap.size, 0, none⟩ (by simp; omega)]; simp)
  have HW := Lib.hid (show ((((w.alloc (.cells #[.pointer (some t)] 69)).alloc (.cells #[.pointer (some ⟨5, 69, none⟩), .pointer (some ⟨w.heap.size, 0, none⟩), .int .u64 150] 91)).alloc (.cells #[.pointer (some ⟨5, 69, none⟩), .pointer (some ⟨w.heap.size, 0, none⟩), .int .u64 150] 91)).alloc (.cells #[.pointer (some k)] 67)).cell? t = some old by rw [World.cell?_alloc_lt _ _ t (by simp; omega), World.cell?_alloc_lt _ _ t (by simp; omega), World.cell?_alloc_lt _ _ t (by simp; omega), World.cell?_alloc_lt _ _ t htl]; exact ht0)
  have st := Tryd.abSet t ⟨w.heap.size + 1 + 1 + 1, 0, none⟩ k old ((((w.alloc (.cells #[.pointer (some t)] 69)).alloc (.cells #[.pointer (some ⟨5, 69, none⟩), .pointer (some ⟨w.heap.size, 0, none⟩), .int .u64 150] 91)).alloc (.cells #[.pointer (some ⟨5, 69, none⟩), .pointer (some ⟨w.heap.size, 0, none⟩), .int .u64 150] 91)).alloc (.cells #[.pointer (some k)] 67))
    (by rw [World.cell?_alloc_at _ _ _ _ (by simp)]; rfl)
    HW.out
    (by rw [World.frozen?_alloc_old _ _ t (by simp; omega), World.frozen?_alloc_old _ _ t (by simp; omega), World.frozen?_alloc_old _ _ t (by simp; omega), World.frozen?_alloc_old _ _ t (Nat.ne_of_lt htl)]; exact hf0)
  go_enter Tryd.func25, Tryd.ntmps25
  go_wp2
  refine wp_loop_rounds 1 ?_
  rw [rounds_succ]
  go_wp2
  go_ret
  refine ⟨rfl, Fr.setCell (((((Fr.refl (fun x => x = t.block) w).alloc _).alloc _).alloc _).alloc _) (fun _ => rfl) _, ?_⟩
  exact World.cell?_setCell_same _ _ _ HW.out

end Go.Proofs.YtacafjbbdklleaaDoor
