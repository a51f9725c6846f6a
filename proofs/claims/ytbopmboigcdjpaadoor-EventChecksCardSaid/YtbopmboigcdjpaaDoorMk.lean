/- errors.As, errors.Is at an event.Broken; its text. -/
import Derived.Test.YtbopmboigcdjpaaDoorMj
import Derived.Test.YtbopmboigcdjpaaDoorCi
import Derived.Test.YtbopmboigcdjpaaDoorCf
import Derived.Test.YtbopmboigcdjpaaDoorCh
namespace Go.Proofs.YtbopmboigcdjpaaDoor
open Go.RowKit Go.Extern.Stop Go.Stop Go.Extern

theorem Tryd.abTypeOf (v : Value) (w : World) : (callFunc 40 #[.iface 30 v]).run Tryd.prog w = .ok (.value (.iface 99 (.agg #[.pointer (some ⟨5, 30, none⟩)]))) w := by kernel_rfl
theorem Tryd.abValueOfP (t : Addr) (w : World) : (callFunc 36 #[.iface 39 (.pointer (some t))]).run Tryd.prog w
    = .ok (.value (.agg #[.pointer (some ⟨5, 39, none⟩), .pointer (some ⟨w.heap.size, 0, none⟩), .int .u64 150])) (w.alloc (.cells #[.pointer (some t)] 39)) := by kernel_rfl
theorem Tryd.abTypeP (a : Addr) (w : World) : (callFunc 37 #[.agg #[.pointer (some ⟨5, 39, none⟩), .pointer (some a), .int .u64 150]]).run Tryd.prog w
    = .ok (.value (.iface 99 (.agg #[.pointer (some ⟨5, 39, none⟩)]))) w := by kernel_rfl
theorem Tryd.abKindP (w : World) : (callFunc 106 #[.pointer (some ⟨5, 39, none⟩)]).run Tryd.prog w = .ok (.value (.int .u8 22)) w := by kernel_rfl
theorem Tryd.abKindN (w : World) : (callFunc 106 #[.pointer (some ⟨5, 30, none⟩)]).run Tryd.prog w = .ok (.value (.int .u8 22)) w := by kernel_rfl
theorem Tryd.abElemP (w : World) : (callFunc 117 #[.agg #[.pointer (some ⟨5, 39, none⟩)]]).run Tryd.prog w = .ok (.value (.iface 99 (.agg #[.pointer (some ⟨5, 30, none⟩)]))) w := by kernel_rfl
theorem Tryd.abImplementsN (w : World) : (callFunc 118 #[.agg #[.pointer (some ⟨5, 30, none⟩)], .iface 99 (.agg #[.pointer (some ⟨5, 28, none⟩)])]).run Tryd.prog w = .ok (.value (.bool true)) w := by kernel_rfl
theorem Tryd.abAssignableN (w : World) : (callFunc 115 #[.agg #[.pointer (some ⟨5, 30, none⟩)], .iface 99 (.agg #[.pointer (some ⟨5, 30, none⟩)])]).run Tryd.prog w = .ok (.value (.bool true)) w := by kernel_rfl
theorem Tryd.abValueOfN (k : Addr) (w : World) : (callFunc 36 #[.iface 30 (.pointer (some k))]).run Tryd.prog w
    = .ok (.value (.agg #[.pointer (some ⟨5, 30, none⟩), .pointer (some ⟨w.heap.size, 0, none⟩), .int .u64 150])) (w.alloc (.cells #[.pointer (some k)] 30)) := by kernel_rfl

theorem Tryd.abPartsP (a : Addr) (w : World) : (ReflectliteValue.parts (.agg #[.pointer (some ⟨5, 39, none⟩), .pointer (some a), .int .u64 150])).run Tryd.prog w = .ok (some (39, a, 150)) w := by kernel_rfl
theorem Tryd.abPartsN (a : Addr) (w : World) : (ReflectliteValue.parts (.agg #[.pointer (some ⟨5, 30, none⟩), .pointer (some a), .int .u64 406])).run Tryd.prog w = .ok (some (30, a, 406)) w := by kernel_rfl
theorem Tryd.abPartsM (a : Addr) (w : World) : (ReflectliteValue.parts (.agg #[.pointer (some ⟨5, 30, none⟩), .pointer (some a), .int .u64 150])).run Tryd.prog w = .ok (some (30, a, 150)) w := by kernel_rfl
theorem Tryd.abElemOf (w : World) : (Rtype.elem? 39).run Tryd.prog w = .ok (some 30) w := by kernel_rfl
theorem Tryd.abMk (p : Addr) (w : World) : (ReflectliteValue.mk 30 p ReflectliteValue.flagAddr).run Tryd.prog w = .ok (.agg #[.pointer (some ⟨5, 30, none⟩), .pointer (some p), .int .u64 406]) w := by kernel_rfl
theorem Tryd.abDirect (w : World) : (Rtype.directlyAssignable 30 30).run Tryd.prog w = .ok true w := by kernel_rfl

theorem Tryd.abIsNil (a p : Addr) (W : World) (ha : W.cell? a = some (.pointer (some p))) :
    (callFunc 38 #[.agg #[.pointer (some ⟨5, 39, none⟩), .pointer (some a), .int .u64 150]]).run Tryd.prog W = .ok (.value (.bool false)) W := by
  rw [@run_callFunc_extern Tryd.prog 38 _ (ReflectliteValue.method (ReflectliteValue.valueError "reflectlite.Value.IsNil" 0) ReflectliteValue.isNil) Tryd.func38 (by kernel_rfl) (by kernel_rfl) (by kernel_rfl) (by kernel_rfl)]
  change (Sem.run _ (ReflectliteValue.parts (.agg #[.pointer (some ⟨5, 39, none⟩), .pointer (some a), .int .u64 150]) >>= _) _).andThen _ = _
  simp only [Sem.run_bind, Tryd.abPartsP, Result.andThen]
  simp [ReflectliteValue.isNil, loadVar, isAgg, underlying, Tryd.underlying39, ha, Result.andThen]
theorem Tryd.abElemV (a p : Addr) (W : World) (ha : W.cell? a = some (.pointer (some p))) :
    (callFunc 55 #[.agg #[.pointer (some ⟨5, 39, none⟩), .pointer (some a), .int .u64 150]]).run Tryd.prog W = .ok (.value (.agg #[.pointer (some ⟨5, 30, none⟩), .pointer (some p), .int .u64 406])) W := by
  rw [@run_callFunc_extern Tryd.prog 55 _ (ReflectliteValue.method (ReflectliteValue.valueError "reflectlite.Value.Elem" 0) ReflectliteValue.elem) Tryd.func55 (by kernel_rfl) (by kernel_rfl) (by kernel_rfl) (by kernel_rfl)]
  change (Sem.run _ (ReflectliteValue.parts (.agg #[.pointer (some ⟨5, 39, none⟩), .pointer (some a), .int .u64 150]) >>= _) _).andThen _ = _
  simp only [Sem.run_bind, Tryd.abPartsP, Result.andThen]
  simp [ReflectliteValue.elem, loadVar, isAgg, underlying, Tryd.underlying39, ha, Result.andThen, Tryd.abElemOf, Tryd.abMk]
theorem Tryd.abSet (ta b : Addr) (k : Addr) (old : Value) (W : World) (hb : W.cell? b = some (.pointer (some k))) (ht : W.cell? ta = some old) (hf : W.frozen? ta = false) :
    (callFunc 56 #[.agg #[.pointer (some ⟨5, 30, none⟩), .pointer (some ta), .int .u64 406], .agg #[.pointer (some ⟨5, 30, none⟩), .pointer (some b), .int .u64 150]]).run Tryd.prog W
      = .ok (.value (.tuple #[])) (W.setCell ta (.pointer (some k))) := by
  rw [@run_callFunc_extern Tryd.prog 56 _ ReflectliteValue.set Tryd.func56 (by kernel_rfl) (by kernel_rfl) (by kernel_rfl) (by kernel_rfl)]
  change (Sem.run _ (ReflectliteValue.parts (.agg #[.pointer (some ⟨5, 30, none⟩), .pointer (some ta), .int .u64 406]) >>= fun _ => ReflectliteValue.parts (.agg #[.pointer (some ⟨5, 30, none⟩), .pointer (some b), .int .u64 150]) >>= fun _ => _) _).andThen _ = _
  simp only [Sem.run_bind, Tryd.abPartsN, Tryd.abPartsM, Result.andThen]
  simp [ReflectliteValue.flagAddr, loadVar, isAgg, underlying, Tryd.underlying30, hb, Result.andThen, Tryd.abDirect, storeVar, Value.cells, storeCells, Addr.add]
  rw [run_store Tryd.prog W ta _ _ (by rfl)]
  simp [ht, hf]
set_option maxRecDepth 100000 in
set_option maxHeartbeats 4000000 in
theorem as_broken (t : Addr) (k : Addr) (old : Value) (w : World) (hg : w.cell? ⟨0, 0, none⟩ = some (.iface 99 (.agg #[.pointer (some ⟨5, 28, none⟩)]))) (ht0 : w.cell? t = some old) (hf0 : w.frozen? t = false) :
    Calls Tryd.prog 17 #[.iface 30 (.pointer (some k)), .iface 39 (.pointer (some t))] w fun ev w' => ev = .returned (.bool true) ∧ Fr (fun x => x = t.block) w w' ∧ w'.cell? t = some (.pointer (some k)) := by
  have tO := Tryd.abTypeOf
  have mA := Tryd.asMethodAssignable
  have a25 := Tryd.abAssignableN
  have v25 := Tryd.abValueOfN
  have f6 := Tryd.abValueOfP
  have f7 := Tryd.abTypeP
  have mK := Tryd.asMethodKind
  have mE := Tryd.asMethodElem
  have mI := Tryd.asMethodImplements
  have k27 := Tryd.abKindP
  have k25 := Tryd.abKindN
  have e27 := Tryd.abElemP
  have i25 := Tryd.abImplementsN
  have htl : t.block < w.heap.size := World.block_lt_of_cell? w _ ht0
  have hlt : 0 < w.heap.size := World.block_lt_of_cell? w _ hg
  have n8 := Tryd.abIsNil ⟨w.heap.size, 0, none⟩ t ((w.alloc (.cells #[.pointer (some t)] 39)).alloc (.cells #[.pointer (some ⟨5, 39, none⟩), .pointer (some ⟨w.heap.size, 0, none⟩), .int .u64 150] 71)) (by simp)
  have hg2 : ((w.alloc (.cells #[.pointer (some t)] 39)).alloc (.cells #[.pointer (some ⟨5, 39, none⟩), .pointer (some ⟨w.heap.size, 0, none⟩), .int .u64 150] 71)).cell? ⟨0, 0, none⟩ = some (.iface 99 (.agg #[.pointer (some ⟨5, 28, none⟩)])) := by
    rw [World.cell?_alloc_lt _ _ ⟨0, 0, none⟩ (by first | (simp; omega) | simp), World.cell?_alloc_lt _ _ ⟨0, 0, none⟩ hlt]; exact hg
  have el := Tryd.abElemV ⟨w.heap.size, 0, none⟩ t (((w.alloc (.cells #[.pointer (some t)] 39)).alloc (.cells #[.pointer (some ⟨5, 39, none⟩), .pointer (some ⟨w.heap.size, 0, none⟩), .int .u64 150] 71)).alloc (.cells #[.pointer (some ⟨5, 39, none⟩), .pointer (some ⟨w.heap.size, 0, none⟩), .int .u64 150] 71)) (by rw [World.cell?_alloc_lt _ _ ⟨w.heap.size, 0, none⟩ (by simp; omega)]; simp)
  have HW := Lib.hid (show ((((w.alloc (.cells #[.pointer (some t)] 39)).alloc (.cells #[.pointer (some ⟨5, 39, none⟩), .pointer (some ⟨w.heap.size, 0, none⟩), .int .u64 150] 71)).alloc (.cells #[.pointer (some ⟨5, 39, none⟩), .pointer (some ⟨w.heap.size, 0, none⟩), .int .u64 150] 71)).alloc (.cells #[.pointer (some k)] 30)).cell? t = some old by rw [World.cell?_alloc_lt _ _ t (by simp; omega), World.cell?_alloc_lt _ _ t (by simp; omega), World.cell?_alloc_lt _ _ t (by simp; omega), World.cell?_alloc_lt _ _ t htl]; exact ht0)
  have st := Tryd.abSet t ⟨w.heap.size + 1 + 1 + 1, 0, none⟩ k old ((((w.alloc (.cells #[.pointer (some t)] 39)).alloc (.cells #[.pointer (some ⟨5, 39, none⟩), .pointer (some ⟨w.heap.size, 0, none⟩), .int .u64 150] 71)).alloc (.cells #[.pointer (some ⟨5, 39, none⟩), .pointer (some ⟨w.heap.size, 0, none⟩), .int .u64 150] 71)).alloc (.cells #[.pointer (some k)] 30))
    (by rw [World.cell?_alloc_at _ _ _ _ (by simp)]; rfl)
    HW.out
    (by rw [World.frozen?_alloc_old _ _ t (by simp; omega), World.frozen?_alloc_old _ _ t (by simp; omega), World.frozen?_alloc_old _ _ t (by simp; omega), World.frozen?_alloc_old _ _ t (Nat.ne_of_lt htl)]; exact hf0)
  go_enter Tryd.func17, Tryd.ntmps17
  go_wp2
  refine wp_loop_rounds 1 ?_
  rw [rounds_succ]
  go_wp2
  go_ret
  refine ⟨rfl, Fr.setCell (((((Fr.refl (fun x => x = t.block) w).alloc _).alloc _).alloc _).alloc _) (fun _ => rfl) _, ?_⟩
  exact World.cell?_setCell_same _ _ _ HW.out

theorem Tryd.methodUnwrapB (v : Value) (w : World) : (Go.method (179 + 100) 30 v "Unwrap").run Tryd.prog w = .ok (109, v) w := by kernel_rfl
theorem Tryd.noIsB (v : Value) (xT : TypeId) (w : World) : (Instr.typeAssert (.iface 30 v) xT 111 true).run Tryd.prog w = .ok (.tuple #[.nilIface, .bool false]) w := run_typeAssert_lacksB Tryd.underlying111 (by kernel_rfl) (by kernel_rfl) v xT w
theorem Tryd.hasUnwrapB (v : Value) (xT : TypeId) (w : World) : (Instr.typeAssert (.iface 30 v) xT 106 true).run Tryd.prog w = .ok (.tuple #[.iface 30 v, .bool true]) w := run_typeAssert_hasB Tryd.underlying106 (by kernel_rfl) v xT w

set_option maxRecDepth 100000 in
set_option maxHeartbeats 2000000 in
theorem is_brk_same (b : Nat) (k t : Int) (hk : (k == t) = true) (w : World) (hc : w.cell? ⟨b, 2, none⟩ = some (.iface 43 (.int .i64 k))) :
    Calls Tryd.prog 18 #[.iface 30 (.pointer (some ⟨b, 0, none⟩)), .iface 43 (.int .i64 t)] w fun e w' => e = .returned (.bool true) ∧ w = w' := by
  obtain ⟨i, hi, hcmp⟩ := Option.map_eq_some_iff.1 Tryd.isCompN
  have tT := Tryd.isTypeOfN
  have cT := Tryd.isComparableN
  have mC := Tryd.isMethodComparable
  have mU := Tryd.methodUnwrapB
  have hty := run_eql_iface_types (P := Tryd.prog) 30 43 (.pointer (some ⟨b, 0, none⟩)) (.int .i64 t) Tryd.underlying28 (by decide) w
  have heq := run_eql_ints (P := Tryd.prog) w k t Tryd.underlying28 Tryd.underlying43 hi hcmp
  rw [hk] at heq
  clear hi hcmp hk
  have n1 := Tryd.noIsB
  have n2 := Tryd.hasUnwrapB
  have n3 := Tryd.noIsN
  have n4 := Tryd.noUnwrapN
  have n5 := Tryd.noUnwrapsN
  go_enter Tryd.func18, Tryd.ntmps18
  go_wp2
  refine wp_loop_rounds 2 ?_
  rw [rounds_succ]
  go_wp2
  rw [rounds_succ]
  go_wp2
  go_ret
  exact ⟨rfl, rfl⟩

set_option maxRecDepth 100000 in
set_option maxHeartbeats 2000000 in
theorem is_brk_other (b : Nat) (k t : Int) (hk : (k == t) = false) (w : World) (hc : w.cell? ⟨b, 2, none⟩ = some (.iface 43 (.int .i64 k))) :
    Calls Tryd.prog 18 #[.iface 30 (.pointer (some ⟨b, 0, none⟩)), .iface 43 (.int .i64 t)] w fun e w' => e = .returned (.bool false) ∧ w = w' := by
  obtain ⟨i, hi, hcmp⟩ := Option.map_eq_some_iff.1 Tryd.isCompN
  have tT := Tryd.isTypeOfN
  have cT := Tryd.isComparableN
  have mC := Tryd.isMethodComparable
  have mU := Tryd.methodUnwrapB
  have hty := run_eql_iface_types (P := Tryd.prog) 30 43 (.pointer (some ⟨b, 0, none⟩)) (.int .i64 t) Tryd.underlying28 (by decide) w
  have heq := run_eql_ints (P := Tryd.prog) w k t Tryd.underlying28 Tryd.underlying43 hi hcmp
  rw [hk] at heq
  clear hi hcmp hk
  have n1 := Tryd.noIsB
  have n2 := Tryd.hasUnwrapB
  have n3 := Tryd.noIsN
  have n4 := Tryd.noUnwrapN
  have n5 := Tryd.noUnwrapsN
  go_enter Tryd.func18, Tryd.ntmps18
  go_wp2
  refine wp_loop_rounds 2 ?_
  rw [rounds_succ]
  go_wp2
  rw [rounds_succ]
  go_wp2
  go_ret
  exact ⟨rfl, rfl⟩


theorem is_brk_any (g : Nat) (k t : Int) (w : World) (hc : w.cell? ⟨g, 2, none⟩ = some (.iface 43 (.int .i64 k))) :
    Calls Tryd.prog 18 #[.iface 30 (.pointer (some ⟨g, 0, none⟩)), .iface 43 (.int .i64 t)] w fun e w' => e = .returned (.bool (k == t)) ∧ w = w' := by
  cases hq : (k == t) with
  | true => exact is_brk_same g k t hq w hc
  | false => exact is_brk_other g k t hq w hc

end Go.Proofs.YtbopmboigcdjpaaDoor
