/- errors.Is, at a codec's Fault and an Errno. -/
import Derived.Test.YtacafjbbdklleaaDoorCe
import Derived.LaidEql
import Derived.Stop.Asserts
import Derived.RowKitTokens
namespace Go.Proofs.YtacafjbbdklleaaDoor
open Go.RowKit Go.Extern.Stop Go.Stop Go.Extern

theorem Tryd.isTypeOfN (v : Value) (w : World) : (callFunc 41 #[.iface 63 v]).run Tryd.prog w = .ok (.value (.iface 108 (.agg #[.pointer (some ⟨5, 63, none⟩)]))) w := by kernel_rfl
theorem Tryd.isComparableN (w : World) : (callFunc 85 #[.agg #[.pointer (some ⟨5, 63, none⟩)]]).run Tryd.prog w = .ok (.value (.bool true)) w := by kernel_rfl
theorem Tryd.isMethodComparable (h : Value) (w : World) : (Go.method (166 + 100) 108 (.agg #[h]) "Comparable").run Tryd.prog w = .ok (85, .agg #[h]) w := by kernel_rfl
theorem Tryd.methodUnwrapF (v : Value) (w : World) : (Go.method (166 + 100) 74 v "Unwrap").run Tryd.prog w = .ok (79, v) w := by kernel_rfl
theorem Tryd.isCompN : (Tryd.prog.info? 63).map (·.comparable) = some true := by kernel_rfl

theorem Tryd.noIsF (v : Value) (xT : TypeId) (w : World) : (Instr.typeAssert (.iface 74 v) xT 120 true).run Tryd.prog w = .ok (.tuple #[.nilIface, .bool false]) w := run_typeAssert_lacksB Tryd.underlying120 (by kernel_rfl) (by kernel_rfl) v xT w
theorem Tryd.hasUnwrapF (v : Value) (xT : TypeId) (w : World) : (Instr.typeAssert (.iface 74 v) xT 115 true).run Tryd.prog w = .ok (.tuple #[.iface 74 v, .bool true]) w := run_typeAssert_hasB Tryd.underlying115 (by kernel_rfl) v xT w
theorem Tryd.noIsN (v : Value) (xT : TypeId) (w : World) : (Instr.typeAssert (.iface 63 v) xT 120 true).run Tryd.prog w = .ok (.tuple #[.nilIface, .bool false]) w := run_typeAssert_lacksB Tryd.underlying120 (by kernel_rfl) (by kernel_rfl) v xT w
theorem Tryd.noUnwrapN (v : Value) (xT : TypeId) (w : World) : (Instr.typeAssert (.iface 63 v) xT 115 true).run Tryd.prog w = .ok (.tuple #[.nilIface, .bool false]) w := run_typeAssert_lacksB Tryd.underlying115 (by kernel_rfl) (by kernel_rfl) v xT w
theorem Tryd.noUnwrapsN (v : Value) (xT : TypeId) (w : World) : (Instr.typeAssert (.iface 63 v) xT 117 true).run Tryd.prog w = .ok (.tuple #[.nilIface, .bool false]) w := run_typeAssert_lacksB Tryd.underlying117 (by kernel_rfl) (by kernel_rfl) v xT w

/-- Two interface values of one integer type are equal as their numbers are. -/
theorem run_eql_ints {P : Program} (w : World) {ti tn : TypeId} {ms : Array (String × TypeId)} {i : TypeInfo} {k : IntKind} (a b : Int)
    (hi : P.underlying ti = some (.interface ms)) (hn : P.underlying tn = some (.int k)) (hinfo : P.info? tn = some i) (hcomp : i.comparable = true) :
    (binOp .eql ti (.iface tn (.int k a)) (.iface tn (.int k b))).run P w = .ok (.bool (a == b)) w := by
  have h : ∀ d : Nat, (Op.equalIn (d + 2) ti (.iface tn (.int k a)) (.iface tn (.int k b))).run P w = .ok (a == b) w := fun d => by
    simp [Op.equalIn, run_underlying hi, run_underlying hn, typeInfo, hinfo, hcomp]
  simp only [binOp]
  simp [Op.equal, Op.maxDepth, h 9998]

set_option maxRecDepth 100000 in
set_option maxHeartbeats 2000000 in
theorem is_fault_same (b o : Nat) (k t : Int) (hk : (k == t) = true) (w : World) (hc : w.cell? ⟨b, o, none⟩ = some (.int .i64 k)) :
    Calls Tryd.prog 26 #[.iface 74 (.pointer (some ⟨b, o, none⟩)), .iface 63 (.int .i64 t)] w fun e w' => e = .returned (.bool true) ∧ w = w' := by
  obtain ⟨i, hi, hcmp⟩ := Option.map_eq_some_iff.1 Tryd.isCompN
  have tT := Tryd.isTypeOfN
  have cT := Tryd.isComparableN
  have mC := Tryd.isMethodComparable
  have mU := Tryd.methodUnwrapF
  have hty := run_eql_iface_types (P := Tryd.prog) 74 63 (.pointer (some ⟨b, o, none⟩)) (.int .i64 t) Tryd.underlying26 (by decide) w
  have heq := run_eql_ints (P := Tryd.prog) w k t Tryd.underlying26 Tryd.underlying63 hi hcmp
  rw [hk] at heq
  clear hi hcmp hk
  have n1 := Tryd.noIsF
  have n2 := Tryd.hasUnwrapF
  have n3 := Tryd.noIsN
  have n4 := Tryd.noUnwrapN
  have n5 := Tryd.noUnwrapsN
  go_enter Tryd.func26, Tryd.ntmps26
  go_wp2
  refine wp_loop_rounds 2 ?_
  rw [rounds_succ]
  go_wp2
  rw [rounds_succ]
  go_wp2
  go_ret
  exact ⟨rfl, rfl⟩

set_option maxRecDepth 100000 in
set_option maxHeartbeats 2000000 in
theorem is_fault_other (b o : Nat) (k t : Int) (hk : (k == t) = false) (w : World) (hc : w.cell? ⟨b, o, none⟩ = some (.int .i64 k)) :
    Calls Tryd.prog 26 #[.iface 74 (.pointer (some ⟨b, o, none⟩)), .iface 63 (.int .i64 t)] w fun e w' => e = .returned (.bool false) ∧ w = w' := by
  obtain ⟨i, hi, hcmp⟩ := Option.map_eq_some_iff.1 Tryd.isCompN
  have tT := Tryd.isTypeOfN
  have cT := Tryd.isComparableN
  have mC := Tryd.isMethodComparable
  have mU := Tryd.methodUnwrapF
  have hty := run_eql_iface_types (P := Tryd.prog) 74 63 (.pointer (some ⟨b, o, none⟩)) (.int .i64 t) Tryd.underlying26 (by decide) w
  have heq := run_eql_ints (P := Tryd.prog) w k t Tryd.underlying26 Tryd.underlying63 hi hcmp
  rw [hk] at heq
  clear hi hcmp hk
  have n1 := Tryd.noIsF
  have n2 := Tryd.hasUnwrapF
  have n3 := Tryd.noIsN
  have n4 := Tryd.noUnwrapN
  have n5 := Tryd.noUnwrapsN
  go_enter Tryd.func26, Tryd.ntmps26
  go_wp2
  refine wp_loop_rounds 2 ?_
  rw [rounds_succ]
  go_wp2
  rw [rounds_succ]
  go_wp2
  go_ret
  exact ⟨rfl, rfl⟩


end Go.Proofs.YtacafjbbdklleaaDoor
