/- errors.Is, at a codec's Fault and an Errno. -/
import Derived.Test.YtblfnbmgijppmaaDoorCe
import Derived.LaidEql
import Derived.Stop.Asserts
import Derived.RowKitTokens
namespace Go.Proofs.YtblfnbmgijppmaaDoor
open Go.RowKit Go.Extern.Stop Go.Stop Go.Extern

theorem Tryd.isTypeOfN (v : Value) (w : World) : (callFunc 53 #[.iface 59 v]).run Tryd.prog w = .ok (.value (.iface 115 (.agg #[.pointer (some ⟨5, 59, none⟩)]))) w := by kernel_rfl
theorem Tryd.isComparableN (w : World) : (callFunc 104 #[.agg #[.pointer (some ⟨5, 59, none⟩)]]).run Tryd.prog w = .ok (.value (.bool true)) w := by kernel_rfl
theorem Tryd.isMethodComparable (h : Value) (w : World) : (Go.method (173 + 100) 115 (.agg #[h]) "Comparable").run Tryd.prog w = .ok (104, .agg #[h]) w := by kernel_rfl
theorem Tryd.methodUnwrapF (v : Value) (w : World) : (Go.method (173 + 100) 73 v "Unwrap").run Tryd.prog w = .ok (98, v) w := by kernel_rfl
theorem Tryd.isCompN : (Tryd.prog.info? 59).map (·.comparable) = some true := by kernel_rfl

theorem Tryd.noIsF (v : Value) (xT : TypeId) (w : World) : (Instr.typeAssert (.iface 73 v) xT 126 true).run Tryd.prog w = .ok (.tuple #[.nilIface, .bool false]) w := run_typeAssert_lacksB Tryd.underlying126 (by kernel_rfl) (by kernel_rfl) v xT w
theorem Tryd.hasUnwrapF (v : Value) (xT : TypeId) (w : World) : (Instr.typeAssert (.iface 73 v) xT 122 true).run Tryd.prog w = .ok (.tuple #[.iface 73 v, .bool true]) w := run_typeAssert_hasB Tryd.underlying122 (by kernel_rfl) v xT w
theorem Tryd.noIsN (v : Value) (xT : TypeId) (w : World) : (Instr.typeAssert (.iface 59 v) xT 126 true).run Tryd.prog w = .ok (.tuple #[.nilIface, .bool false]) w := run_typeAssert_lacksB Tryd.underlying126 (by kernel_rfl) (by kernel_rfl) v xT w
theorem Tryd.noUnwrapN (v : Value) (xT : TypeId) (w : World) : (Instr.typeAssert (.iface 59 v) xT 122 true).run Tryd.prog w = .ok (.tuple #[.nilIface, .bool false]) w := run_typeAssert_lacksB Tryd.underlying122 (by kernel_rfl) (by kernel_rfl) v xT w
theorem Tryd.noUnwrapsN (v : Value) (xT : TypeId) (w : World) : (Instr.typeAssert (.iface 59 v) xT 123 true).run Tryd.prog w = .ok (.tuple #[.nilIface, .bool false]) w := run_typeAssert_lacksB Tryd.underlying123 (by kernel_rfl) (by kernel_rfl) v xT w

/-- Two interface values of one integer type are equal as their numbers are. -/
theorem run_eql_ints {P : Program} (w : World) {ti tn : TypeId} {ms : Array (String × TypeId)} {i : TypeInfo} {k : IntKind} (a b : Int)
    (hi : P.underlying ti = some (.interface ms)) (hn : P.underlying tn = some (.int k)) (hinfo : P.info? tn = some i) (hcomp : i.comparable = true) :
    (binOp .eql ti (.iface tn (.int k a)) (.iface tn (.int k b))).run P w = .ok (.bool (a == b)) w := by
  have h : ∀ d : Nat, (Op.equalIn (d + 2) ti (.iface tn (.int k a)) (.iface tn (.int k b))).run P w = .ok (a == b) w := fun d => by
    simp [Op.equalIn, run_underlying hi, run_underlying hn, typeInfo, hinfo, hcomp]
  simp only [binOp]
  simp [Op.equal, Op.maxDepth, h 9998]

set_option maxRecDepth 100000 in
set_option maxHeartbeats 2000000 in
theorem is_fault_same (b o : Nat) (k t : Int) (hk : (k == t) = true) (w : World) (hc : w.cell? ⟨b, o, none⟩ = some (.int .i64 k)) :
    Calls Tryd.prog 31 #[.iface 73 (.pointer (some ⟨b, o, none⟩)), .iface 59 (.int .i64 t)] w fun e w' => e = .returned (.bool true) ∧ w = w' := by
  obtain ⟨i, hi, hcmp⟩ := Option.map_eq_some_iff.1 Tryd.isCompN
  have tT := Tryd.isTypeOfN
  have cT := Tryd.isComparableN
  have mC := Tryd.isMethodComparable
  have mU := Tryd.methodUnwrapF
  have hty := run_eql_iface_types (P := Tryd.prog) 73 59 (.pointer (some ⟨b, o, none⟩)) (.int .i64 t) Tryd.underlying33 (by decide) w
  have heq := run_eql_ints (P := Tryd.prog) w k t Tryd.underlying33 Tryd.underlying59 hi hcmp
  rw [hk] at heq
  clear hi hcmp hk
  have n1 := Tryd.noIsF
  have n2 := Tryd.hasUnwrapF
  have n3 := Tryd.noIsN
  have n4 := Tryd.noUnwrapN
  have n5 := Tryd.noUnwrapsN
  go_enter Tryd.func31, Tryd.ntmps31
  go_wp2
  refine wp_loop_rounds 2 ?_
  rw [rounds_succ]
  go_wp2
  rw [rounds_succ]
  go_wp2
  go_ret
  exact ⟨rfl, rfl⟩

set_option maxRecDepth 100000 in
set_option maxHeartbeats 2000000 in
theorem is_fault_other (b o : Nat) (k t : Int) (hk : (k == t) = false) (w : World) (hc : w.cell? ⟨b, o, none⟩ = some (.int .i64 k)) :
    Calls Tryd.prog 31 #[.iface 73 (.pointer (some ⟨b, o, none⟩)), .iface 59 (.int .i64 t)] w fun e w' => e = .returned (.bool false) ∧ w = w' := by
  obtain ⟨i, hi, hcmp⟩ := Option.map_eq_some_iff.1 Tryd.isCompN
  have tT := Tryd.isTypeOfN
  have cT := Tryd.isComparableN
  have mC := Tryd.isMethodComparable
  have mU := Tryd.methodUnwrapF
  have hty := run_eql_iface_types (P := Tryd.prog) 73 59 (.pointer (some ⟨b, o, none⟩)) (.int .i64 t) Tryd.underlying33 (by decide) w
  have heq := run_eql_ints (P := Tryd.prog) w k t Tryd.underlying33 Tryd.underlying59 hi hcmp
  rw [hk] at heq
  clear hi hcmp hk
  have n1 := Tryd.noIsF
  have n2 := Tryd.hasUnwrapF
  have n3 := Tryd.noIsN
  have n4 := Tryd.noUnwrapN
  have n5 := Tryd.noUnwrapsN
  go_enter Tryd.func31, Tryd.ntmps31
  go_wp2
  refine wp_loop_rounds 2 ?_
  rw [rounds_succ]
  go_wp2
  rw [rounds_succ]
  go_wp2
  go_ret
  exact ⟨rfl, rfl⟩


end Go.Proofs.YtblfnbmgijppmaaDoor
