/- errors.Is at a Broken; errors.As of one at a **Fault. -/
import Derived.Test.YtacafjbbdklleaaDoorAh
namespace Go.Proofs.YtacafjbbdklleaaDoor
open Go.RowKit Go.Extern.Stop Go.Stop Go.Extern

theorem Tryd.methodUnwrapB (v : Value) (w : World) : (Go.method (166 + 100) 67 v "Unwrap").run Tryd.prog w = .ok (78, v) w := by kernel_rfl
theorem Tryd.noIsB (v : Value) (xT : TypeId) (w : World) : (Instr.typeAssert (.iface 67 v) xT 120 true).run Tryd.prog w = .ok (.tuple #[.nilIface, .bool false]) w := run_typeAssert_lacksB Tryd.underlying120 (by kernel_rfl) (by kernel_rfl) v xT w
theorem Tryd.hasUnwrapB (v : Value) (xT : TypeId) (w : World) : (Instr.typeAssert (.iface 67 v) xT 115 true).run Tryd.prog w = .ok (.tuple #[.iface 67 v, .bool true]) w := run_typeAssert_hasB Tryd.underlying115 (by kernel_rfl) v xT w

set_option maxRecDepth 100000 in
set_option maxHeartbeats 2000000 in
theorem is_brk_same (b : Nat) (k t : Int) (hk : (k == t) = true) (w : World) (hc : w.cell? ⟨b, 1, none⟩ = some (.iface 63 (.int .i64 k))) :
    Calls Tryd.prog 26 #[.iface 67 (.pointer (some ⟨b, 0, none⟩)), .iface 63 (.int .i64 t)] w fun e w' => e = .returned (.bool true) ∧ w = w' := by
  obtain ⟨i, hi, hcmp⟩ := Option.map_eq_some_iff.1 Tryd.isCompN
  have tT := Tryd.isTypeOfN
  have cT := Tryd.isComparableN
  have mC := Tryd.isMethodComparable
  have mU := Tryd.methodUnwrapB
  have hty := run_eql_iface_types (P := Tryd.prog) 67 63 (.pointer (some ⟨b, 0, none⟩)) (.int .i64 t) Tryd.underlying26 (by decide) w
  have heq := run_eql_ints (P := Tryd.prog) w k t Tryd.underlying26 Tryd.underlying63 hi hcmp
  rw [hk] at heq
  clear hi hcmp hk
  have n1 := Tryd.noIsB
  have n2 := Tryd.hasUnwrapB
  have n3 := Tryd.noIsN
  have n4 := Tryd.noUnwrapN
  have n5 := Tryd.noUnwrapsN
  go_enter Tryd.func26, Tryd.ntmps26
  go_wp2
  refine wp_loop_rounds 2 ?_
  rw [rounds_succ]
  go_wp2
  rw [rounds_succ]
  go_wp2
  go_ret
  exact ⟨rfl, rfl⟩

set_option maxRecDepth 100000 in
set_option maxHeartbeats 2000000 in
theorem is_brk_other (b : Nat) (k t : Int) (hk : (k == t) = false) (w : World) (hc : w.cell? ⟨b, 1, none⟩ = some (.iface 63 (.int .i64 k))) :
    Calls Tryd.prog 26 #[.iface 67 (.pointer (some ⟨b, 0, none⟩)), .iface 63 (.int .i64 t)] w fun e w' => e = .returned (.bool false) ∧ w = w' := by
  obtain ⟨i, hi, hcmp⟩ := Option.map_eq_some_iff.1 Tryd.isCompN
  have tT := Tryd.isTypeOfN
  have cT := Tryd.isComparableN
  have mC := Tryd.isMethodComparable
  have mU := Tryd.methodUnwrapB
  have hty := run_eql_iface_types (P := Tryd.prog) 67 63 (.pointer (some ⟨b, 0, none⟩)) (.int .i64 t) Tryd.underlying26 (by decide) w
  have heq := run_eql_ints (P := Tryd.prog) w k t Tryd.underlying26 Tryd.underlying63 hi hcmp
  rw [hk] at heq
  clear hi hcmp hk
  have n1 := Tryd.noIsB
  have n2 := Tryd.hasUnwrapB
  have n3 := Tryd.noIsN
  have n4 := Tryd.noUnwrapN
  have n5 := Tryd.noUnwrapsN
  go_enter Tryd.func26, Tryd.ntmps26
  go_wp2
  refine wp_loop_rounds 2 ?_
  rw [rounds_succ]
  go_wp2
  rw [rounds_succ]
  go_wp2
  go_ret
  exact ⟨rfl, rfl⟩


theorem is_brk_any (g : Nat) (k t : Int) (w : World) (hc : w.cell? ⟨g, 1, none⟩ = some (.iface 63 (.int .i64 k))) :
    Calls Tryd.prog 26 #[.iface 67 (.pointer (some ⟨g, 0, none⟩)), .iface 63 (.int .i64 t)] w fun e w' => e = .returned (.bool (k == t)) ∧ w = w' := by
  cases hq : (k == t) with
  | true => exact is_brk_same g k t hq w hc
  | false => exact is_brk_other g k t hq w hc

theorem Tryd.ammB (w : World) : (callFunc 84 #[.agg #[.pointer (some ⟨5, 67, none⟩)], .iface 108 (.agg #[.pointer (some ⟨5, 74, none⟩)])]).run Tryd.prog w = .ok (.value (.bool false)) w := by kernel_rfl
theorem Tryd.ammN (w : World) : (callFunc 84 #[.agg #[.pointer (some ⟨5, 63, none⟩)], .iface 108 (.agg #[.pointer (some ⟨5, 74, none⟩)])]).run Tryd.prog w = .ok (.value (.bool false)) w := by kernel_rfl
theorem Tryd.noAsB (v : Value) (xT : TypeId) (w : World) : (Instr.typeAssert (.iface 67 v) xT 112 true).run Tryd.prog w = .ok (.tuple #[.nilIface, .bool false]) w := run_typeAssert_lacksB Tryd.underlying112 (by kernel_rfl) (by kernel_rfl) v xT w
theorem Tryd.noAsN (v : Value) (xT : TypeId) (w : World) : (Instr.typeAssert (.iface 63 v) xT 112 true).run Tryd.prog w = .ok (.tuple #[.nilIface, .bool false]) w := run_typeAssert_lacksB Tryd.underlying112 (by kernel_rfl) (by kernel_rfl) v xT w

set_option maxRecDepth 100000 in
set_option maxHeartbeats 4000000 in
theorem as_miss (t : Addr) (g : Nat) (k : Int) (old : Value) (w : World) (hg : ErrT w) (ht0 : w.cell? t = some old) (hc : w.cell? ⟨g, 1, none⟩ = some (.iface 63 (.int .i64 k))) :
    Calls Tryd.prog 25 #[.iface 67 (.pointer (some ⟨g, 0, none⟩)), .iface 75 (.pointer (some t))] w fun ev w' => ev = .returned (.bool false) ∧ Fr (fun _ => False) w w' := by
  have tO := Tryd.abTypeOf
  have tT := Tryd.isTypeOfN
  have mA := Tryd.asMethodAssignable
  have a1 := Tryd.ammB
  have a2 := Tryd.ammN
  have f6 := Tryd.afValueOfP
  have f7 := Tryd.afTypeP
  have mK := Tryd.asMethodKind
  have mE := Tryd.asMethodElem
  have mI := Tryd.asMethodImplements
  have k27 := Tryd.afKindP
  have k25 := Tryd.afKindN
  have e27 := Tryd.afElemP
  have i25 := Tryd.afImplementsN
  have mU := Tryd.methodUnwrapB
  have n1 := Tryd.noAsB
  have n2 := Tryd.noAsN
  have n3 := Tryd.hasUnwrapB
  have n4 := Tryd.noUnwrapN
  have n5 := Tryd.noUnwrapsN
  unfold ErrT at hg
  have htl : t.block < w.heap.size := World.block_lt_of_cell? w _ ht0
  have hgl : g < w.heap.size := World.block_lt_of_cell? w _ hc
  have hlt : 0 < w.heap.size := World.block_lt_of_cell? w _ hg
  have n8 := Tryd.afIsNil ⟨w.heap.size, 0, none⟩ t ((w.alloc (.cells #[.pointer (some t)] 75)).alloc (.cells #[.pointer (some ⟨5, 75, none⟩), .pointer (some ⟨w.heap.size, 0, none⟩), .int .u64 150] 91)) (by simp)
  have hg2 : ((w.alloc (.cells #[.pointer (some t)] 75)).alloc (.cells #[.pointer (some ⟨5, 75, none⟩), .pointer (some ⟨w.heap.size, 0, none⟩), .int .u64 150] 91)).cell? ⟨0, 0, none⟩ = some (.iface 108 (.agg #[.pointer (some ⟨5, 26, none⟩)])) := by
    rw [World.cell?_alloc_lt _ _ ⟨0, 0, none⟩ (by first | (simp; omega) | simp), World.cell?_alloc_lt _ _ ⟨0, 0, none⟩ hlt]; exact hg
  have HFW : Hid (Fr (fun _ => False) w (((w.alloc (.cells #[.pointer (some t)] 75)).alloc (.cells #[.pointer (some ⟨5, 75, none⟩), .pointer (some ⟨w.heap.size, 0, none⟩), .int .u64 150] 91)).alloc (.cells #[.pointer (some ⟨5, 75, none⟩), .pointer (some ⟨w.heap.size, 0, none⟩), .int .u64 150] 91))) := Lib.hid ((((Fr.refl _ _).alloc _).alloc _).alloc _)
  have hc2 : (((w.alloc (.cells #[.pointer (some t)] 75)).alloc (.cells #[.pointer (some ⟨5, 75, none⟩), .pointer (some ⟨w.heap.size, 0, none⟩), .int .u64 150] 91)).alloc (.cells #[.pointer (some ⟨5, 75, none⟩), .pointer (some ⟨w.heap.size, 0, none⟩), .int .u64 150] 91)).cell? ⟨g, 1, none⟩ = some (.iface 63 (.int .i64 k)) := by
    rw [HFW.out.cell hgl (fun h => h)]; exact hc
  go_enter Tryd.func25, Tryd.ntmps25
  go_wp2
  refine wp_loop_rounds 2 ?_
  rw [rounds_succ]
  go_wp2
  rw [rounds_succ]
  go_wp2
  go_ret
  exact ⟨rfl, HFW.out⟩
end Go.Proofs.YtacafjbbdklleaaDoor
